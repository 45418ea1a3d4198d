/-
  Contracts of the functions on one rod: bounds, validity, thickness, lowest terms. No condition of a statement lies here.
-/
import Derived.Test.YtlepgkmpbhlajaaDoorIn
import Derived.WalkKit
import Derived.ProofKit
import Derived.OpenShut
import Derived.RegionTactic
import Derived.ChangeAlike
import Derived.Deep.QuietTactic
import Derived.BigQuiet
import Derived.Lib.Hide
import Derived.Deep.DeepCutAuto
import Derived.Deep.RegionHeld3
import Derived.Outline
import Derived.Handy
namespace Go.Proofs.YtlepgkmpbhlajaaDoor.rod
open Go.ChangeShapes Go.WideShapes Go.ChangeAt Go.RowKit Go.Proofs.YtlepgkmpbhlajaaDoor.mem
set_option linter.unusedVariables false

theorem long_s (n : Int) (w : World) :
    Calls Tryd.prog 83 #[.int .i64 n] w fun e w' => e = .returned (.bool (inB n 100 3000)) ∧ w = w' := by
  go_enter Tryd.func83, Tryd.ntmps83
  go_wp2_with (go_at_call 38; refine (in_s _ _ _ _).mono ?_; rintro e w' ⟨rfl, rfl⟩)
  go_ret
  exact ⟨rfl, rfl⟩

/-- a rod is valid -/
def rodB (L B T : Int) : Bool := inB L 100 3000 && (inB B 1 300 && inB T 1 B)

theorem rodB_of {L B T : Int} (h : rodB L B T = true) : 100 ≤ L ∧ L ≤ 3000 ∧ 1 ≤ B ∧ B ≤ 300 ∧ 1 ≤ T ∧ T ≤ B := by
  unfold rodB at h
  simp only [Bool.and_eq_true] at h
  obtain ⟨h2, h3, h4⟩ := h
  obtain ⟨a1, a2⟩ := inB_of h2
  obtain ⟨b1, b2⟩ := inB_of h3
  obtain ⟨c1, c2⟩ := inB_of h4
  exact ⟨a1, a2, b1, b2, c1, c2⟩

end Go.Proofs.YtlepgkmpbhlajaaDoor.rod
