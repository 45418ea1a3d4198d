/-
  Contracts of a choice of numbers with the sum of what they bring: one more number; which of two is better.
-/
import Derived.Test.YtcpaenmhnoagdacCutFor
import Derived.Deep.RegionWith
namespace Go.Proofs.Ytcpaenmhnoagdac.rod
open Go.ChangeShapes Go.WideShapes Go.ChangeAt Go.RowKit Go.Proofs.Ytcpaenmhnoagdac.mem Go.Proofs.Ytcpaenmhnoagdac.nums
set_option linter.unusedVariables false

theorem picksOne_c (g : Nat) (x : Nat) (w : World) (hx : x < 32) (hc : w.cell? ⟨g, 0, none⟩ = some (.int .i64 (x : Int))) (hg : g < w.heap.size) :
    Calls Try.prog 63 #[.slice (some ⟨g, 0, none⟩) 1 1] w fun e w' => e = .returned (.int .u32 ((2 ^ x : Nat) : Int)) ∧ w = w' := by
  have h := picksOf_i (some ⟨g, 0, none⟩) 1 1 (fun _ => (x : Int)) w (by unfold maxLen; omega) (fun i _ => ⟨by omega, by omega⟩) (fun _ => ⟨g, 0, rfl, hg, fun j hj => by
    obtain rfl : j = 0 := by omega
    exact hc⟩)
  have e : orC (fun _ => (x : Int)) 1 = 2 ^ x := by simp [orC]
  rw [e] at h
  exact h

end Go.Proofs.Ytcpaenmhnoagdac.rod
