/-
  Contracts of the functions on one rod: bounds, validity, thickness, lowest terms. No condition of a statement lies here.
-/
import Derived.Test.YtcpaenmhnoagdabIn
import Derived.WalkKit
import Derived.ProofKit
import Derived.OpenShut
import Derived.RegionTactic
import Derived.ChangeAlike
import Derived.Deep.QuietTactic
import Derived.BigQuiet
import Derived.Lib.Hide
import Derived.Deep.DeepCutAuto
import Derived.Deep.RegionHeld3
import Derived.Outline
import Derived.Handy
namespace Go.Proofs.Ytcpaenmhnoagdab.rod
open Go.ChangeShapes Go.WideShapes Go.ChangeAt Go.RowKit Go.Proofs.Ytcpaenmhnoagdab.mem
set_option linter.unusedVariables false

theorem long_s (n : Int) (w : World) :
    Calls Try.prog 86 #[.int .i64 n] w fun e w' => e = .returned (.bool (inB n 100 3000)) ∧ w = w' := by
  go_enter Try.func86, Try.ntmps86
  go_wp2_with (go_at_call 87; refine (in_s _ _ _ _).mono ?_; rintro e w' ⟨rfl, rfl⟩)
  go_ret
  exact ⟨rfl, rfl⟩

/-- a rod is valid -/
def rodB (L B T : Int) : Bool := inB L 100 3000 && (inB B 1 300 && inB T 1 B)

theorem rodB_of {L B T : Int} (h : rodB L B T = true) : 100 ≤ L ∧ L ≤ 3000 ∧ 1 ≤ B ∧ B ≤ 300 ∧ 1 ≤ T ∧ T ≤ B := by
  unfold rodB at h
  simp only [Bool.and_eq_true] at h
  obtain ⟨h2, h3, h4⟩ := h
  obtain ⟨a1, a2⟩ := inB_of h2
  obtain ⟨b1, b2⟩ := inB_of h3
  obtain ⟨c1, c2⟩ := inB_of h4
  exact ⟨a1, a2, b1, b2, c1, c2⟩

set_option maxHeartbeats 1000000 in
theorem one_s (b o : Nat) (L B T : Int) (w : World) (h0 : w.cell? ⟨b, o, none⟩ = some (.int .i64 L)) (h1 : w.cell? ⟨b, o + 1, none⟩ = some (.int .i64 B)) (h2 : w.cell? ⟨b, o + 2, none⟩ = some (.int .i64 T)) :
    Calls Try.prog 123 #[.pointer (some ⟨b, o, none⟩)] w fun e w' => e = .returned (.bool (rodB L B T)) ∧ ∃ n, w' = w.drewN n := by
  unfold rodB
  cases k0 : inB L 100 3000
  · go_enter Try.func123, Try.ntmps123
    go_wp2_with fail
    go_quiet ((go_at_call 86; exact Calls.quiet_of_same ((long_s _ _).mono fun _ _ ⟨p, q⟩ => ⟨p.trans (by rw [k0]), q.symm⟩)))
    go_wp2
    go_ret
    exact ⟨rfl, _, rfl⟩
  · cases k1 : inB B 1 300
    · go_enter Try.func123, Try.ntmps123
      go_wp2_with fail
      go_quiet ((first | (go_at_call 86; exact Calls.quiet_of_same ((long_s _ _).mono fun _ _ ⟨p, q⟩ => ⟨p.trans (by rw [k0]), q.symm⟩)) | (go_at_call 87; exact Calls.quiet_of_same ((in_s _ _ _ _).mono fun _ _ ⟨p, q⟩ => ⟨p.trans (by rw [k1]), q.symm⟩))))
      go_wp2
      go_ret
      exact ⟨rfl, _, rfl⟩
    · cases k2 : inB T 1 B
      all_goals
        go_enter Try.func123, Try.ntmps123
        go_wp2_with fail
        go_quiet ((first | (go_at_call 86; exact Calls.quiet_of_same ((long_s _ _).mono fun _ _ ⟨p, q⟩ => ⟨p.trans (by rw [k0]), q.symm⟩)) | (go_at_call 87; exact Calls.quiet_of_same ((in_s _ _ _ _).mono fun _ _ ⟨p, q⟩ => ⟨p.trans (by first | rw [k1] | rw [k2]), q.symm⟩))))
        go_wp2
        go_ret
        exact ⟨rfl, _, rfl⟩

set_option maxHeartbeats 1000000 in
theorem rod_i (L B T : Int) (w : World) :
    Calls Try.prog 74 #[.agg #[.int .i64 L, .int .i64 B, .int .i64 T]] w fun e w' => e = .returned (.bool (rodB L B T)) ∧ Below w.heap.size w w' := by
  unfold rodB
  cases h1 : inB L 100 3000
  · go_enter Try.func74, Try.ntmps74
    go_wp2_with (go_at_call 88; refine (in_i _ _ _ _).mono ?_; rintro e w' ⟨rfl, rfl⟩)
    go_ret
    exact ⟨rfl, by go_grown⟩
  · cases h2 : inB B 1 300
    · go_enter Try.func74, Try.ntmps74
      go_wp2_with (go_at_call 88; refine (in_i _ _ _ _).mono ?_; rintro e w' ⟨rfl, rfl⟩)
      go_ret
      exact ⟨rfl, by go_grown⟩
    · cases h3 : inB T 1 B
      all_goals
        go_enter Try.func74, Try.ntmps74
        go_wp2_with (go_at_call 88; refine (in_i _ _ _ _).mono ?_; rintro e w' ⟨rfl, rfl⟩)
        go_ret
        exact ⟨rfl, by go_grown⟩

end Go.Proofs.Ytcpaenmhnoagdab.rod
