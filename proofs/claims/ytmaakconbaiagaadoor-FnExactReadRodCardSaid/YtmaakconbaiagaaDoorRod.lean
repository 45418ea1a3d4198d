/-
  Contracts of the functions on one rod: bounds, validity, thickness, lowest terms. No condition of a statement lies here.
-/
import Derived.Test.YtmaakconbaiagaaDoorMem
import Derived.WalkKit
import Derived.ProofKit
import Derived.OpenShut
import Derived.RegionTactic
import Derived.ChangeAlike
import Derived.Deep.QuietTactic
import Derived.BigQuiet
import Derived.Lib.Hide
import Derived.Deep.DeepCutAuto
import Derived.Deep.RegionHeld3
import Derived.Outline
import Derived.Handy
namespace Go.Proofs.YtmaakconbaiagaaDoor.rod
open Go.ChangeShapes Go.WideShapes Go.ChangeAt Go.RowKit Go.Proofs.YtmaakconbaiagaaDoor.mem
set_option linter.unusedVariables false

theorem bcell {W w1 : World} (hb : Below W.heap.size W w1) : (∀ b o, b < W.heap.size → w1.cell? ⟨b, o, none⟩ = W.cell? ⟨b, o, none⟩) ∧ (∀ b o, b < W.heap.size → w1.frozen? ⟨b, o, none⟩ = W.frozen? ⟨b, o, none⟩) :=
  ⟨fun b o h => hb.cell (p := ⟨b, o, none⟩) h, fun b o h => hb.frozen (p := ⟨b, o, none⟩) h⟩


def inB (n l h : Int) : Bool := decide (l ≤ n ∧ n ≤ h)
theorem inB_yes {n l h : Int} (a : l ≤ n) (b : n ≤ h) : inB n l h = true := by unfold inB; simp [a, b]
theorem inB_lo {n l h : Int} (a : ¬ l ≤ n) : inB n l h = false := by unfold inB; simp [a]
theorem inB_hi {n l h : Int} (b : ¬ n ≤ h) : inB n l h = false := by unfold inB; simp [b]
theorem inB_of {n l h : Int} (e : inB n l h = true) : l ≤ n ∧ n ≤ h := by unfold inB at e; simpa using e
theorem inB_not {n l h : Int} (e : inB n l h = false) : ¬ (l ≤ n ∧ n ≤ h) := by unfold inB at e; simpa using e

theorem in_s (n l h : Int) (w : World) :
    Calls Tryd.prog 39 #[.int .i64 n, .int .i64 l, .int .i64 h] w fun e w' => e = .returned (.bool (inB n l h)) ∧ w = w' := by
  by_cases a : l ≤ n
  · by_cases b : n ≤ h
    · rw [inB_yes a b]
      go_enter Tryd.func39, Tryd.ntmps39
      go_wp2
      go_ret
      exact ⟨rfl, rfl⟩
    · rw [inB_hi b]
      go_enter Tryd.func39, Tryd.ntmps39
      go_wp2
      go_ret
      exact ⟨rfl, rfl⟩
  · rw [inB_lo a]
    go_enter Tryd.func39, Tryd.ntmps39
    go_wp2
    go_ret
    exact ⟨rfl, rfl⟩

theorem in_i (n l h : Int) (w : World) :
    Calls Tryd.prog 29 #[.int .i64 n, .int .i64 l, .int .i64 h] w fun e w' => e = .returned (.bool (inB n l h)) ∧ w = w' := by
  by_cases a : l ≤ n
  · by_cases b : n ≤ h
    · rw [inB_yes a b]
      go_enter Tryd.func29, Tryd.ntmps29
      go_wp2
      go_ret
      exact ⟨rfl, rfl⟩
    · rw [inB_hi b]
      go_enter Tryd.func29, Tryd.ntmps29
      go_wp2
      go_ret
      exact ⟨rfl, rfl⟩
  · rw [inB_lo a]
    go_enter Tryd.func29, Tryd.ntmps29
    go_wp2
    go_ret
    exact ⟨rfl, rfl⟩

theorem long_s (n : Int) (w : World) :
    Calls Tryd.prog 46 #[.int .i64 n] w fun e w' => e = .returned (.bool (inB n 100 3000)) ∧ w = w' := by
  go_enter Tryd.func46, Tryd.ntmps46
  go_wp2_with (go_at_call 39; refine (in_s _ _ _ _).mono ?_; rintro e w' ⟨rfl, rfl⟩)
  go_ret
  exact ⟨rfl, rfl⟩

/-- a rod is valid -/
def rodB (L B T : Int) : Bool := inB L 100 3000 && (inB B 1 300 && inB T 1 B)

theorem rodB_of {L B T : Int} (h : rodB L B T = true) : 100 ≤ L ∧ L ≤ 3000 ∧ 1 ≤ B ∧ B ≤ 300 ∧ 1 ≤ T ∧ T ≤ B := by
  unfold rodB at h
  simp only [Bool.and_eq_true] at h
  obtain ⟨h2, h3, h4⟩ := h
  obtain ⟨a1, a2⟩ := inB_of h2
  obtain ⟨b1, b2⟩ := inB_of h3
  obtain ⟨c1, c2⟩ := inB_of h4
  exact ⟨a1, a2, b1, b2, c1, c2⟩

set_option maxHeartbeats 1000000 in
theorem one_s (b o : Nat) (L B T : Int) (w : World) (h0 : w.cell? ⟨b, o, none⟩ = some (.int .i64 L)) (h1 : w.cell? ⟨b, o + 1, none⟩ = some (.int .i64 B)) (h2 : w.cell? ⟨b, o + 2, none⟩ = some (.int .i64 T)) :
    Calls Tryd.prog 30 #[.pointer (some ⟨b, o, none⟩)] w fun e w' => e = .returned (.bool (rodB L B T)) ∧ ∃ n, w' = w.drewN n := by
  unfold rodB
  cases k0 : inB L 100 3000
  · go_enter Tryd.func30, Tryd.ntmps30
    go_wp2_with fail
    go_quiet ((go_at_call 46; exact Calls.quiet_of_same ((long_s _ _).mono fun _ _ ⟨p, q⟩ => ⟨p.trans (by rw [k0]), q.symm⟩)))
    go_wp2
    go_ret
    exact ⟨rfl, _, rfl⟩
  · cases k1 : inB B 1 300
    · go_enter Tryd.func30, Tryd.ntmps30
      go_wp2_with fail
      go_quiet ((first | (go_at_call 46; exact Calls.quiet_of_same ((long_s _ _).mono fun _ _ ⟨p, q⟩ => ⟨p.trans (by rw [k0]), q.symm⟩)) | (go_at_call 39; exact Calls.quiet_of_same ((in_s _ _ _ _).mono fun _ _ ⟨p, q⟩ => ⟨p.trans (by rw [k1]), q.symm⟩))))
      go_wp2
      go_ret
      exact ⟨rfl, _, rfl⟩
    · cases k2 : inB T 1 B
      all_goals
        go_enter Tryd.func30, Tryd.ntmps30
        go_wp2_with fail
        go_quiet ((first | (go_at_call 46; exact Calls.quiet_of_same ((long_s _ _).mono fun _ _ ⟨p, q⟩ => ⟨p.trans (by rw [k0]), q.symm⟩)) | (go_at_call 39; exact Calls.quiet_of_same ((in_s _ _ _ _).mono fun _ _ ⟨p, q⟩ => ⟨p.trans (by first | rw [k1] | rw [k2]), q.symm⟩))))
        go_wp2
        go_ret
        exact ⟨rfl, _, rfl⟩

set_option maxHeartbeats 1000000 in
theorem rod_i (L B T : Int) (w : World) :
    Calls Tryd.prog 32 #[.agg #[.int .i64 L, .int .i64 B, .int .i64 T]] w fun e w' => e = .returned (.bool (rodB L B T)) ∧ Below w.heap.size w w' := by
  unfold rodB
  cases h1 : inB L 100 3000
  · go_enter Tryd.func32, Tryd.ntmps32
    go_wp2_with (go_at_call 29; refine (in_i _ _ _ _).mono ?_; rintro e w' ⟨rfl, rfl⟩)
    go_ret
    exact ⟨rfl, by go_grown⟩
  · cases h2 : inB B 1 300
    · go_enter Tryd.func32, Tryd.ntmps32
      go_wp2_with (go_at_call 29; refine (in_i _ _ _ _).mono ?_; rintro e w' ⟨rfl, rfl⟩)
      go_ret
      exact ⟨rfl, by go_grown⟩
    · cases h3 : inB T 1 B
      all_goals
        go_enter Tryd.func32, Tryd.ntmps32
        go_wp2_with (go_at_call 29; refine (in_i _ _ _ _).mono ?_; rintro e w' ⟨rfl, rfl⟩)
        go_ret
        exact ⟨rfl, by go_grown⟩

end Go.Proofs.YtmaakconbaiagaaDoor.rod
