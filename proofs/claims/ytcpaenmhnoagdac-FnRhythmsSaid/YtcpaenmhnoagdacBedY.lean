/-
  Contracts of what a bed yields; of YieldNow, of the model's and of the program's; of the laws' helpers on one bed.
-/
import Derived.Test.YtcpaenmhnoagdacBed
import Derived.Test.YtcpaenmhnoagdacNums
namespace Go.Proofs.Ytcpaenmhnoagdac.rod
open Go.ChangeShapes Go.WideShapes Go.ChangeAt Go.RowKit Go.Proofs.Ytcpaenmhnoagdac.mem Go.Proofs.Ytcpaenmhnoagdac.nums
set_option linter.unusedVariables false

/-- what a bed yields that was cut t years ago -/
def yl (m : Nat) (Y : Nat → Int) (t : Int) : Int := if t = 0 then 0 else if t ≤ m then Y (t.toNat - 1) else Y (m - 1)
theorem yl_zero {m : Nat} {Y : Nat → Int} : yl m Y 0 = 0 := rfl
theorem yl_in {m : Nat} {Y : Nat → Int} {t : Int} (h : t ≠ 0) (h2 : t ≤ m) : yl m Y t = Y (t.toNat - 1) := by unfold yl; rw [if_neg h, if_pos h2]
theorem yl_out {m : Nat} {Y : Nat → Int} {t : Int} (h : t ≠ 0) (h2 : ¬ t ≤ m) : yl m Y t = Y (m - 1) := by unfold yl; rw [if_neg h, if_neg h2]
theorem yl_bd {m : Nat} {Y : Nat → Int} {t : Int} (hm : 1 ≤ m) (hY : ∀ i, i < m → 0 ≤ Y i ∧ Y i ≤ 10000) (ht : 0 ≤ t) : 0 ≤ yl m Y t ∧ yl m Y t ≤ 10000 := by
  unfold yl
  split
  · omega
  · split
    · exact hY _ (by omega)
    · exact hY _ (by omega)

set_option maxHeartbeats 1000000 in
theorem min_lo (a b : Int) (h : a ≤ b) (w : World) :
    Calls Try.prog 108 #[.int .i64 a, .int .i64 b] w fun e w' => e = .returned (.int .i64 a) ∧ w = w' := by
  by_cases h2 : a < b
  · have h3 : ¬ b < a := by omega
    go_enter Try.func108, Try.ntmps108
    go_wp2
    go_ret
    exact ⟨rfl, rfl⟩
  · obtain rfl : a = b := by omega
    go_enter Try.func108, Try.ntmps108
    go_wp2
    go_ret
    exact ⟨rfl, rfl⟩
set_option maxHeartbeats 1000000 in
theorem min_hi (a b : Int) (h : b < a) (w : World) :
    Calls Try.prog 108 #[.int .i64 a, .int .i64 b] w fun e w' => e = .returned (.int .i64 b) ∧ w = w' := by
  have h3 : ¬ a < b := by omega
  go_enter Try.func108, Try.ntmps108
  go_wp2
  go_ret
  exact ⟨rfl, rfl⟩

set_option maxHeartbeats 2000000 in
theorem yield_s (b o m : Nat) (Y : Nat → Int) (a t : Int) (w : World) (hm : 1 ≤ m) (hx : m ≤ 5) (ht : 0 ≤ t) (h : BedAt w b o m Y a) :
    Calls Try.prog 122 #[.pointer (some ⟨b, o, none⟩), .int .i64 t] w fun e w' => e = .returned (.int .i64 (yl m Y t)) ∧ ∃ n, w' = w.drewN n := by
  obtain ⟨⟨A, c, c0, hs⟩, c1⟩ := h
  obtain ⟨b2, o2, rfl, hb, hX⟩ := hs (by omega)
  by_cases h0 : t = 0
  · subst h0
    rw [yl_zero]
    clear hX
    go_enter Try.func122, Try.ntmps122
    go_wp2
    go_ret
    exact ⟨rfl, 0, rfl⟩
  · have e0 : (t == 0) = false := by simpa using h0
    have hm' : (m : Int) ≤ 5 := by omega
    have hm1 : (1 : Int) ≤ m := by omega
    by_cases h1 : t ≤ m
    · rw [yl_in h0 h1]
      have w0 : 1 ≤ t := by omega
      have w1 : IntKind.i64.wrap (t - 1) = t - 1 := IntWalk.i64_in _ (by omega)
      have w2 : 0 ≤ t - 1 := by omega
      have w3 : t - 1 < (m : Int) := by omega
      have g0 := hX (t.toNat - 1) (by omega)
      clear hX h0
      go_enter Try.func122, Try.ntmps122
      go_wp2_with fail
      go_quiet ((go_at_call 108; exact Calls.quiet_of_same ((min_lo _ _ h1 _).mono fun _ _ ⟨p, q⟩ => ⟨p, q.symm⟩)))
      go_wp2
      go_ret
      exact ⟨rfl, _, rfl⟩
    · rw [yl_out h0 h1]
      have h2 : (m : Int) < t := by omega
      have w1 : IntKind.i64.wrap ((m : Int) - 1) = (m : Int) - 1 := IntWalk.i64_in _ (by omega)
      have w2 : 0 ≤ (m : Int) - 1 := by omega
      have w3 : (m : Int) - 1 < (m : Int) := by omega
      have w4 : ((m : Int) - 1).toNat = m - 1 := by omega
      have g0 := hX (m - 1) (by omega)
      clear hX h0
      go_enter Try.func122, Try.ntmps122
      go_wp2_with fail
      go_quiet ((go_at_call 108; exact Calls.quiet_of_same ((min_hi _ _ h2 _).mono fun _ _ ⟨p, q⟩ => ⟨p, q.symm⟩)))
      go_wp2
      go_ret
      exact ⟨rfl, _, rfl⟩

set_option maxHeartbeats 2000000 in
theorem yield_i (A : Option Addr) (m c : Nat) (Y : Nat → Int) (a t : Int) (w : World) (hm : 1 ≤ m) (hx : m ≤ 5) (ht : 0 ≤ t) (h : Sl w A m 1 Y) :
    Calls Try.prog 54 #[.agg #[.slice A m c, .int .i64 a], .int .i64 t] w fun e w' => e = .returned (.int .i64 (yl m Y t)) ∧ Below w.heap.size w w' := by
  obtain ⟨b2, o2, rfl, hb, hX⟩ := h (by omega)
  by_cases h0 : t = 0
  · subst h0
    rw [yl_zero]
    clear hX
    go_enter Try.func54, Try.ntmps54
    go_wp2
    go_ret
    exact ⟨rfl, by go_grown⟩
  · have e0 : (t == 0) = false := by simpa using h0
    have hm' : (m : Int) ≤ 5 := by omega
    have hm1 : (1 : Int) ≤ m := by omega
    by_cases h1 : t ≤ m
    · rw [yl_in h0 h1]
      have w0 : 1 ≤ t := by omega
      have w1 : IntKind.i64.wrap (t - 1) = t - 1 := IntWalk.i64_in _ (by omega)
      have w2 : 0 ≤ t - 1 := by omega
      have w3 : t - 1 < (m : Int) := by omega
      have g0 := hX (t.toNat - 1) (by omega)
      have g1 : (w.alloc (Obj.cells #[Value.slice (some ⟨b2, o2, none⟩) m c, Value.int IntKind.i64 a] 26)).cell? ⟨b2, o2 + (t.toNat - 1), none⟩ = some (.int .i64 (Y (t.toNat - 1))) :=
        (Below.cell (B := w.heap.size) (by go_grown) hb).trans g0
      have w5 : min t (m : Int) = t := by omega
      clear hX h0
      go_enter Try.func54, Try.ntmps54
      go_wp2
      go_ret
      exact ⟨rfl, by go_grown⟩
    · rw [yl_out h0 h1]
      have h2 : (m : Int) < t := by omega
      have w1 : IntKind.i64.wrap ((m : Int) - 1) = (m : Int) - 1 := IntWalk.i64_in _ (by omega)
      have w2 : 0 ≤ (m : Int) - 1 := by omega
      have w3 : (m : Int) - 1 < (m : Int) := by omega
      have w4 : ((m : Int) - 1).toNat = m - 1 := by omega
      have g0 := hX (m - 1) (by omega)
      have g1 : (w.alloc (Obj.cells #[Value.slice (some ⟨b2, o2, none⟩) m c, Value.int IntKind.i64 a] 26)).cell? ⟨b2, o2 + (m - 1), none⟩ = some (.int .i64 (Y (m - 1))) :=
        (Below.cell (B := w.heap.size) (by go_grown) hb).trans g0
      clear hX h0
      go_enter Try.func54, Try.ntmps54
      go_wp2
      go_ret
      exact ⟨rfl, by go_grown⟩

end Go.Proofs.Ytcpaenmhnoagdac.rod
