/-
  Contracts: are two lists of batches equal? Of the model and of the program.
-/
import Derived.Test.YtobohjfenjeckaaFBatch
namespace Go.Proofs.Ytobohjfenjeckaa.rod
open Go.ChangeShapes Go.WideShapes Go.ChangeAt Go.RowKit Go.Proofs.Ytobohjfenjeckaa.mem
set_option linter.unusedVariables false

/-- batch i is the same in both lists -/
def eqA (X Z : Nat → Int) (i : Nat) : Bool := decide (X (i * 4) = Z (i * 4) ∧ X (i * 4 + 1) = Z (i * 4 + 1) ∧ X (i * 4 + 2) = Z (i * 4 + 2) ∧ X (i * 4 + 3) = Z (i * 4 + 3))
/-- the first n batches are the same -/
def eqT (X Z : Nat → Int) : Nat → Bool
  | 0 => true
  | n + 1 => eqT X Z n && eqA X Z n
theorem eqT_le {X Z : Nat → Int} {n : Nat} : ∀ {m : Nat}, m ≤ n → eqT X Z n = true → eqT X Z m = true := by
  induction n with
  | zero => intro m h k; obtain rfl : m = 0 := by omega
            exact k
  | succ n ih =>
    intro m h k
    by_cases e : m = n + 1
    · subst e; exact k
    · simp only [eqT, Bool.and_eq_true] at k
      exact ih (by omega) k.1
theorem eqT_no {X Z : Nat → Int} {n i : Nat} (hi : i < n) (h : eqA X Z i = false) : eqT X Z n = false := by
  cases e : eqT X Z n
  · rfl
  · have := eqT_le (m := i + 1) hi e
    simp only [eqT, h, Bool.and_false] at this
    cases this
def sameT (m n : Nat) (X Z : Nat → Int) : Bool := decide (m = n) && eqT X Z m
theorem sameT_ne {m n : Nat} {X Z : Nat → Int} (h : m ≠ n) : sameT m n X Z = false := by unfold sameT; rw [decide_eq_false h]; rfl
theorem sameT_eq {m : Nat} {X Z : Nat → Int} : sameT m m X Z = eqT X Z m := by unfold sameT; simp

set_option maxHeartbeats 2000000 in
theorem sameT_s (A1 A2 : Option Addr) (m n c1 c2 : Nat) (X Z : Nat → Int) (w : World) (hm : m ≤ maxLen) (hn : n ≤ maxLen) (h1 : Sl w A1 m 4 X) (h2 : Sl w A2 n 4 Z) :
    Calls Try.prog 20 #[.slice A1 m c1, .slice A2 n c2] w fun e w' => e = .returned (.bool (sameT m n X Z)) ∧ Below w.heap.size w w' := by
  unfold maxLen at hm hn
  have H1 := Lib.hid h1
  have H2 := Lib.hid h2
  clear h1 h2
  by_cases hmn : m = n
  · subst hmn
    rw [sameT_eq]
    go_enter Try.func20, Try.ntmps20
    go_wp2_with fail
    go_outline
    go_loopw [5] (fun s wr => ∃ k : Nat, k ≤ m ∧ s = .int .i64 k ∧ Hid (eqT X Z k = true) ∧ Below w.heap.size w wr) (fun s _ => m - (intOf s).toNat)
    case atStart => exact ⟨0, by omega, rfl, rfl, by go_grown⟩
    case round =>
      obtain ⟨k, hk, rfl, HA, hd⟩ := hrel
      have hzz := hd.size
      have HD := Lib.hid hd
      clear hd
      by_cases hlt : k < m
      · have hlt' : (k : Int) < (m : Int) := by omega
        have hk0 : (0 : Int) ≤ (k : Int) := by omega
        obtain ⟨b1, o1, rfl, hb1, hX1⟩ := (H1.out) (by omega)
        obtain ⟨b2, o2, rfl, hb2, hX2⟩ := (H2.out) (by omega)
        have p0 := hX1.below HD.out hb1 (k * 4) (by omega)
        have p1 := hX1.below HD.out hb1 (k * 4 + 1) (by omega)
        have p2 := hX1.below HD.out hb1 (k * 4 + 2) (by omega)
        have p3 := hX1.below HD.out hb1 (k * 4 + 3) (by omega)
        have q0 := hX2.below HD.out hb2 (k * 4) (by omega)
        have q1 := hX2.below HD.out hb2 (k * 4 + 1) (by omega)
        have q2 := hX2.below HD.out hb2 (k * 4 + 2) (by omega)
        have q3 := hX2.below HD.out hb2 (k * 4 + 3) (by omega)
        simp only [← Nat.add_assoc] at p1 p2 p3 q1 q2 q3
        clear hX1 hX2
        cases hyz : eqA X Z k
        · have HF := Lib.hid (eqT_no hlt hyz)
          unfold eqA at hyz
          simp only [decide_eq_false_iff_not] at hyz
          generalize X (k * 4) = x0 at *
          generalize X (k * 4 + 1) = x1 at *
          generalize X (k * 4 + 2) = x2 at *
          generalize X (k * 4 + 3) = x3 at *
          generalize Z (k * 4) = z0 at *
          generalize Z (k * 4 + 1) = z1 at *
          generalize Z (k * 4 + 2) = z2 at *
          generalize Z (k * 4 + 3) = z3 at *
          by_cases d0 : ¬ x0 = z0
          · have e1 : (x0 == z0) = false := by simpa using d0
            have e2 : (x0 != z0) = true := by simpa using d0
            clear hyz d0
            go_wp2_with fail
            go_quiet (fail)
            go_wp2
            go_ret
            exact ⟨by rw [HF.out]; rfl, by first | exact HD.out | exact drewN_below HD.out _⟩
          simp only [Classical.not_not] at d0
          subst d0
          by_cases d1 : ¬ x1 = z1
          · have e1 : (x1 == z1) = false := by simpa using d1
            have e2 : (x1 != z1) = true := by simpa using d1
            clear hyz d1
            go_wp2_with fail
            go_quiet (fail)
            go_wp2
            go_ret
            exact ⟨by rw [HF.out]; rfl, by first | exact HD.out | exact drewN_below HD.out _⟩
          simp only [Classical.not_not] at d1
          subst d1
          by_cases d2 : ¬ x2 = z2
          · have e1 : (x2 == z2) = false := by simpa using d2
            have e2 : (x2 != z2) = true := by simpa using d2
            clear hyz d2
            go_wp2_with fail
            go_quiet (fail)
            go_wp2
            go_ret
            exact ⟨by rw [HF.out]; rfl, by first | exact HD.out | exact drewN_below HD.out _⟩
          simp only [Classical.not_not] at d2
          subst d2
          by_cases d3 : ¬ x3 = z3
          · have e1 : (x3 == z3) = false := by simpa using d3
            have e2 : (x3 != z3) = true := by simpa using d3
            clear hyz d3
            go_wp2_with fail
            go_quiet (fail)
            go_wp2
            go_ret
            exact ⟨by rw [HF.out]; rfl, by first | exact HD.out | exact drewN_below HD.out _⟩
          simp only [Classical.not_not] at d3
          subst d3
          exact absurd ⟨rfl, rfl, rfl, rfl⟩ hyz
        · have HY := Lib.hid (show eqT X Z (k + 1) = true by simp only [eqT, HA.out, hyz, Bool.and_self])
          unfold eqA at hyz
          simp only [decide_eq_true_eq] at hyz
          obtain ⟨e0, e1, e2, e3⟩ := hyz
          rw [e0] at p0
          rw [e1] at p1
          rw [e2] at p2
          rw [e3] at p3
          clear e0 e1 e2 e3
          go_wp2_with fail
          go_quiet (fail)
          go_wp2
          go_roundw
          case rel => exact ⟨k + 1, by omega, by go_num, HY.out, by first | exact HD.out | exact drewN_below HD.out _⟩
          case measure => simp [intOf]; omega
      · obtain rfl : k = m := by omega
        go_wp2
        go_ret
        exact ⟨by rw [HA.out]; rfl, HD.out⟩
  · rw [sameT_ne hmn]
    have e1 : ((m : Int) == (n : Int)) = false := by simp; omega
    have e2 : ((m : Int) != (n : Int)) = true := by simp; omega
    go_enter Try.func20, Try.ntmps20
    go_wp2_with fail
    go_ret
    exact ⟨rfl, by go_grown⟩

set_option maxHeartbeats 2000000 in
theorem sameE (A1 A2 : Option Addr) (m n c1 c2 : Nat) (X Z : Nat → Int) (w : World) (hm : m ≤ maxLen) (hn : n ≤ maxLen) (h1 : Sl w A1 m 4 X) (h2 : Sl w A2 n 4 Z) :
    Calls Try.prog 56 #[.slice A1 m c1, .slice A2 n c2] w fun e w' => e = .returned (.bool (sameT m n X Z)) ∧ Below w.heap.size w w' := by
  unfold maxLen at hm hn
  have H1 := Lib.hid h1
  have H2 := Lib.hid h2
  clear h1 h2
  by_cases hmn : m = n
  · subst hmn
    rw [sameT_eq]
    go_enter Try.func56, Try.ntmps56
    go_wp2_with fail
    go_outline
    go_loopw [13] (fun s wr => ∃ k : Nat, k ≤ m ∧ s = .int .i64 k ∧ Hid (eqT X Z k = true) ∧ Below w.heap.size w wr) (fun s _ => m - (intOf s).toNat)
    case atStart => exact ⟨0, by omega, rfl, rfl, by go_grown⟩
    case round =>
      obtain ⟨k, hk, rfl, HA, hd⟩ := hrel
      have hzz := hd.size
      have HD := Lib.hid hd
      clear hd
      by_cases hlt : k < m
      · have hlt' : (k : Int) < (m : Int) := by omega
        have hk0 : (0 : Int) ≤ (k : Int) := by omega
        obtain ⟨b1, o1, rfl, hb1, hX1⟩ := (H1.out) (by omega)
        obtain ⟨b2, o2, rfl, hb2, hX2⟩ := (H2.out) (by omega)
        have p0 := hX1.below HD.out hb1 (k * 4) (by omega)
        have p1 := hX1.below HD.out hb1 (k * 4 + 1) (by omega)
        have p2 := hX1.below HD.out hb1 (k * 4 + 2) (by omega)
        have p3 := hX1.below HD.out hb1 (k * 4 + 3) (by omega)
        have q0 := hX2.below HD.out hb2 (k * 4) (by omega)
        have q1 := hX2.below HD.out hb2 (k * 4 + 1) (by omega)
        have q2 := hX2.below HD.out hb2 (k * 4 + 2) (by omega)
        have q3 := hX2.below HD.out hb2 (k * 4 + 3) (by omega)
        simp only [← Nat.add_assoc] at p1 p2 p3 q1 q2 q3
        clear hX1 hX2
        cases hyz : eqA X Z k
        · have HF := Lib.hid (eqT_no hlt hyz)
          unfold eqA at hyz
          simp only [decide_eq_false_iff_not] at hyz
          generalize X (k * 4) = x0 at *
          generalize X (k * 4 + 1) = x1 at *
          generalize X (k * 4 + 2) = x2 at *
          generalize X (k * 4 + 3) = x3 at *
          generalize Z (k * 4) = z0 at *
          generalize Z (k * 4 + 1) = z1 at *
          generalize Z (k * 4 + 2) = z2 at *
          generalize Z (k * 4 + 3) = z3 at *
          by_cases d0 : ¬ x0 = z0
          · have e1 : (x0 == z0) = false := by simpa using d0
            have e2 : (x0 != z0) = true := by simpa using d0
            clear hyz d0
            go_wp2_with fail
            go_quiet (fail)
            go_wp2
            go_ret
            exact ⟨by rw [HF.out]; rfl, by first | exact HD.out | exact drewN_below HD.out _⟩
          simp only [Classical.not_not] at d0
          subst d0
          by_cases d1 : ¬ x1 = z1
          · have e1 : (x1 == z1) = false := by simpa using d1
            have e2 : (x1 != z1) = true := by simpa using d1
            clear hyz d1
            go_wp2_with fail
            go_quiet (fail)
            go_wp2
            go_ret
            exact ⟨by rw [HF.out]; rfl, by first | exact HD.out | exact drewN_below HD.out _⟩
          simp only [Classical.not_not] at d1
          subst d1
          by_cases d2 : ¬ x2 = z2
          · have e1 : (x2 == z2) = false := by simpa using d2
            have e2 : (x2 != z2) = true := by simpa using d2
            clear hyz d2
            go_wp2_with fail
            go_quiet (fail)
            go_wp2
            go_ret
            exact ⟨by rw [HF.out]; rfl, by first | exact HD.out | exact drewN_below HD.out _⟩
          simp only [Classical.not_not] at d2
          subst d2
          by_cases d3 : ¬ x3 = z3
          · have e1 : (x3 == z3) = false := by simpa using d3
            have e2 : (x3 != z3) = true := by simpa using d3
            clear hyz d3
            go_wp2_with fail
            go_quiet (fail)
            go_wp2
            go_ret
            exact ⟨by rw [HF.out]; rfl, by first | exact HD.out | exact drewN_below HD.out _⟩
          simp only [Classical.not_not] at d3
          subst d3
          exact absurd ⟨rfl, rfl, rfl, rfl⟩ hyz
        · have HY := Lib.hid (show eqT X Z (k + 1) = true by simp only [eqT, HA.out, hyz, Bool.and_self])
          unfold eqA at hyz
          simp only [decide_eq_true_eq] at hyz
          obtain ⟨e0, e1, e2, e3⟩ := hyz
          rw [e0] at p0
          rw [e1] at p1
          rw [e2] at p2
          rw [e3] at p3
          clear e0 e1 e2 e3
          go_wp2_with fail
          go_quiet (fail)
          go_wp2
          go_roundw
          case rel => exact ⟨k + 1, by omega, by go_num, HY.out, by first | exact HD.out | exact drewN_below HD.out _⟩
          case measure => simp [intOf]; omega
      · obtain rfl : k = m := by omega
        go_wp2
        go_ret
        exact ⟨by rw [HA.out]; rfl, HD.out⟩
  · rw [sameT_ne hmn]
    have e1 : ((m : Int) == (n : Int)) = false := by simp; omega
    have e2 : ((m : Int) != (n : Int)) = true := by simp; omega
    go_enter Try.func56, Try.ntmps56
    go_wp2_with fail
    go_ret
    exact ⟨rfl, by go_grown⟩

set_option maxHeartbeats 1000000 in
theorem sameT_i (A1 A2 : Option Addr) (m n c1 c2 : Nat) (X Z : Nat → Int) (w : World) (hm : m ≤ maxLen) (hn : n ≤ maxLen) (h1 : Sl w A1 m 4 X) (h2 : Sl w A2 n 4 Z) :
    Calls Try.prog 21 #[.slice A1 m c1, .slice A2 n c2] w fun e w' => e = .returned (.bool (sameT m n X Z)) ∧ Below w.heap.size w w' := by
  have H1 := Lib.hid h1
  have H2 := Lib.hid h2
  clear h1 h2
  go_enter Try.func21, Try.ntmps21
  go_wp2_with fail
  refine (sameE A1 A2 m n c1 c2 X Z _ hm hn H1.out H2.out).mono ?_
  rintro e w' ⟨rfl, hb⟩
  go_wp2
  go_ret
  exact ⟨rfl, hb⟩

end Go.Proofs.Ytobohjfenjeckaa.rod
