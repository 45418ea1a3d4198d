/-
  Contracts: are two lists of structs equal? Of the model and of the program.
-/
import Derived.Test.YtlepgkmpbhlajaaDoorFBunch
namespace Go.Proofs.YtlepgkmpbhlajaaDoor.rod
open Go.ChangeShapes Go.WideShapes Go.ChangeAt Go.RowKit Go.Proofs.YtlepgkmpbhlajaaDoor.mem
set_option linter.unusedVariables false

/-- element i is the same in both lists -/
def eqAU (X Z : Nat → Int) (i : Nat) : Bool := decide (X (i * 3) = Z (i * 3) ∧ X (i * 3 + 1) = Z (i * 3 + 1) ∧ X (i * 3 + 2) = Z (i * 3 + 2))
/-- the first n elements are the same -/
def eqU (X Z : Nat → Int) : Nat → Bool
  | 0 => true
  | n + 1 => eqU X Z n && eqAU X Z n
theorem eqU_le {X Z : Nat → Int} {n : Nat} : ∀ {m : Nat}, m ≤ n → eqU X Z n = true → eqU X Z m = true := by
  induction n with
  | zero => intro m h k; obtain rfl : m = 0 := by omega
            exact k
  | succ n ih =>
    intro m h k
    by_cases e : m = n + 1
    · subst e; exact k
    · simp only [eqU, Bool.and_eq_true] at k
      exact ih (by omega) k.1
theorem eqU_no {X Z : Nat → Int} {n i : Nat} (hi : i < n) (h : eqAU X Z i = false) : eqU X Z n = false := by
  cases e : eqU X Z n
  · rfl
  · have := eqU_le (m := i + 1) hi e
    simp only [eqU, h, Bool.and_false] at this
    cases this
def sameU (m n : Nat) (X Z : Nat → Int) : Bool := decide (m = n) && eqU X Z m
theorem sameU_ne {m n : Nat} {X Z : Nat → Int} (h : m ≠ n) : sameU m n X Z = false := by unfold sameU; rw [decide_eq_false h]; rfl
theorem sameU_eq {m : Nat} {X Z : Nat → Int} : sameU m m X Z = eqU X Z m := by unfold sameU; simp

set_option maxHeartbeats 2000000 in
theorem sameU_s (A1 A2 : Option Addr) (m n c1 c2 : Nat) (X Z : Nat → Int) (w : World) (hm : m ≤ maxLen) (hn : n ≤ maxLen) (h1 : Sl w A1 m 3 X) (h2 : Sl w A2 n 3 Z) :
    Calls Tryd.prog 20 #[.slice A1 m c1, .slice A2 n c2] w fun e w' => e = .returned (.bool (sameU m n X Z)) ∧ Below w.heap.size w w' := by
  unfold maxLen at hm hn
  have H1 := Lib.hid h1
  have H2 := Lib.hid h2
  clear h1 h2
  by_cases hmn : m = n
  · subst hmn
    rw [sameU_eq]
    go_enter Tryd.func20, Tryd.ntmps20
    go_wp2_with fail
    go_outline
    go_loopw [5] (fun s wr => ∃ k : Nat, k ≤ m ∧ s = .int .i64 k ∧ Hid (eqU X Z k = true) ∧ Below w.heap.size w wr) (fun s _ => m - (intOf s).toNat)
    case atStart => exact ⟨0, by omega, rfl, rfl, by go_grown⟩
    case round =>
      obtain ⟨k, hk, rfl, HA, hd⟩ := hrel
      have hzz := hd.size
      have HD := Lib.hid hd
      clear hd
      by_cases hlt : k < m
      · have hlt' : (k : Int) < (m : Int) := by omega
        have hk0 : (0 : Int) ≤ (k : Int) := by omega
        obtain ⟨b1, o1, rfl, hb1, hX1⟩ := (H1.out) (by omega)
        obtain ⟨b2, o2, rfl, hb2, hX2⟩ := (H2.out) (by omega)
        have p0 := hX1.below HD.out hb1 (k * 3) (by omega)
        have p1 := hX1.below HD.out hb1 (k * 3 + 1) (by omega)
        have p2 := hX1.below HD.out hb1 (k * 3 + 2) (by omega)
        have q0 := hX2.below HD.out hb2 (k * 3) (by omega)
        have q1 := hX2.below HD.out hb2 (k * 3 + 1) (by omega)
        have q2 := hX2.below HD.out hb2 (k * 3 + 2) (by omega)
        simp only [← Nat.add_assoc] at p1 p2 q1 q2
        clear hX1 hX2
        cases hyz : eqAU X Z k
        · have HF := Lib.hid (eqU_no hlt hyz)
          unfold eqAU at hyz
          simp only [decide_eq_false_iff_not] at hyz
          generalize X (k * 3) = x0 at *
          generalize X (k * 3 + 1) = x1 at *
          generalize X (k * 3 + 2) = x2 at *
          generalize Z (k * 3) = z0 at *
          generalize Z (k * 3 + 1) = z1 at *
          generalize Z (k * 3 + 2) = z2 at *
          by_cases d0 : ¬ x0 = z0
          · have e1 : (x0 == z0) = false := by simpa using d0
            have e2 : (x0 != z0) = true := by simpa using d0
            clear hyz d0
            go_wp2_with fail
            go_quiet (fail)
            go_wp2
            go_ret
            exact ⟨by rw [HF.out]; rfl, by first | exact HD.out | exact drewN_below HD.out _⟩
          simp only [Classical.not_not] at d0
          subst d0
          by_cases d1 : ¬ x1 = z1
          · have e1 : (x1 == z1) = false := by simpa using d1
            have e2 : (x1 != z1) = true := by simpa using d1
            clear hyz d1
            go_wp2_with fail
            go_quiet (fail)
            go_wp2
            go_ret
            exact ⟨by rw [HF.out]; rfl, by first | exact HD.out | exact drewN_below HD.out _⟩
          simp only [Classical.not_not] at d1
          subst d1
          by_cases d2 : ¬ x2 = z2
          · have e1 : (x2 == z2) = false := by simpa using d2
            have e2 : (x2 != z2) = true := by simpa using d2
            clear hyz d2
            go_wp2_with fail
            go_quiet (fail)
            go_wp2
            go_ret
            exact ⟨by rw [HF.out]; rfl, by first | exact HD.out | exact drewN_below HD.out _⟩
          simp only [Classical.not_not] at d2
          subst d2
          exact absurd ⟨rfl, rfl, rfl⟩ hyz
        · have HY := Lib.hid (show eqU X Z (k + 1) = true by simp only [eqU, HA.out, hyz, Bool.and_self])
          unfold eqAU at hyz
          simp only [decide_eq_true_eq] at hyz
          obtain ⟨e0, e1, e2⟩ := hyz
          rw [e0] at p0
          rw [e1] at p1
          rw [e2] at p2
          clear e0 e1 e2
          go_wp2_with fail
          go_quiet (fail)
          go_wp2
          go_roundw
          case rel => exact ⟨k + 1, by omega, by go_num, HY.out, by first | exact HD.out | exact drewN_below HD.out _⟩
          case measure => simp [intOf]; omega
      · obtain rfl : k = m := by omega
        go_wp2
        go_ret
        exact ⟨by rw [HA.out]; rfl, HD.out⟩
  · rw [sameU_ne hmn]
    have e1 : ((m : Int) == (n : Int)) = false := by simp; omega
    have e2 : ((m : Int) != (n : Int)) = true := by simp; omega
    go_enter Tryd.func20, Tryd.ntmps20
    go_wp2_with fail
    go_ret
    exact ⟨rfl, by go_grown⟩

set_option maxHeartbeats 2000000 in
theorem sameU_e (A1 A2 : Option Addr) (m n c1 c2 : Nat) (X Z : Nat → Int) (w : World) (hm : m ≤ maxLen) (hn : n ≤ maxLen) (h1 : Sl w A1 m 3 X) (h2 : Sl w A2 n 3 Z) :
    Calls Tryd.prog 61 #[.slice A1 m c1, .slice A2 n c2] w fun e w' => e = .returned (.bool (sameU m n X Z)) ∧ Below w.heap.size w w' := by
  unfold maxLen at hm hn
  have H1 := Lib.hid h1
  have H2 := Lib.hid h2
  clear h1 h2
  by_cases hmn : m = n
  · subst hmn
    rw [sameU_eq]
    go_enter Tryd.func61, Tryd.ntmps61
    go_wp2_with fail
    go_outline
    go_loopw [13] (fun s wr => ∃ k : Nat, k ≤ m ∧ s = .int .i64 k ∧ Hid (eqU X Z k = true) ∧ Below w.heap.size w wr) (fun s _ => m - (intOf s).toNat)
    case atStart => exact ⟨0, by omega, rfl, rfl, by go_grown⟩
    case round =>
      obtain ⟨k, hk, rfl, HA, hd⟩ := hrel
      have hzz := hd.size
      have HD := Lib.hid hd
      clear hd
      by_cases hlt : k < m
      · have hlt' : (k : Int) < (m : Int) := by omega
        have hk0 : (0 : Int) ≤ (k : Int) := by omega
        obtain ⟨b1, o1, rfl, hb1, hX1⟩ := (H1.out) (by omega)
        obtain ⟨b2, o2, rfl, hb2, hX2⟩ := (H2.out) (by omega)
        have p0 := hX1.below HD.out hb1 (k * 3) (by omega)
        have p1 := hX1.below HD.out hb1 (k * 3 + 1) (by omega)
        have p2 := hX1.below HD.out hb1 (k * 3 + 2) (by omega)
        have q0 := hX2.below HD.out hb2 (k * 3) (by omega)
        have q1 := hX2.below HD.out hb2 (k * 3 + 1) (by omega)
        have q2 := hX2.below HD.out hb2 (k * 3 + 2) (by omega)
        simp only [← Nat.add_assoc] at p1 p2 q1 q2
        clear hX1 hX2
        cases hyz : eqAU X Z k
        · have HF := Lib.hid (eqU_no hlt hyz)
          unfold eqAU at hyz
          simp only [decide_eq_false_iff_not] at hyz
          generalize X (k * 3) = x0 at *
          generalize X (k * 3 + 1) = x1 at *
          generalize X (k * 3 + 2) = x2 at *
          generalize Z (k * 3) = z0 at *
          generalize Z (k * 3 + 1) = z1 at *
          generalize Z (k * 3 + 2) = z2 at *
          by_cases d0 : ¬ x0 = z0
          · have e1 : (x0 == z0) = false := by simpa using d0
            have e2 : (x0 != z0) = true := by simpa using d0
            clear hyz d0
            go_wp2_with fail
            go_quiet (fail)
            go_wp2
            go_ret
            exact ⟨by rw [HF.out]; rfl, by first | exact HD.out | exact drewN_below HD.out _⟩
          simp only [Classical.not_not] at d0
          subst d0
          by_cases d1 : ¬ x1 = z1
          · have e1 : (x1 == z1) = false := by simpa using d1
            have e2 : (x1 != z1) = true := by simpa using d1
            clear hyz d1
            go_wp2_with fail
            go_quiet (fail)
            go_wp2
            go_ret
            exact ⟨by rw [HF.out]; rfl, by first | exact HD.out | exact drewN_below HD.out _⟩
          simp only [Classical.not_not] at d1
          subst d1
          by_cases d2 : ¬ x2 = z2
          · have e1 : (x2 == z2) = false := by simpa using d2
            have e2 : (x2 != z2) = true := by simpa using d2
            clear hyz d2
            go_wp2_with fail
            go_quiet (fail)
            go_wp2
            go_ret
            exact ⟨by rw [HF.out]; rfl, by first | exact HD.out | exact drewN_below HD.out _⟩
          simp only [Classical.not_not] at d2
          subst d2
          exact absurd ⟨rfl, rfl, rfl⟩ hyz
        · have HY := Lib.hid (show eqU X Z (k + 1) = true by simp only [eqU, HA.out, hyz, Bool.and_self])
          unfold eqAU at hyz
          simp only [decide_eq_true_eq] at hyz
          obtain ⟨e0, e1, e2⟩ := hyz
          rw [e0] at p0
          rw [e1] at p1
          rw [e2] at p2
          clear e0 e1 e2
          go_wp2_with fail
          go_quiet (fail)
          go_wp2
          go_roundw
          case rel => exact ⟨k + 1, by omega, by go_num, HY.out, by first | exact HD.out | exact drewN_below HD.out _⟩
          case measure => simp [intOf]; omega
      · obtain rfl : k = m := by omega
        go_wp2
        go_ret
        exact ⟨by rw [HA.out]; rfl, HD.out⟩
  · rw [sameU_ne hmn]
    have e1 : ((m : Int) == (n : Int)) = false := by simp; omega
    have e2 : ((m : Int) != (n : Int)) = true := by simp; omega
    go_enter Tryd.func61, Tryd.ntmps61
    go_wp2_with fail
    go_ret
    exact ⟨rfl, by go_grown⟩

set_option maxHeartbeats 1000000 in
theorem sameU_i (A1 A2 : Option Addr) (m n c1 c2 : Nat) (X Z : Nat → Int) (w : World) (hm : m ≤ maxLen) (hn : n ≤ maxLen) (h1 : Sl w A1 m 3 X) (h2 : Sl w A2 n 3 Z) :
    Calls Tryd.prog 22 #[.slice A1 m c1, .slice A2 n c2] w fun e w' => e = .returned (.bool (sameU m n X Z)) ∧ Below w.heap.size w w' := by
  have H1 := Lib.hid h1
  have H2 := Lib.hid h2
  clear h1 h2
  go_enter Tryd.func22, Tryd.ntmps22
  go_wp2_with fail
  refine (sameU_e A1 A2 m n c1 c2 X Z _ hm hn H1.out H2.out).mono ?_
  rintro e w' ⟨rfl, hb⟩
  go_wp2
  go_ret
  exact ⟨rfl, hb⟩

end Go.Proofs.YtlepgkmpbhlajaaDoor.rod
