/-
  Contracts: are two lists of numbers equal? Are two lists of beds? Of the model and of the program.
-/
import Derived.Test.YtopiecbldnhihaaDoorFold6
namespace Go.Proofs.YtopiecbldnhihaaDoor.rod
open Go.ChangeShapes Go.WideShapes Go.ChangeAt Go.RowKit Go.Proofs.YtopiecbldnhihaaDoor.mem Go.Proofs.YtopiecbldnhihaaDoor.nums
set_option linter.unusedVariables false

/-- the first n numbers are the same -/
def eqL (Y Z : Nat → Int) : Nat → Bool
  | 0 => true
  | n + 1 => eqL Y Z n && decide (Y n = Z n)
theorem eqL_le {Y Z : Nat → Int} {n : Nat} : ∀ {m : Nat}, m ≤ n → eqL Y Z n = true → eqL Y Z m = true := by
  induction n with
  | zero => intro m h k; obtain rfl : m = 0 := by omega
            exact k
  | succ n ih =>
    intro m h k
    by_cases e : m = n + 1
    · subst e; exact k
    · simp only [eqL, Bool.and_eq_true] at k
      exact ih (by omega) k.1
theorem eqL_no {Y Z : Nat → Int} {n i : Nat} (hi : i < n) (h : ¬ Y i = Z i) : eqL Y Z n = false := by
  cases e : eqL Y Z n
  · rfl
  · have := eqL_le (m := i + 1) hi e
    simp only [eqL, decide_eq_false h, Bool.and_false] at this
    cases this
def sameL (m n : Nat) (Y Z : Nat → Int) : Bool := decide (m = n) && eqL Y Z m
theorem sameL_ne {m n : Nat} {Y Z : Nat → Int} (h : m ≠ n) : sameL m n Y Z = false := by unfold sameL; rw [decide_eq_false h]; rfl
theorem sameL_eq {m : Nat} {Y Z : Nat → Int} : sameL m m Y Z = eqL Y Z m := by unfold sameL; simp

set_option maxHeartbeats 2000000 in
theorem same_s (A1 A2 : Option Addr) (m n c1 c2 : Nat) (Y Z : Nat → Int) (w : World) (hm : m ≤ maxLen) (hn : n ≤ maxLen) (h1 : Sl w A1 m 1 Y) (h2 : Sl w A2 n 1 Z) :
    Calls Tryd.prog 50 #[.slice A1 m c1, .slice A2 n c2] w fun e w' => e = .returned (.bool (sameL m n Y Z)) ∧ ∃ k, w' = w.drewN k := by
  unfold maxLen at hm hn
  have H1 := Lib.hid h1
  have H2 := Lib.hid h2
  clear h1 h2
  by_cases hmn : m = n
  · subst hmn
    rw [sameL_eq]
    go_enter Tryd.func50, Tryd.ntmps50
    go_wp2_with fail
    go_loopw [5] (fun s wr => ∃ k : Nat, k ≤ m ∧ s = .int .i64 k ∧ Hid (eqL Y Z k = true) ∧ Drew w wr) (fun s _ => m - (intOf s).toNat)
    case atStart => exact ⟨0, by omega, rfl, rfl, Drew.refl _⟩
    case round =>
      obtain ⟨k, hk, rfl, HA, hd⟩ := hrel
      have HD := Lib.hid hd
      clear hd
      by_cases hlt : k < m
      · have hlt' : (k : Int) < (m : Int) := by omega
        have hk0 : (0 : Int) ≤ (k : Int) := by omega
        obtain ⟨b1, o1, rfl, hb1, hX1⟩ := (HD.out.sl H1.out) (by omega)
        obtain ⟨b2, o2, rfl, hb2, hX2⟩ := (HD.out.sl H2.out) (by omega)
        have p0 := hX1 k (by omega)
        have q0 := hX2 k (by omega)
        clear hX1 hX2
        by_cases hyz : Y k = Z k
        · have HY := Lib.hid (show eqL Y Z (k + 1) = true by simp only [eqL, HA.out, hyz, decide_true, Bool.and_self])
          rw [hyz] at p0
          clear hyz
          go_wp2_with fail
          go_quiet (fail)
          go_wp2
          go_roundw
          case rel => exact ⟨k + 1, by omega, by go_num, HY.out, HD.out.drewN _⟩
          case measure => simp [intOf]; omega
        · have HF := Lib.hid (eqL_no hlt hyz)
          have e1 : (Y k == Z k) = false := by simpa using hyz
          have e2 : (Y k != Z k) = true := by simpa using hyz
          clear hyz
          go_wp2_with fail
          go_quiet (fail)
          go_wp2
          go_ret
          exact ⟨by rw [HF.out]; rfl, HD.out.drewN _⟩
      · obtain rfl : k = m := by omega
        go_wp2
        go_ret
        exact ⟨by rw [HA.out]; rfl, HD.out⟩
  · rw [sameL_ne hmn]
    have e1 : ((m : Int) == (n : Int)) = false := by simp; omega
    have e2 : ((m : Int) != (n : Int)) = true := by simp; omega
    go_enter Tryd.func50, Tryd.ntmps50
    go_wp2_with fail
    go_ret
    exact ⟨rfl, 0, rfl⟩

set_option maxHeartbeats 2000000 in
theorem same_i (A1 A2 : Option Addr) (m n c1 c2 : Nat) (Y Z : Nat → Int) (w : World) (hm : m ≤ maxLen) (hn : n ≤ maxLen) (h1 : Sl w A1 m 1 Y) (h2 : Sl w A2 n 1 Z) :
    Calls Tryd.prog 51 #[.slice A1 m c1, .slice A2 n c2] w fun e w' => e = .returned (.bool (sameL m n Y Z)) ∧ ∃ k, w' = w.drewN k := by
  unfold maxLen at hm hn
  have H1 := Lib.hid h1
  have H2 := Lib.hid h2
  clear h1 h2
  by_cases hmn : m = n
  · subst hmn
    rw [sameL_eq]
    go_enter Tryd.func51, Tryd.ntmps51
    go_wp2_with fail
    go_loopw [13] (fun s wr => ∃ k : Nat, k ≤ m ∧ s = .int .i64 k ∧ Hid (eqL Y Z k = true) ∧ Drew w wr) (fun s _ => m - (intOf s).toNat)
    case atStart => exact ⟨0, by omega, rfl, rfl, Drew.refl _⟩
    case round =>
      obtain ⟨k, hk, rfl, HA, hd⟩ := hrel
      have HD := Lib.hid hd
      clear hd
      by_cases hlt : k < m
      · have hlt' : (k : Int) < (m : Int) := by omega
        have hk0 : (0 : Int) ≤ (k : Int) := by omega
        obtain ⟨b1, o1, rfl, hb1, hX1⟩ := (HD.out.sl H1.out) (by omega)
        obtain ⟨b2, o2, rfl, hb2, hX2⟩ := (HD.out.sl H2.out) (by omega)
        have p0 := hX1 k (by omega)
        have q0 := hX2 k (by omega)
        clear hX1 hX2
        by_cases hyz : Y k = Z k
        · have HY := Lib.hid (show eqL Y Z (k + 1) = true by simp only [eqL, HA.out, hyz, decide_true, Bool.and_self])
          rw [hyz] at p0
          clear hyz
          go_wp2_with fail
          go_quiet (fail)
          go_wp2
          go_roundw
          case rel => exact ⟨k + 1, by omega, by go_num, HY.out, HD.out.drewN _⟩
          case measure => simp [intOf]; omega
        · have HF := Lib.hid (eqL_no hlt hyz)
          have e1 : (Y k == Z k) = false := by simpa using hyz
          have e2 : (Y k != Z k) = true := by simpa using hyz
          clear hyz
          go_wp2_with fail
          go_quiet (fail)
          go_wp2
          go_ret
          exact ⟨by rw [HF.out]; rfl, HD.out.drewN _⟩
      · obtain rfl : k = m := by omega
        go_wp2
        go_ret
        exact ⟨by rw [HA.out]; rfl, HD.out⟩
  · rw [sameL_ne hmn]
    have e1 : ((m : Int) == (n : Int)) = false := by simp; omega
    have e2 : ((m : Int) != (n : Int)) = true := by simp; omega
    go_enter Tryd.func51, Tryd.ntmps51
    go_wp2_with fail
    go_ret
    exact ⟨rfl, 0, rfl⟩

/-- two beds are the same; the first n beds are; two lists are -/
def bedSame (m n : Nat) (Y Z : Nat → Int) (g h : Int) : Bool := decide (g = h) && sameL m n Y Z
theorem bedSame_no {m n : Nat} {Y Z : Nat → Int} {g h : Int} (e : ¬ g = h) : bedSame m n Y Z g h = false := by unfold bedSame; rw [decide_eq_false e]; rfl
theorem bedSame_yes {m n : Nat} {Y Z : Nat → Int} {g : Int} : bedSame m n Y Z g g = sameL m n Y Z := by unfold bedSame; simp
def sameU (M N : Nat → Nat) (Y Z : Nat → Nat → Int) (G H : Nat → Int) : Nat → Bool
  | 0 => true
  | k + 1 => sameU M N Y Z G H k && bedSame (M k) (N k) (Y k) (Z k) (G k) (H k)
theorem sameU_le {M N : Nat → Nat} {Y Z : Nat → Nat → Int} {G H : Nat → Int} {n : Nat} : ∀ {m : Nat}, m ≤ n → sameU M N Y Z G H n = true → sameU M N Y Z G H m = true := by
  induction n with
  | zero => intro m h k; obtain rfl : m = 0 := by omega
            exact k
  | succ n ih =>
    intro m h k
    by_cases e : m = n + 1
    · subst e; exact k
    · simp only [sameU, Bool.and_eq_true] at k
      exact ih (by omega) k.1
theorem sameU_no {M N : Nat → Nat} {Y Z : Nat → Nat → Int} {G H : Nat → Int} {n i : Nat} (hi : i < n) (h : bedSame (M i) (N i) (Y i) (Z i) (G i) (H i) = false) : sameU M N Y Z G H n = false := by
  cases e : sameU M N Y Z G H n
  · rfl
  · have := sameU_le (m := i + 1) hi e
    simp only [sameU, h, Bool.and_false] at this
    cases this
def bedsSame (n n2 : Nat) (M N : Nat → Nat) (Y Z : Nat → Nat → Int) (G H : Nat → Int) : Bool := decide (n = n2) && sameU M N Y Z G H n
theorem bedsSame_ne {n n2 : Nat} {M N : Nat → Nat} {Y Z : Nat → Nat → Int} {G H : Nat → Int} (h : n ≠ n2) : bedsSame n n2 M N Y Z G H = false := by unfold bedsSame; rw [decide_eq_false h]; rfl
theorem bedsSame_eq {n : Nat} {M N : Nat → Nat} {Y Z : Nat → Nat → Int} {G H : Nat → Int} : bedsSame n n M N Y Z G H = sameU M N Y Z G H n := by unfold bedsSame; simp

end Go.Proofs.YtopiecbldnhihaaDoor.rod
