/-
  Contracts of YieldOfPlan, of the model's and of the program's.
-/
import Derived.Test.YtcpaenmhnoagdacPlan
namespace Go.Proofs.Ytcpaenmhnoagdac.rod
open Go.ChangeShapes Go.WideShapes Go.ChangeAt Go.RowKit Go.Proofs.Ytcpaenmhnoagdac.mem Go.Proofs.Ytcpaenmhnoagdac.nums
set_option linter.unusedVariables false

/-- years and cuts of a plan are as told -/
def planB (n : Nat) (C : Nat → Int) (years : Int) : Bool := inB years 1 12 && risL 0 (years - 1) C n
theorem planB_of {n : Nat} {C : Nat → Int} {years : Int} (h : planB n C years = true) : (1 ≤ years ∧ years ≤ 12) ∧ risL 0 (years - 1) C n = true := by
  unfold planB at h
  simp only [Bool.and_eq_true] at h
  exact ⟨inB_of h.1, h.2⟩

/-- the year of the cut before, and the sum of what the first cuts yield -/
def lst (a : Int) (C : Nat → Int) : Nat → Int
  | 0 => -a
  | i + 1 => C i
def isum (m : Nat) (Y : Nat → Int) (a : Int) (C : Nat → Int) : Nat → Int
  | 0 => 0
  | i + 1 => isum m Y a C i + yl m Y (C i - lst a C i)
theorem lst_bd {a hi : Int} {C : Nat → Int} {n i : Nat} (h : risL 0 hi C n = true) (ha : 0 ≤ a) (hi' : i < n) : 0 ≤ C i - lst a C i ∧ C i ≤ hi ∧ -a ≤ lst a C i ∧ (lst a C i ≤ hi ∨ i = 0) := by
  have h1 := risL_in hi' h
  cases i with
  | zero => simp only [lst]; omega
  | succ i =>
    have h2 := risL_up hi' h
    have h3 := risL_in (i := i) (by omega) h
    simp only [lst]; omega
theorem isum_bd {m : Nat} {Y : Nat → Int} {a hi : Int} {C : Nat → Int} {n : Nat} (hm : 1 ≤ m) (hY : ∀ i, i < m → 0 ≤ Y i ∧ Y i ≤ 10000) (ha : 0 ≤ a) (h : risL 0 hi C n = true) : ∀ i : Nat, i ≤ n → 0 ≤ isum m Y a C i ∧ isum m Y a C i ≤ 10000 * i
  | 0, _ => by simp [isum]
  | i + 1, hi' => by
    obtain ⟨h1, h2⟩ := isum_bd hm hY ha h i (by omega)
    have h3 := yl_bd (t := C i - lst a C i) hm hY (lst_bd h ha (by omega)).1
    simp only [isum]
    omega
theorem pls_isum {m : Nat} {Y : Nat → Int} {a hi : Int} {C : Nat → Int} {n : Nat} (ha : 0 ≤ a) (h : risL 0 hi C n = true) : ∀ (y i : Nat), i ≤ n → (∀ j, j < i → C j < y) → (∀ j, i ≤ j → j < n → (y : Int) ≤ C j) →
    pls m Y a (orC C n) y = (isum m Y a C i, y - lst a C i)
  | 0, i, hi', h1, h2 => by
    have : i = 0 := by
      rcases Nat.eq_zero_or_pos i with e | e
      · exact e
      · have := h1 0 e
        have := risL_in (i := 0) (by omega) h
        omega
    subst this
    simp [pls, isum, lst]
  | y + 1, i, hi', h1, h2 => by
    by_cases hc : 0 < i ∧ C (i - 1) = y
    · obtain ⟨i0, hc⟩ := hc
      obtain ⟨k, rfl⟩ : ∃ k, i = k + 1 := ⟨i - 1, by omega⟩
      simp only [Nat.add_sub_cancel] at hc
      have hb : (orC C n).testBit y = true := orC_bit.2 ⟨k, by omega, by omega⟩
      have ih := pls_isum (m := m) (Y := Y) ha h y k (by omega) (fun j hj => by have := risL_lt (k := k) (by omega) hj h; omega) (fun j hj hjn => by
        by_cases e : j = k
        · subst e; omega
        · have := risL_lt (k := j) (i := k) hjn (by omega) h; omega)
      rw [pls_yes hb, ih]
      simp only [isum, lst, hc]
      ext <;> simp <;> omega
    · have h3 : ∀ j, j < i → C j < y := fun j hj => by
        have a1 := h1 j hj
        by_cases e : j = i - 1
        · subst e
          have : ¬ C (i - 1) = y := fun e => hc ⟨by omega, e⟩
          omega
        · have a2 := risL_lt (k := i - 1) (i := j) (by omega) (by omega) h
          have a3 := h1 (i - 1) (by omega)
          omega
      have hb : (orC C n).testBit y = false := by
        cases e : (orC C n).testBit y
        · rfl
        · obtain ⟨j, hj, e2⟩ := orC_bit.1 e
          have hj0 := risL_in hj h
          rcases Nat.lt_or_ge j i with hlt | hge
          · have := h3 j hlt; omega
          · have := h2 j hge hj; omega
      rw [pls_no hb, pls_isum ha h y i hi' h3 (fun j hj hjn => by have := h2 j hj hjn; omega)]
      ext <;> simp <;> omega

theorem or_step {C : Nat → Int} {i : Nat} (h : orC C i < 2 ^ 12) (ht : (C i).toNat < 12) : Value.int .i64 (bits .or .i64 (orC C i : Nat) (wrap64 (2 ^ (C i).toNat))) = .int .i64 ((orC C (i + 1) : Nat) : Int) := by
  have h1 : 2 ^ (C i).toNat < 2 ^ 12 := Nat.pow_lt_pow_right (by decide) ht
  obtain ⟨q, hq⟩ : ∃ q : Nat, 2 ^ (C i).toNat = q := ⟨_, rfl⟩
  have h2 : (2 : Int) ^ (C i).toNat = (q : Int) := by rw [← hq]; simp
  rw [hq] at h1
  rw [h2, IntWalk.wrap64_in _ ⟨by omega, by omega⟩, i64_or_nat (by omega) (by omega), ← hq]
  rfl

end Go.Proofs.Ytcpaenmhnoagdac.rod
