/-
  The best cuts of a bed: the mathematics. A sum and a set of years as one number, the greater the better; the way back over the years; the search over all sets.
-/
import Derived.Test.YtcpaenmhnoagdacCutFor
import Derived.Test.YtcpaenmhnoagdacPlan
namespace Go.Proofs.Ytcpaenmhnoagdac.rod
open Go.ChangeShapes Go.WideShapes Go.ChangeAt Go.RowKit Go.Proofs.Ytcpaenmhnoagdac.mem Go.Proofs.Ytcpaenmhnoagdac.nums
set_option linter.unusedVariables false

/-- the bits of a set read the other way round, of sixteen -/
def rv (f : Nat → Bool) : Nat → Nat
  | 0 => 0
  | n + 1 => rv f n + if f n then 2 ^ (15 - n) else 0
theorem pow_half {n : Nat} (h : n + 1 ≤ 16) : 2 ^ (16 - n) = 2 * 2 ^ (15 - n) ∧ 2 ^ (16 - (n + 1)) = 2 ^ (15 - n) := by
  constructor
  · rw [show 16 - n = 15 - n + 1 by omega, Nat.pow_succ, Nat.mul_comm]
  · rw [show 16 - (n + 1) = 15 - n by omega]
theorem rv_tail (f : Nat → Bool) {t : Nat} : ∀ n, t ≤ n → n ≤ 16 → rv f n + 2 ^ (16 - n) ≤ rv f t + 2 ^ (16 - t)
  | 0, h, _ => by obtain rfl : t = 0 := by omega
                  exact Nat.le_refl _
  | n + 1, h, h16 => by
    by_cases e : t = n + 1
    · subst e; exact Nat.le_refl _
    · have ih := rv_tail f (t := t) n (by omega) (by omega)
      obtain ⟨p1, p2⟩ := pow_half (n := n) h16
      simp only [rv]
      rw [p2]
      rw [p1] at ih
      split <;> omega
theorem rv_mono (f : Nat → Bool) {t : Nat} : ∀ n, t ≤ n → rv f t ≤ rv f n
  | 0, h => by obtain rfl : t = 0 := by omega
               exact Nat.le_refl _
  | n + 1, h => by
    by_cases e : t = n + 1
    · subst e; exact Nat.le_refl _
    · have ih := rv_mono f (t := t) n (by omega)
      simp only [rv]
      omega
theorem rv_lt (f : Nat → Bool) : rv f 16 < 65536 := by
  have := rv_tail f (t := 0) 16 (by omega) (by omega)
  have h1 : (2 : Nat) ^ (16 - 0) = 65536 := by decide
  have h2 : (2 : Nat) ^ (16 - 16) = 1 := by decide
  have h3 : rv f 0 = 0 := rfl
  rw [h1, h2, h3] at this
  omega
theorem rv_congr {f g : Nat → Bool} : ∀ {n : Nat}, (∀ i, i < n → f i = g i) → rv f n = rv g n
  | 0, _ => rfl
  | n + 1, h => by simp only [rv, h n (by omega), rv_congr (n := n) (fun i hi => h i (by omega))]
theorem rv_more (f : Nat → Bool) {m : Nat} : ∀ n, m ≤ n → (∀ i, m ≤ i → f i = false) → rv f n = rv f m
  | 0, h, _ => by obtain rfl : m = 0 := by omega
                  rfl
  | n + 1, h, hf => by
    by_cases e : m = n + 1
    · subst e; rfl
    · simp only [rv, hf n (by omega)]
      rw [rv_more f n (by omega) hf]; simp
theorem rv_lex {p q : Nat} (hp : p < 2 ^ 16) (h : Lex p q) : rv q.testBit 16 < rv p.testBit 16 := by
  obtain ⟨t, h1, h2, h3⟩ := h
  have ht : t < 16 := by
    rcases Nat.lt_or_ge t 16 with h | h
    · exact h
    · rw [bit_out hp h] at h1; cases h1
  have e := rv_congr (n := t) h3
  have a1 := rv_mono p.testBit (t := t + 1) 16 (by omega)
  have a2 := rv_tail q.testBit (t := t + 1) 16 (by omega) (by omega)
  obtain ⟨p1, p2⟩ := pow_half (n := t) (by omega)
  have hp0 := Nat.two_pow_pos (15 - t)
  have p3 : 2 ^ (16 - 16) = 1 := by decide
  rw [p2, p3] at a2
  have s1 : rv p.testBit (t + 1) = rv p.testBit t + 2 ^ (15 - t) := by show _ + (if _ then _ else _) = _; rw [if_pos h1]
  have s2 : rv q.testBit (t + 1) = rv q.testBit t := by show _ + (if _ then _ else _) = _; rw [h2]; simp
  rw [s1] at a1
  rw [s2] at a2
  omega
theorem cnt_le (f : Nat → Bool) : ∀ n, cnt f n ≤ n
  | 0 => Nat.le_refl _
  | n + 1 => by have := cnt_le f n; simp only [cnt]; split <;> omega

/-- a sum and a set as one number -/
def ky (s : Int) (B : Nat) : Int := s * 2097152 - (cnt B.testBit 16 : Int) * 65536 + (rv B.testBit 16 : Int)
/-- the first sum and set are better -/
def Btr (s : Int) (p : Nat) (u : Int) (q : Nat) : Prop := u < s ∨ s = u ∧ Bef 16 p q
theorem ky_iff {s u : Int} {p q : Nat} (hp : p < 2 ^ 16) (hq : q < 2 ^ 16) : Btr s p u q ↔ ky u q < ky s p := by
  have c1 := cnt_le p.testBit 16
  have c2 := cnt_le q.testBit 16
  have r1 := rv_lt p.testBit
  have r2 := rv_lt q.testBit
  unfold Btr Bef ky
  constructor
  · rintro (h | ⟨rfl, h | ⟨h, hl⟩⟩)
    · omega
    · omega
    · have := rv_lex hp hl
      omega
  · intro h
    rcases Int.lt_trichotomy s u with h1 | h1 | h1
    · omega
    · subst h1
      refine .inr ⟨rfl, ?_⟩
      rcases Nat.lt_trichotomy (cnt p.testBit 16) (cnt q.testBit 16) with h2 | h2 | h2
      · exact .inl h2
      · refine .inr ⟨h2, ?_⟩
        by_cases e : p = q
        · subst e; omega
        · rcases lex_total e with h3 | h3
          · exact h3
          · have := rv_lex hq h3; omega
      · omega
    · exact .inl h1
theorem ky_inj {s u : Int} {p q : Nat} (hp : p < 2 ^ 16) (hq : q < 2 ^ 16) (h : ky s p = ky u q) : s = u ∧ p = q := by
  have h1 : ¬ Btr s p u q := fun hb => by have := (ky_iff hp hq).1 hb; omega
  have h2 : ¬ Btr u q s p := fun hb => by have := (ky_iff hq hp).1 hb; omega
  unfold Btr Bef at h1 h2
  have e : s = u := by
    rcases Int.lt_trichotomy s u with h3 | h3 | h3
    · exact absurd (.inl h3) h2
    · exact h3
    · exact absurd (.inl h3) h1
  subst e
  refine ⟨rfl, ?_⟩
  by_cases e : p = q
  · exact e
  · exfalso
    rcases Nat.lt_trichotomy (cnt p.testBit 16) (cnt q.testBit 16) with h3 | h3 | h3
    · exact h1 (.inr ⟨rfl, .inl h3⟩)
    · rcases lex_total e with h4 | h4
      · exact h1 (.inr ⟨rfl, .inr ⟨h3, h4⟩⟩)
      · exact h2 (.inr ⟨rfl, .inr ⟨h3.symm, h4⟩⟩)
    · exact h2 (.inr ⟨rfl, .inl h3⟩)
theorem or_bit (B j i : Nat) : (B ||| 2 ^ j).testBit i = (B.testBit i || decide (j = i)) := by rw [Nat.testBit_or, Nat.testBit_two_pow]
theorem cnt_or {B j : Nat} (h : B.testBit j = false) : ∀ n, cnt (B ||| 2 ^ j).testBit n = cnt B.testBit n + if j < n then 1 else 0
  | 0 => by simp [cnt]
  | n + 1 => by
    simp only [cnt, cnt_or h n, or_bit]
    by_cases e : j = n
    · subst e; simp [h]
    · simp only [decide_eq_false e, Bool.or_false]
      split <;> split <;> split <;> omega
theorem rv_or {B j : Nat} (h : B.testBit j = false) : ∀ n, rv (B ||| 2 ^ j).testBit n = rv B.testBit n + if j < n then 2 ^ (15 - j) else 0
  | 0 => by simp [rv]
  | n + 1 => by
    simp only [rv, rv_or h n, or_bit]
    by_cases e : j = n
    · subst e; simp [h]
    · simp only [decide_eq_false e, Bool.or_false]
      split <;> split <;> split <;> omega
theorem ky_or {s y : Int} {B j : Nat} (h : B.testBit j = false) (hj : j < 16) : ky (s + y) (B ||| 2 ^ j) = ky s B + (y * 2097152 - 65536 + ((2 ^ (15 - j) : Nat) : Int)) := by
  unfold ky
  rw [cnt_or h, rv_or h, if_pos hj, if_pos hj]
  generalize 2 ^ (15 - j) = x
  omega

section
variable (m : Nat) (Y : Nat → Int) (N : Nat)
/-- what is best for the last r years, with so many years since the last cut -/
def hv : Nat → Nat → Int × Nat
  | 0, _ => (0, 0)
  | r + 1, a => if ky (hv r (min (a + 1) 5)).1 (hv r (min (a + 1) 5)).2 < ky ((hv r 1).1 + yl m Y a) ((hv r 1).2 ||| 2 ^ (N - (r + 1))) then ((hv r 1).1 + yl m Y a, (hv r 1).2 ||| 2 ^ (N - (r + 1))) else hv r (min (a + 1) 5)
/-- what a set gains in the last r years -/
def kf (B : Nat) : Nat → Int → Int
  | 0, _ => 0
  | r + 1, t => if B.testBit (N - (r + 1)) then yl m Y t * 2097152 - 65536 + ((2 ^ (15 - (N - (r + 1))) : Nat) : Int) + kf B r 1 else kf B r (t + 1)
end
section
variable {m : Nat} {Y : Nat → Int} {N : Nat}
theorem hv_cut {r a : Nat} (h : ky (hv m Y N r (min (a + 1) 5)).1 (hv m Y N r (min (a + 1) 5)).2 < ky ((hv m Y N r 1).1 + yl m Y a) ((hv m Y N r 1).2 ||| 2 ^ (N - (r + 1)))) : hv m Y N (r + 1) a = ((hv m Y N r 1).1 + yl m Y a, (hv m Y N r 1).2 ||| 2 ^ (N - (r + 1))) := by
  show (if _ then _ else _) = _; rw [if_pos h]
theorem hv_no {r a : Nat} (h : ¬ ky (hv m Y N r (min (a + 1) 5)).1 (hv m Y N r (min (a + 1) 5)).2 < ky ((hv m Y N r 1).1 + yl m Y a) ((hv m Y N r 1).2 ||| 2 ^ (N - (r + 1)))) : hv m Y N (r + 1) a = hv m Y N r (min (a + 1) 5) := by
  show (if _ then _ else _) = _; rw [if_neg h]
theorem hv_bits : ∀ (r a i : Nat), r ≤ N → (hv m Y N r a).2.testBit i = true → N - r ≤ i ∧ i < N
  | 0, a, i, _, h => by simp [hv] at h
  | r + 1, a, i, hr, h => by
    by_cases hc : ky (hv m Y N r (min (a + 1) 5)).1 (hv m Y N r (min (a + 1) 5)).2 < ky ((hv m Y N r 1).1 + yl m Y a) ((hv m Y N r 1).2 ||| 2 ^ (N - (r + 1)))
    · rw [hv_cut hc] at h
      simp only [or_bit, Bool.or_eq_true, decide_eq_true_eq] at h
      rcases h with h | h
      · have := hv_bits r 1 i (by omega) h; omega
      · omega
    · rw [hv_no hc] at h
      have := hv_bits r _ i (by omega) h; omega
theorem hv_lt {r a : Nat} (hr : r ≤ N) : (hv m Y N r a).2 < 2 ^ N := by
  apply Nat.lt_pow_two_of_testBit
  intro i hi
  cases e : (hv m Y N r a).2.testBit i
  · rfl
  · have := hv_bits r a i hr e; omega
theorem hv_free {r a : Nat} (hr : r + 1 ≤ N) : (hv m Y N r a).2.testBit (N - (r + 1)) = false := by
  cases e : (hv m Y N r a).2.testBit (N - (r + 1))
  · rfl
  · have := hv_bits r a _ (by omega) e; omega
theorem hv_ge {r a : Nat} : ky ((hv m Y N r 1).1 + yl m Y a) ((hv m Y N r 1).2 ||| 2 ^ (N - (r + 1))) ≤ ky (hv m Y N (r + 1) a).1 (hv m Y N (r + 1) a).2 ∧ ky (hv m Y N r (min (a + 1) 5)).1 (hv m Y N r (min (a + 1) 5)).2 ≤ ky (hv m Y N (r + 1) a).1 (hv m Y N (r + 1) a).2 := by
  by_cases hc : ky (hv m Y N r (min (a + 1) 5)).1 (hv m Y N r (min (a + 1) 5)).2 < ky ((hv m Y N r 1).1 + yl m Y a) ((hv m Y N r 1).2 ||| 2 ^ (N - (r + 1)))
  · rw [hv_cut hc]; exact ⟨Int.le_refl _, Int.le_of_lt hc⟩
  · rw [hv_no hc]; exact ⟨by omega, Int.le_refl _⟩
theorem yl_cap {t : Int} {a : Nat} (m1 : 1 ≤ m) (m5 : m ≤ 5) (ht : 0 ≤ t) (ha : (a : Int) = min t 5) : yl m Y t = yl m Y a := by
  by_cases h : t ≤ 5
  · rw [show (a : Int) = t by omega]
  · unfold yl
    rw [if_neg (by omega), if_neg (by omega), if_neg (by omega)]
    split
    · have : m = 5 := by omega
      rw [show (a : Int).toNat - 1 = m - 1 by omega]
    · rfl
theorem ky_zero : ky 0 0 = 0 := by decide
theorem kf_le (m1 : 1 ≤ m) (m5 : m ≤ 5) (hN : N ≤ 12) (B : Nat) : ∀ (r a : Nat) (t : Int), r ≤ N → 0 ≤ t → (a : Int) = min t 5 → kf m Y N B r t ≤ ky (hv m Y N r a).1 (hv m Y N r a).2
  | 0, a, t, _, _, _ => by show (0 : Int) ≤ ky 0 0; rw [ky_zero]; exact Int.le_refl _
  | r + 1, a, t, hr, ht, ha => by
    obtain ⟨g1, g2⟩ := hv_ge (m := m) (Y := Y) (N := N) (r := r) (a := a)
    have hk := ky_or (s := (hv m Y N r 1).1) (y := yl m Y a) (hv_free (m := m) (Y := Y) (N := N) (r := r) (a := 1) hr) (show N - (r + 1) < 16 by omega)
    simp only [kf]
    split
    · have ih := kf_le m1 m5 hN B r 1 1 (by omega) (by omega) (by omega)
      rw [yl_cap m1 m5 ht ha]
      omega
    · have ih := kf_le m1 m5 hN B r (min (a + 1) 5) (t + 1) (by omega) (by omega) (by omega)
      omega
theorem kf_eq (m1 : 1 ≤ m) (m5 : m ≤ 5) (hN : N ≤ 12) : ∀ (r a B : Nat) (t : Int), r ≤ N → 0 ≤ t → (a : Int) = min t 5 → (∀ i, N - r ≤ i → i < N → B.testBit i = (hv m Y N r a).2.testBit i) → kf m Y N B r t = ky (hv m Y N r a).1 (hv m Y N r a).2
  | 0, a, B, t, _, _, _, _ => by show (0 : Int) = ky 0 0; rw [ky_zero]
  | r + 1, a, B, t, hr, ht, ha, hB => by
    have hk := ky_or (s := (hv m Y N r 1).1) (y := yl m Y a) (hv_free (m := m) (Y := Y) (N := N) (r := r) (a := 1) hr) (show N - (r + 1) < 16 by omega)
    have hb0 := hB (N - (r + 1)) (Nat.le_refl _) (by omega)
    by_cases hc : ky (hv m Y N r (min (a + 1) 5)).1 (hv m Y N r (min (a + 1) 5)).2 < ky ((hv m Y N r 1).1 + yl m Y a) ((hv m Y N r 1).2 ||| 2 ^ (N - (r + 1)))
    · rw [hv_cut hc] at hB hb0 ⊢
      rw [or_bit, decide_eq_true rfl, Bool.or_true] at hb0
      simp only [kf, hb0, if_true]
      have ih := kf_eq m1 m5 hN r 1 B 1 (by omega) (by omega) (by omega) (fun i h1 h2 => by
        rw [hB i (by omega) h2, or_bit, decide_eq_false (by omega), Bool.or_false])
      rw [ih, yl_cap m1 m5 ht ha, hk]
      omega
    · rw [hv_no hc] at hB hb0 ⊢
      rw [hv_free hr] at hb0
      simp only [kf, hb0]
      exact kf_eq m1 m5 hN r (min (a + 1) 5) B (t + 1) (by omega) (by omega) (by omega) (fun i h1 h2 => hB i (by omega) h2)
/-- what a set gains from a year on, and what it has gained before -/
theorem pls_kf {a : Int} {B : Nat} : ∀ (r y : Nat), y + r = N → (pls m Y a B N).1 * 2097152 - (cnt B.testBit N : Int) * 65536 + (rv B.testBit N : Int) = (pls m Y a B y).1 * 2097152 - (cnt B.testBit y : Int) * 65536 + (rv B.testBit y : Int) + kf m Y N B r (pls m Y a B y).2
  | 0, y, h => by
    obtain rfl : y = N := by omega
    simp [kf]
  | r + 1, y, h => by
    rw [pls_kf r (y + 1) (by omega)]
    have e : N - (r + 1) = y := by omega
    simp only [kf, e]
    cases hb : B.testBit y
    · rw [pls_no hb]
      simp [cnt, rv, hb]
    · rw [pls_yes hb]
      simp only [cnt, rv, hb, if_true]
      generalize 2 ^ (15 - y) = x
      omega
theorem ky_plan {a : Int} {B : Nat} (hN : N ≤ 12) (hB : B < 2 ^ N) : ky (pls m Y a B N).1 B = kf m Y N B N a := by
  have h := pls_kf (m := m) (Y := Y) (N := N) (a := a) (B := B) N 0 (by omega)
  have h1 := cnt_more B.testBit (m := N) 16 (by omega) (fun i hi => bit_out hB hi)
  have h2 := rv_more B.testBit (m := N) 16 (by omega) (fun i hi => bit_out hB hi)
  unfold ky
  rw [h1, h2, h]
  simp [pls, cnt, rv]
/-- the best of all sets is what the way back over the years tells -/
theorem hv_best {a : Nat} {q : Nat} (m1 : 1 ≤ m) (m5 : m ≤ 5) (hN : N ≤ 12) (ha : a ≤ 5) (hq : q < 2 ^ N) (h : ∀ b, b < 2 ^ N → ky (pls m Y a b N).1 b ≤ ky (pls m Y a q N).1 q) : hv m Y N N a = ((pls m Y a q N).1, q) := by
  have hC : (hv m Y N N a).2 < 2 ^ N := hv_lt (Nat.le_refl _)
  have p16 : (2 : Nat) ^ N ≤ 2 ^ 16 := Nat.pow_le_pow_right (by decide) (by omega)
  have e1 := kf_eq (m := m) (Y := Y) m1 m5 hN N a (hv m Y N N a).2 a (Nat.le_refl _) (by omega) (by omega) (fun i _ _ => rfl)
  have e2 := ky_plan (m := m) (Y := Y) (a := a) hN hC
  have e3 := ky_plan (m := m) (Y := Y) (a := a) hN hq
  have e4 := kf_le (m := m) (Y := Y) m1 m5 hN q N a a (Nat.le_refl _) (by omega) (by omega)
  have e5 := h _ hC
  have e6 := ky_inj (s := (hv m Y N N a).1) (u := (pls m Y a q N).1) (p := (hv m Y N N a).2) (q := q) (by omega) (by omega) (by omega)
  exact Prod.ext e6.1 e6.2
end

end Go.Proofs.Ytcpaenmhnoagdac.rod
