/-
  Which of two sets of small numbers comes first: by bits, and by lists. Contracts of the model's comparison and of the program's; the numbers of a set.
-/
import Derived.Test.YtlepgkmpbhlajaaDoorOnes
import Derived.Laws.BitsAllLaws
namespace Go.Proofs.YtlepgkmpbhlajaaDoor.rod
open Go.ChangeShapes Go.WideShapes Go.ChangeAt Go.RowKit Go.Proofs.YtlepgkmpbhlajaaDoor.mem Go.Proofs.YtlepgkmpbhlajaaDoor.nums
set_option linter.unusedVariables false

/-- the least number that is in one of the sets alone is in the first one -/
def Lex (p q : Nat) : Prop := ∃ t, p.testBit t = true ∧ q.testBit t = false ∧ ∀ s, s < t → p.testBit s = q.testBit s
/-- the first set comes before the other one -/
def Bef (n p q : Nat) : Prop := cnt p.testBit n < cnt q.testBit n ∨ cnt p.testBit n = cnt q.testBit n ∧ Lex p q
/-- either two numbers have the same bits, or there is a least place at which they differ -/
theorem lex_cases (p q : Nat) : p = q ∨ ∃ t, p.testBit t ≠ q.testBit t ∧ ∀ s, s < t → p.testBit s = q.testBit s := by
  by_cases h : p = q
  · exact .inl h
  · right
    have h1 : ∃ t, p.testBit t ≠ q.testBit t := by
      by_cases h2 : ∃ t, p.testBit t ≠ q.testBit t
      · exact h2
      · exact absurd (Nat.eq_of_testBit_eq fun i => by
          by_cases h3 : p.testBit i = q.testBit i
          · exact h3
          · exact absurd ⟨i, h3⟩ h2) h
    obtain ⟨t, ht⟩ := h1
    induction t using Nat.strongRecOn with
    | ind t ih =>
      by_cases h2 : ∃ s, s < t ∧ p.testBit s ≠ q.testBit s
      · obtain ⟨s, hs, hne⟩ := h2
        exact ih s hs hne
      · exact ⟨t, ht, fun s hs => by
          by_cases h3 : p.testBit s = q.testBit s
          · exact h3
          · exact absurd ⟨s, hs, h3⟩ h2⟩
theorem lex_asymm {p q : Nat} (h : Lex p q) (h2 : Lex q p) : False := by
  obtain ⟨t, a1, a2, a3⟩ := h
  obtain ⟨u, b1, b2, b3⟩ := h2
  rcases Nat.lt_trichotomy t u with h | h | h
  · have := b3 t h; rw [a1, a2] at this; cases this
  · subst h; rw [a1] at b2; cases b2
  · have := a3 u h; rw [b1, b2] at this; cases this
theorem lex_total {p q : Nat} (h : p ≠ q) : Lex p q ∨ Lex q p := by
  rcases lex_cases p q with e | ⟨t, ht, hs⟩
  · exact absurd e h
  · cases e1 : p.testBit t
    · cases e2 : q.testBit t
      · rw [e1, e2] at ht; exact absurd rfl ht
      · exact .inr ⟨t, e2, e1, fun s h => (hs s h).symm⟩
    · cases e2 : q.testBit t
      · exact .inl ⟨t, e1, e2, hs⟩
      · rw [e1, e2] at ht; exact absurd rfl ht

/-- the lowest bit of a number, as minus tells it -/
theorem low_bit {d : Nat} (h0 : 0 < d) (h : d < 2 ^ 32) (i : Nat) : ((4294967296 - d) &&& d).testBit i = true ↔ d.testBit i = true ∧ ∀ s, s < i → d.testBit s = false := by
  obtain ⟨t, ht, hs⟩ : ∃ t, d.testBit t = true ∧ ∀ s, s < t → d.testBit s = false := by
    rcases lex_cases d 0 with e | ⟨t, ht, hs⟩
    · omega
    · exact ⟨t, by simpa using ht, fun s h => by simpa using hs s h⟩
  have hx : d - 1 < 2 ^ 32 := by omega
  have e1 : 4294967296 - d = 2 ^ 32 - ((d - 1) + 1) := by omega
  -- d = 2^t * (2 m + 1)
  have hmod : d % 2 ^ t = 0 := by
    apply Nat.eq_of_testBit_eq
    intro j
    rw [Nat.testBit_mod_two_pow, Nat.zero_testBit]
    by_cases hj : j < t
    · rw [hs j hj]; simp
    · simp [hj]
  have hodd : d / 2 ^ t % 2 = 1 := by
    have := ht
    rw [Nat.testBit_eq_decide_div_mod_eq] at this
    simpa using this
  obtain ⟨m, hm⟩ : ∃ m, d = 2 ^ t * (2 * m + 1) := by
    refine ⟨d / 2 ^ t / 2, ?_⟩
    have h1 : d / 2 ^ t = 2 * (d / 2 ^ t / 2) + 1 := by omega
    have h2 := Nat.div_add_mod d (2 ^ t)
    rw [hmod, Nat.add_zero] at h2
    rw [← h1, h2]
  have hp : 0 < 2 ^ t := Nat.two_pow_pos t
  have key : ∀ j, t ≤ j → (d - 1).testBit j = (!decide (j = t) && d.testBit j) := by
    intro j hj
    have hd1 : (d - 1) / 2 ^ t = 2 * m := by
      have h3 : d - 1 = 2 ^ t * (2 * m) + (2 ^ t - 1) := by rw [hm, Nat.mul_add, Nat.mul_one]; omega
      rw [h3, Nat.mul_add_div hp, Nat.div_eq_of_lt (by omega), Nat.add_zero]
    have hd2 : d / 2 ^ t = 2 * m + 1 := by rw [hm, Nat.mul_div_cancel_left _ hp]
    obtain ⟨k, rfl⟩ : ∃ k, j = k + t := ⟨j - t, by omega⟩
    rw [← Nat.testBit_div_two_pow, ← Nat.testBit_div_two_pow, hd1, hd2]
    cases k with
    | zero => simp [Nat.testBit_zero]
    | succ k =>
      rw [Nat.testBit_succ, Nat.testBit_succ, show 2 * m / 2 = m by omega, show (2 * m + 1) / 2 = m by omega]
      simp
  rw [Nat.testBit_and, e1, Nat.testBit_two_pow_sub_succ hx]
  constructor
  · intro h
    simp only [Bool.and_eq_true, decide_eq_true_eq, Bool.not_eq_true'] at h
    obtain ⟨⟨h1, h2⟩, h3⟩ := h
    have hti : t ≤ i := by
      rcases Nat.lt_or_ge i t with h4 | h4
      · rw [hs i h4] at h3; cases h3
      · exact h4
    rw [key i hti, h3] at h2
    have : i = t := by simpa using h2
    subst this
    exact ⟨h3, hs⟩
  · rintro ⟨h1, h2⟩
    have : i = t := by
      rcases Nat.lt_trichotomy i t with h4 | h4 | h4
      · rw [hs i h4] at h1; cases h1
      · exact h4
      · have := h2 t h4; rw [ht] at this; cases this
    subst this
    have hi16 : i < 32 := by
      rcases Nat.lt_or_ge i 32 with h4 | h4
      · exact h4
      · rw [bit_out h h4] at h1; cases h1
    rw [key i (Nat.le_refl _), h1]
    simp [hi16]
theorem lex_low {p q : Nat} (hp : p < 2 ^ 32) (hq : q < 2 ^ 32) : ((p &&& (p ^^^ q)) &&& ((4294967296 - (p ^^^ q)) % 4294967296) ≠ 0) ↔ Lex p q := by
  have hd : p ^^^ q < 2 ^ 32 := Nat.xor_lt_two_pow hp hq
  have hbit : ∀ i, (p ^^^ q).testBit i = (p.testBit i ^^ q.testBit i) := fun i => Nat.testBit_xor p q i
  generalize p ^^^ q = d at *
  rcases Nat.eq_zero_or_pos d with h0 | h0
  · subst h0
    constructor
    · intro h; simp at h
    · rintro ⟨t, h1, h2, _⟩
      have := hbit t
      rw [h1, h2] at this
      simp at this
  · rw [Nat.mod_eq_of_lt (show 4294967296 - d < 4294967296 by omega), Nat.and_assoc, Nat.and_comm d]
    constructor
    · intro h
      obtain ⟨i, hi⟩ : ∃ i, (p &&& ((4294967296 - d) &&& d)).testBit i = true := by
        rcases lex_cases (p &&& ((4294967296 - d) &&& d)) 0 with e | ⟨t, ht, _⟩
        · exact absurd e h
        · exact ⟨t, by simpa using ht⟩
      rw [Nat.testBit_and, Bool.and_eq_true] at hi
      obtain ⟨h1, h2⟩ := (low_bit h0 hd i).1 hi.2
      refine ⟨i, hi.1, ?_, fun s hs => ?_⟩
      · rw [hbit, hi.1] at h1; simpa using h1
      · have := h2 s hs; rw [hbit] at this; simpa using this
    · rintro ⟨t, h1, h2, h3⟩ h
      have h4 : (p &&& ((4294967296 - d) &&& d)).testBit t = true := by
        rw [Nat.testBit_and, h1, Bool.true_and]
        exact (low_bit h0 hd t).2 ⟨by rw [hbit, h1, h2]; rfl, fun s hs => by rw [hbit, h3 s hs]; simp⟩
      rw [h] at h4
      simp at h4

/-- lists, number by number; shorter ones first -/
def lexL : List Int → List Int → Bool
  | a :: l, b :: m => if a = b then lexL l m else decide (a < b)
  | _, _ => false
def lessL (l m : List Int) : Bool := if l.length = m.length then lexL l m else decide (l.length < m.length)
theorem lexL_app (x : List Int) (l m : List Int) : lexL (x ++ l) (x ++ m) = lexL l m := by
  induction x with
  | nil => rfl
  | cons a x ih => simp [lexL, ih]
theorem lexL_self (l : List Int) : lexL l l = false := by
  induction l with
  | nil => rfl
  | cons a l ih => simp [lexL, ih]
theorem idxs_split (f : Nat → Bool) {m : Nat} : ∀ n, m ≤ n → ∃ r, idxs f n = idxs f m ++ r ∧ ∀ y ∈ r, (m : Int) ≤ y
  | 0, h => ⟨[], by obtain rfl : m = 0 := by omega
                    simp, fun y hy => by simp at hy⟩
  | n + 1, h => by
    by_cases e : m = n + 1
    · subst e; exact ⟨[], by simp, fun y hy => by simp at hy⟩
    · obtain ⟨r, hr, hy⟩ := idxs_split f (m := m) n (by omega)
      cases ef : f n
      · exact ⟨r, by rw [idxs_no ef, hr], hy⟩
      · refine ⟨r ++ [(n : Int)], by rw [idxs_yes ef, hr, List.append_assoc], fun y hyy => ?_⟩
        rcases List.mem_append.1 hyy with h1 | h1
        · exact hy y h1
        · simp at h1; omega
theorem idxs_congr {f g : Nat → Bool} : ∀ {n : Nat}, (∀ i, i < n → f i = g i) → idxs f n = idxs g n
  | 0, _ => rfl
  | n + 1, h => by
    have ih := idxs_congr (f := f) (g := g) (n := n) fun i hi => h i (by omega)
    cases e : f n
    · rw [idxs_no e, idxs_no ((h n (by omega)).symm.trans e), ih]
    · rw [idxs_yes e, idxs_yes ((h n (by omega)).symm.trans e), ih]
theorem lexL_lex {n p q : Nat} (hp : p < 2 ^ n) (hq : q < 2 ^ n) (hc : cnt p.testBit n = cnt q.testBit n) (h : Lex p q) : lexL (idxs p.testBit n) (idxs q.testBit n) = true ∧ lexL (idxs q.testBit n) (idxs p.testBit n) = false := by
  obtain ⟨t, h1, h2, h3⟩ := h
  have ht : t < n := by
    rcases Nat.lt_or_ge t n with h4 | h4
    · exact h4
    · rw [bit_out hp h4] at h1; cases h1
  obtain ⟨r, hr, _⟩ := idxs_split p.testBit n (show t + 1 ≤ n by omega)
  obtain ⟨r2, hr2, hy⟩ := idxs_split q.testBit n (show t + 1 ≤ n by omega)
  rw [idxs_yes h1, List.append_assoc] at hr
  rw [idxs_no h2, ← idxs_congr h3] at hr2
  have hlen : (idxs p.testBit n).length = (idxs q.testBit n).length := by rw [idxs_cnt, idxs_cnt, hc]
  rw [hr, hr2] at hlen ⊢
  cases r2 with
  | nil => simp at hlen
  | cons y r2 =>
    have hyt := hy y (by simp)
    have ne : ¬ (t : Int) = y := by omega
    have ne2 : ¬ y = (t : Int) := by omega
    rw [lexL_app, lexL_app]
    simp only [List.singleton_append, lexL, if_neg ne, if_neg ne2]
    constructor
    · simp; omega
    · simp; omega
/-- does the first set come before the other one? -/
def befB (n p q : Nat) : Bool := lessL (idxs p.testBit n) (idxs q.testBit n)
theorem befB_iff {n p q : Nat} (hp : p < 2 ^ n) (hq : q < 2 ^ n) : befB n p q = true ↔ Bef n p q := by
  unfold befB lessL
  rw [idxs_cnt, idxs_cnt]
  by_cases hc : cnt p.testBit n = cnt q.testBit n
  · rw [if_pos hc]
    by_cases e : p = q
    · subst e
      rw [lexL_self]
      constructor
      · intro h; cases h
      · rintro (h | ⟨_, h⟩)
        · omega
        · exact (lex_asymm h h).elim
    · rcases lex_total e with h | h
      · rw [(lexL_lex hp hq hc h).1]
        exact ⟨fun _ => .inr ⟨hc, h⟩, fun _ => rfl⟩
      · rw [(lexL_lex hq hp hc.symm h).2]
        constructor
        · intro h; cases h
        · rintro (h2 | ⟨_, h2⟩)
          · omega
          · exact (lex_asymm h h2).elim
  · rw [if_neg hc, decide_eq_true_eq]
    constructor
    · exact fun h => .inl h
    · rintro (h | ⟨h, _⟩)
      · exact h
      · exact absurd h hc

set_option maxHeartbeats 2000000 in
theorem size_i (B : Nat) (w : World) (hB : B < 2 ^ 32) :
    Calls Tryd.prog 89 #[.int .u32 B] w fun e w' => e = .returned (.int .i64 (Lib.onesCount B : Nat)) ∧ ∃ m, w' = w.drewN m := by
  go_enter Tryd.func89, Tryd.ntmps89
  go_wp2_with fail
  refine (ones_i B _ hB).mono ?_
  rintro e w' ⟨rfl, m, rfl⟩
  go_wp2
  go_ret
  exact ⟨rfl, _, rfl⟩

set_option maxHeartbeats 4000000 in
theorem isBefore_i (n p q : Nat) (w : World) (hn : n ≤ 32) (hp : p < 2 ^ n) (hq : q < 2 ^ n) :
    Calls Tryd.prog 75 #[.int .u32 p, .int .u32 q] w fun e w' => e = .returned (.bool (befB n p q)) ∧ ∃ m, w' = w.drewN m := by
  have hp16 : p < 2 ^ 32 := Nat.lt_of_lt_of_le hp (Nat.pow_le_pow_right (by decide) hn)
  have hq16 : q < 2 ^ 32 := Nat.lt_of_lt_of_le hq (Nat.pow_le_pow_right (by decide) hn)
  have c1 := ones_cnt hp (by omega)
  have c2 := ones_cnt hq (by omega)
  have hiff := befB_iff hp hq
  unfold Bef at hiff
  rw [← c1, ← c2] at hiff
  by_cases hc : Lib.onesCount p = Lib.onesCount q
  · have hd : p ^^^ q < 2 ^ 32 := Nat.xor_lt_two_pow hp16 hq16
    have hx : bits .xor .u32 (p : Int) (q : Int) = ((p ^^^ q : Nat) : Int) := Go.u32_xor_nat p q hp16 hq16
    have hng : IntKind.u32.wrap (-((p ^^^ q : Nat) : Int)) = (((4294967296 - (p ^^^ q)) % 4294967296 : Nat) : Int) := by show (-((p ^^^ q : Nat) : Int)) % 4294967296 = _; omega
    have ha1 : bits .and .u32 (p : Int) ((p ^^^ q : Nat) : Int) = ((p &&& (p ^^^ q) : Nat) : Int) := Go.u32_and_nat _ _ hp16 hd
    have ha2 : bits .and .u32 ((p &&& (p ^^^ q) : Nat) : Int) (((4294967296 - (p ^^^ q)) % 4294967296 : Nat) : Int) = (((p &&& (p ^^^ q)) &&& ((4294967296 - (p ^^^ q)) % 4294967296) : Nat) : Int) := Go.u32_and_nat _ _ (Nat.lt_of_le_of_lt Nat.and_le_left hp16) (by omega)
    have hl := lex_low hp16 hq16
    have hres : (!(((p &&& (p ^^^ q)) &&& ((4294967296 - (p ^^^ q)) % 4294967296) : Nat) : Int) == 0) = befB n p q := by
      apply Bool.eq_iff_iff.2
      rw [hiff, ← hl]
      constructor
      · intro h; exact .inr ⟨hc, by simpa using h⟩
      · rintro (h | ⟨_, h⟩)
        · omega
        · simpa using h
    have HR := Lib.hid hres
    have eqc : Lib.onesCount q = Lib.onesCount p := hc.symm
    clear hiff hl hres c1 c2 hc
    generalize p ^^^ q = d at *
    generalize (4294967296 - d) % 4294967296 = nd at *
    generalize p &&& d = pd at *
    generalize pd &&& nd = x at *
    go_enter Tryd.func75, Tryd.ntmps75
    go_wp2_with fail
    refine (size_i p _ hp16).mono ?_
    rintro e w1 ⟨rfl, m1, rfl⟩
    go_wp2_with fail
    refine (size_i q _ hq16).mono ?_
    rintro e w2 ⟨rfl, m2, rfl⟩
    rw [eqc]
    go_wp2_with fail
    go_ret
    exact ⟨by rw [← HR.out]; rfl, _, rfl⟩
  · have e1 : ((Lib.onesCount p : Int) == (Lib.onesCount q : Int)) = false := by simp; omega
    have e2 : ((Lib.onesCount p : Int) != (Lib.onesCount q : Int)) = true := by simp; omega
    have hres : decide (Lib.onesCount p < Lib.onesCount q) = befB n p q := by
      apply Bool.eq_iff_iff.2
      rw [hiff, decide_eq_true_eq]
      exact ⟨fun h => .inl h, fun h => by rcases h with h | ⟨h, _⟩; exact h; exact absurd h hc⟩
    have HR := Lib.hid hres
    clear hiff hres c1 c2
    go_enter Tryd.func75, Tryd.ntmps75
    go_wp2_with fail
    refine (size_i p _ hp16).mono ?_
    rintro e w1 ⟨rfl, m1, rfl⟩
    go_wp2_with fail
    refine (size_i q _ hq16).mono ?_
    rintro e w2 ⟨rfl, m2, rfl⟩
    go_wp2_with fail
    refine (size_i p _ hp16).mono ?_
    rintro e w3 ⟨rfl, m3, rfl⟩
    go_wp2_with fail
    refine (size_i q _ hq16).mono ?_
    rintro e w4 ⟨rfl, m4, rfl⟩
    go_wp2_with fail
    go_ret
    exact ⟨by rw [← HR.out]; rfl, _, rfl⟩

end Go.Proofs.YtlepgkmpbhlajaaDoor.rod
