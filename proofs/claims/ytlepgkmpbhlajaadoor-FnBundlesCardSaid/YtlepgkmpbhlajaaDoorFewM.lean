/-
  The fewest bundles with a weight: the mathematics. No function of the program lies here.
-/
import Derived.Test.YtlepgkmpbhlajaaDoorScN
import Derived.Test.YtlepgkmpbhlajaaDoorBunM
import Derived.Test.YtlepgkmpbhlajaaDoorCutFor
namespace Go.Proofs.YtlepgkmpbhlajaaDoor.rod
open Go.Proofs.YtlepgkmpbhlajaaDoor.mem Go.Proofs.YtlepgkmpbhlajaaDoor.stab
set_option linter.unusedVariables false

/-- the first t numbers of an order as bits, and what they weigh -/
def bq (Q : Nat → Nat) : Nat → Nat
  | 0 => 0
  | t + 1 => bq Q t ||| 2 ^ (Q t)
def sq (X : Nat → Int) (Q : Nat → Nat) : Nat → Int
  | 0 => 0
  | t + 1 => sq X Q t + X (Q t * 3 + 2)
theorem bq_bit {Q : Nat → Nat} {y : Nat} : ∀ {t : Nat}, (bq Q t).testBit y = true ↔ ∃ i, i < t ∧ Q i = y
  | 0 => by simp [bq]
  | t + 1 => by
    unfold bq
    rw [Nat.testBit_or, Bool.or_eq_true, bq_bit, Nat.testBit_two_pow]
    constructor
    · rintro (⟨i, hi, e⟩ | h)
      · exact ⟨i, by omega, e⟩
      · exact ⟨t, by omega, by simpa using h⟩
    · rintro ⟨i, hi, e⟩
      by_cases h : i = t
      · subst h; exact .inr (by simpa using e)
      · exact .inl ⟨i, by omega, e⟩
theorem bq_lt {Q : Nat → Nat} {n : Nat} : ∀ {t : Nat}, (∀ i, i < t → Q i < n) → bq Q t < 2 ^ n
  | 0, _ => Nat.two_pow_pos n
  | t + 1, h => Nat.or_lt_two_pow (bq_lt (fun i hi => h i (by omega))) (Nat.pow_lt_pow_right (by decide) (h t (by omega)))
theorem bq_new {lt : Nat → Nat → Bool} (hw : Swo lt) {Q : Nat → Nat} {n t : Nat} (h : Ord lt n Q) (ht : t < n) : (bq Q t).testBit (Q t) = false := by
  cases e : (bq Q t).testBit (Q t)
  · rfl
  · obtain ⟨i, hi, e2⟩ := bq_bit.1 e
    have := h.srt i t (Nat.zero_le _) hi ht
    rw [e2] at this
    exact (T_irrefl hw this).elim
theorem sq_bd {X : Nat → Int} {Q : Nat → Nat} {n : Nat} (hv : allU X n = true) : ∀ {t : Nat}, (∀ i, i < t → Q i < n) → 0 ≤ sq X Q t ∧ sq X Q t ≤ 50000 * t
  | 0, _ => by simp [sq]
  | t + 1, h => by
    have ih := sq_bd hv (t := t) (fun i hi => h i (by omega))
    have hb := allU_bd hv (h t (by omega))
    simp only [sq]
    omega
/-- so many of the order are taken: the first ones that weigh enough, or all -/
structure Tk (X : Nat → Int) (n : Nat) (h : Int) (Q : Nat → Nat) (t : Nat) : Prop where
  ord : Ord (ltN X) n Q
  le : t ≤ n
  few : ∀ i, i < t → sq X Q i < h
  stop : t = n ∨ h ≤ sq X Q t
/-- the bits, and the code -/
def FewIs (X : Nat → Int) (n : Nat) (h : Int) (B : Nat) (code : Int) : Prop := ∃ Q t, Tk X n h Q t ∧ ((h ≤ sq X Q t ∧ B = bq Q t ∧ code = 0) ∨ (sq X Q t < h ∧ B = 0 ∧ code = 3))
theorem Tk.ex (X : Nat → Int) (n : Nat) (h : Int) : ∃ Q t, Tk X n h Q t := by
  obtain ⟨Q, hQ⟩ := Ord.ex (ltN_swo X) n
  have key : ∀ k, k ≤ n → (∀ i, i < k → sq X Q i < h) → ∃ t, Tk X n h Q t := by
    intro k
    induction hk : n - k generalizing k with
    | zero => intro h1 h2; exact ⟨k, hQ, h1, h2, .inl (by omega)⟩
    | succ d ih =>
      intro h1 h2
      by_cases e : h ≤ sq X Q k
      · exact ⟨k, hQ, h1, h2, .inr e⟩
      · exact ih (k + 1) (by omega) (by omega) fun i hi => by
          by_cases e2 : i = k
          · rw [e2]; omega
          · exact h2 i (by omega)
  obtain ⟨t, ht⟩ := key 0 (by omega) fun i hi => absurd hi (by omega)
  exact ⟨Q, t, ht⟩
theorem FewIs.ex (X : Nat → Int) (n : Nat) (h : Int) : ∃ B code, FewIs X n h B code := by
  obtain ⟨Q, t, ht⟩ := Tk.ex X n h
  by_cases e : h ≤ sq X Q t
  · exact ⟨_, 0, Q, t, ht, .inl ⟨e, rfl, rfl⟩⟩
  · exact ⟨_, 3, Q, t, ht, .inr ⟨by omega, rfl, rfl⟩⟩
/-- which list, or code, says no -/
def FewNo (n : Nat) (X : Nat → Int) (h code : Int) : Prop := (listU n X = false ∧ code = 1) ∨ (listU n X = true ∧ inB h 0 1000000 = false ∧ code = 2)

/-- one number more among the places at which something holds -/
theorem idxs_more1 {f : Nat → Bool} {x : Nat} (hf : f x = false) : ∀ n, x < n → ∃ s, idxs f n = idxs f x ++ s ∧ idxs (fun i => f i || decide (x = i)) n = idxs f x ++ ((x : Int) :: s) ∧ ∀ y ∈ s, (x : Int) < y
  | 0, h => absurd h (by omega)
  | n + 1, h => by
    have hlow : ∀ m, m ≤ x → idxs (fun i => f i || decide (x = i)) m = idxs f m := fun m hm => idxs_congr fun i hi => by rw [decide_eq_false (by omega), Bool.or_false]
    by_cases e : x = n
    · subst e
      refine ⟨[], ?_, ?_, fun y hy => by simp at hy⟩
      · rw [idxs_no hf, List.append_nil]
      · rw [idxs_yes (by simp), hlow x (Nat.le_refl _)]
    · obtain ⟨s, h1, h2, h3⟩ := idxs_more1 hf n (by omega)
      cases en : f n
      · refine ⟨s, ?_, ?_, h3⟩
        · rw [idxs_no en, h1]
        · rw [idxs_no (by simp [en, e]), h2]
      · refine ⟨s ++ [(n : Int)], ?_, ?_, fun y hy => ?_⟩
        · rw [idxs_yes en, h1, List.append_assoc]
        · rw [idxs_yes (by simp [en]), h2, List.append_assoc]; rfl
        · rcases List.mem_append.1 hy with k | k
          · exact h3 y k
          · simp at k; omega
theorem idxs_below {f : Nat → Bool} : ∀ n, ∀ y ∈ idxs f n, y < (n : Int)
  | 0, y, h => by simp [idxs] at h
  | n + 1, y, h => by
    cases e : f n
    · rw [idxs_no e] at h; have := idxs_below n y h; omega
    · rw [idxs_yes e] at h
      rcases List.mem_append.1 h with k | k
      · have := idxs_below n y k; omega
      · simp at k; omega
theorem idxs_or {B x n : Nat} : idxs (B ||| 2 ^ x).testBit n = idxs (fun i => B.testBit i || decide (x = i)) n := idxs_congr fun i _ => by rw [Nat.testBit_or, Nat.testBit_two_pow]

end Go.Proofs.YtlepgkmpbhlajaaDoor.rod
