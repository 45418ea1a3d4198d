/-
  The steady need: the mathematics; contracts of the model's search and of the program's.
-/
import Derived.Test.YtcpaenmhnoagdacYsum
import Derived.Test.YtcpaenmhnoagdacAfterI
namespace Go.Proofs.Ytcpaenmhnoagdac.rod
open Go.ChangeShapes Go.WideShapes Go.ChangeAt Go.RowKit Go.Proofs.Ytcpaenmhnoagdac.mem Go.Proofs.Ytcpaenmhnoagdac.nums
set_option linter.unusedVariables false

/-- the greatest of the first n numbers, and 0 -/
def maxB (f : Nat → Int) : Nat → Int
  | 0 => 0
  | n + 1 => if maxB f n ≤ f n then f n else maxB f n
theorem maxB_0 (f : Nat → Int) : ∀ n, 0 ≤ maxB f n
  | 0 => Int.le_refl _
  | n + 1 => by have := maxB_0 f n; simp only [maxB]; split <;> omega
theorem maxB_at (f : Nat → Int) {n i : Nat} (h : i < n) : f i ≤ maxB f n := by
  induction n with
  | zero => omega
  | succ n ih =>
    simp only [maxB]
    by_cases e : i = n
    · subst e; split <;> omega
    · have := ih (by omega); split <;> omega
theorem maxB_some (f : Nat → Int) : ∀ n, maxB f n = 0 ∨ ∃ i, i < n ∧ maxB f n = f i
  | 0 => .inl rfl
  | n + 1 => by
    simp only [maxB]
    split
    · exact .inr ⟨n, by omega, rfl⟩
    · rcases maxB_some f n with h | ⟨i, hi, h⟩
      · exact .inl h
      · exact .inr ⟨i, by omega, h⟩
theorem maxB_le {f : Nat → Int} {x : Int} {n : Nat} (h0 : 0 ≤ x) (h : ∀ i, i < n → f i ≤ x) : maxB f n ≤ x := by
  rcases maxB_some f n with e | ⟨i, hi, e⟩
  · omega
  · rw [e]; exact h i hi

section
variable (n : Nat) (M : Nat → Nat) (Y : Nat → Nat → Int)
/-- the ages a year after the beds of bits were cut -/
def aft (G : Nat → Int) (b : Nat) : Nat → Int := later M G fun j => b.testBit j
/-- the greatest need that can be met in each of some years -/
def stead : Nat → (Nat → Int) → Int
  | 0, _ => 0
  | y + 1, G => maxB (fun b => if y = 0 then ysum M Y G b n else min (ysum M Y G b n) (stead y (aft M G b))) (2 ^ n)
/-- what one cut is worth -/
def worth (y : Nat) (G : Nat → Int) (b : Nat) : Int := if y = 0 then ysum M Y G b n else min (ysum M Y G b n) (stead n M Y y (aft M G b))
theorem stead_succ (y : Nat) (G : Nat → Int) : stead n M Y (y + 1) G = maxB (worth n M Y y G) (2 ^ n) := rfl
/-- is a need met in each of some years? -/
def meets : Nat → (Nat → Int) → Int → Bool
  | 0, _, _ => true
  | y + 1, G, d => decide (∃ b, b < 2 ^ n ∧ d ≤ ysum M Y G b n ∧ meets y (aft M G b) d = true)
end
theorem meets_iff {n : Nat} {M : Nat → Nat} {Y : Nat → Nat → Int} {d : Int} (h : 1 ≤ d) : ∀ (y : Nat) (G : Nat → Int), meets n M Y (y + 1) G d = true ↔ d ≤ stead n M Y (y + 1) G
  | 0, G => by
    rw [stead_succ]
    simp only [meets, decide_eq_true_eq]
    constructor
    · rintro ⟨b, hb, h1, _⟩
      exact Int.le_trans (by unfold worth; rw [if_pos rfl]; exact h1) (maxB_at (worth n M Y 0 G) hb)
    · intro h1
      rcases maxB_some (worth n M Y 0 G) (2 ^ n) with e | ⟨b, hb, e⟩
      · omega
      · refine ⟨b, hb, ?_, trivial⟩
        rw [e] at h1
        unfold worth at h1
        rwa [if_pos rfl] at h1
  | y + 1, G => by
    rw [stead_succ]
    unfold meets
    rw [decide_eq_true_eq]
    constructor
    · rintro ⟨b, hb, h1, h2⟩
      have h3 := (meets_iff h y (aft M G b)).1 h2
      refine Int.le_trans ?_ (maxB_at (worth n M Y (y + 1) G) hb)
      unfold worth
      rw [if_neg (by omega)]
      omega
    · intro h1
      rcases maxB_some (worth n M Y (y + 1) G) (2 ^ n) with e | ⟨b, hb, e⟩
      · omega
      · rw [e] at h1
        unfold worth at h1
        rw [if_neg (by omega)] at h1
        exact ⟨b, hb, by omega, (meets_iff h y (aft M G b)).2 (by omega)⟩
theorem aft_valid {n : Nat} {M : Nat → Nat} {Y : Nat → Nat → Int} {G : Nat → Int} (h : bedsB n M Y G = true) (b : Nat) : bedsB n M Y (aft M G b) = true := by
  obtain ⟨h8, hall⟩ := bedsB_of h
  unfold bedsB
  rw [decide_eq_true h8, Bool.true_and]
  have key : ∀ k, k ≤ n → allBd M Y (aft M G b) k = true := by
    intro k
    induction k with
    | zero => intro _; rfl
    | succ k ih =>
      intro hk
      have h1 := hall k (by omega)
      obtain ⟨m1, m2, _⟩ := bedB_of h1
      simp only [allBd, ih (by omega), Bool.true_and]
      unfold bedB at h1 ⊢
      simp only [Bool.and_eq_true] at h1 ⊢
      refine ⟨h1.1, h1.2.1, inB_yes ?_ ?_⟩
      · unfold aft later; split <;> (try split) <;> omega
      · unfold aft later; split <;> (try split) <;> omega
  exact key n (Nat.le_refl _)
theorem stead_bd {n : Nat} {M : Nat → Nat} {Y : Nat → Nat → Int} : ∀ (y : Nat) (G : Nat → Int), bedsB n M Y G = true → 0 ≤ stead n M Y y G ∧ stead n M Y y G ≤ 10000 * n
  | 0, G, _ => by simp only [stead]; omega
  | y + 1, G, h => by
    rw [stead_succ]
    refine ⟨maxB_0 _ _, maxB_le (by omega) fun b hb => ?_⟩
    have h1 := ysum_bd (B := b) (bedsB_of h).2 n (Nat.le_refl _)
    unfold worth
    split <;> omega
theorem Beds.congrG {w : World} {A : Option Addr} {n : Nat} {M : Nat → Nat} {Y : Nat → Nat → Int} {G H : Nat → Int} (h : Beds w A n M Y G) (e : ∀ j, j < n → G j = H j) : Beds w A n M Y H := fun hn => by
  obtain ⟨b, o, e1, h1, h2⟩ := h hn
  exact ⟨b, o, e1, h1, fun j hj => by have := h2 j hj; rw [e j hj] at this; exact this⟩
theorem later_list {n : Nat} {M : Nat → Nat} {G : Nat → Int} {b : Nat} {j : Nat} (hj : j < n) : later M G (fun j : Nat => hasC (fun i => (idxs b.testBit n).getD i 0) j (idxs b.testBit n).length) j = aft M G b j := by
  have key : ∀ m, hasC (fun i => (idxs b.testBit m).getD i 0) j (idxs b.testBit m).length = (decide (j < m) && b.testBit j) := by
    intro m
    induction m with
    | zero => rfl
    | succ m ih =>
      have hcongr : ∀ (l : List Int) (x : Int) (k : Nat), k ≤ l.length → hasC (fun i => (l ++ [x]).getD i 0) j k = hasC (fun i => l.getD i 0) j k := by
        intro l x k
        induction k with
        | zero => intro _; rfl
        | succ k ih2 =>
          intro hk
          simp only [hasC, ih2 (by omega)]
          have : (l ++ [x]).getD k 0 = l.getD k 0 := by simp [List.getD, List.getElem?_append_left (show k < l.length by omega)]
          simp only [this]
      cases hb : b.testBit m
      · rw [idxs_no hb, ih]
        by_cases e : j = m
        · subst e; simp [hb]
        · congr 1; simp; omega
      · rw [idxs_yes hb, List.length_append]
        show hasC _ j ((idxs b.testBit m).length + 1) = _
        simp only [hasC]
        rw [hcongr _ _ _ (Nat.le_refl _), ih]
        have : (idxs b.testBit m ++ [(m : Int)]).getD (idxs b.testBit m).length 0 = (m : Int) := by simp [List.getD]
        simp only [this]
        by_cases e : j = m
        · subst e; simp [hb]
        · have e2 : decide ((m : Int) = j) = false := by simp; omega
          rw [e2, Bool.or_false]
          congr 1; simp; omega
  have h := key n
  rw [decide_eq_true hj, Bool.true_and] at h
  show (if hasC (fun i => (idxs b.testBit n).getD i 0) j (idxs b.testBit n).length = true then (1 : Int) else _) = (if b.testBit j = true then (1 : Int) else _)
  rw [h]

end Go.Proofs.Ytcpaenmhnoagdac.rod
