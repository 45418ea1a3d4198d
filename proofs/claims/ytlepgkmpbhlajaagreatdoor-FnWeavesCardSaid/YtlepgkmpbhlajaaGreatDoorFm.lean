/-
  What the law on loose stakes tells: a stake is loose just if it is alike in all rounds; lists of numbers rise. No function of the program lies here.
-/
import Derived.Test.YtlepgkmpbhlajaaGreatDoorWq
import Derived.Test.YtlepgkmpbhlajaaGreatDoorCq
namespace Go.Proofs.YtlepgkmpbhlajaaGreatDoor.wk
open Go.Proofs.YtlepgkmpbhlajaaGreatDoor.mem Go.Proofs.YtlepgkmpbhlajaaGreatDoor.rod Go.Proofs.YtlepgkmpbhlajaaGreatDoor.wv
set_option linter.unusedVariables false

theorem getD_lt' {l : List Int} {x : Int} {j : Nat} (h : j < l.length) : (l ++ [x]).getD j 0 = l.getD j 0 := by
  simp only [List.getD, List.getElem?_append_left h]
theorem getD_eq' {l : List Int} {x : Int} : (l ++ [x]).getD l.length 0 = x := by simp [List.getD]
/-- what stands in the list of the numbers with a mark -/
theorem idxs_in {p : Nat → Bool} : ∀ (n j : Nat), j < (idxs p n).length → ∃ k : Nat, (idxs p n).getD j 0 = (k : Int) ∧ k < n ∧ p k = true
  | 0, j, h => absurd h (Nat.not_lt_zero _)
  | n + 1, j, h => by
    cases e : p n
    · rw [idxs_no e] at h ⊢
      obtain ⟨k, h1, h2, h3⟩ := idxs_in n j h
      exact ⟨k, h1, by omega, h3⟩
    · rw [idxs_yes e] at h ⊢
      rw [List.length_append] at h
      simp only [List.length_singleton] at h
      by_cases c : j < (idxs p n).length
      · rw [getD_lt' c]
        obtain ⟨k, h1, h2, h3⟩ := idxs_in n j c
        exact ⟨k, h1, by omega, h3⟩
      · obtain rfl : j = (idxs p n).length := by omega
        rw [getD_eq']
        exact ⟨n, rfl, by omega, e⟩
theorem idxs_up {p : Nat → Bool} : ∀ (n j : Nat), j + 1 < (idxs p n).length → (idxs p n).getD j 0 < (idxs p n).getD (j + 1) 0
  | 0, j, h => absurd h (Nat.not_lt_zero _)
  | n + 1, j, h => by
    cases e : p n
    · rw [idxs_no e] at h ⊢
      exact idxs_up n j h
    · rw [idxs_yes e] at h ⊢
      rw [List.length_append] at h
      simp only [List.length_singleton] at h
      by_cases c : j + 1 < (idxs p n).length
      · rw [getD_lt' c, getD_lt' (by omega)]
        exact idxs_up n j c
      · have hj : j + 1 = (idxs p n).length := by omega
        rw [getD_lt' (by omega), hj, getD_eq']
        obtain ⟨k, h1, h2, _⟩ := idxs_in (p := p) n j (by omega)
        omega
theorem idxs_here {p : Nat → Bool} : ∀ (n k : Nat), k < n → p k = true → ∃ j, j < (idxs p n).length ∧ (idxs p n).getD j 0 = (k : Int)
  | 0, k, h, _ => absurd h (Nat.not_lt_zero _)
  | n + 1, k, h, hp => by
    by_cases c : k = n
    · subst c
      rw [idxs_yes hp]
      exact ⟨(idxs p k).length, by simp, getD_eq'⟩
    · obtain ⟨j, h1, h2⟩ := idxs_here n k (by omega) hp
      cases e : p n
      · rw [idxs_no e]; exact ⟨j, h1, h2⟩
      · rw [idxs_yes e]; exact ⟨j, by simp; omega, by rw [getD_lt' h1]; exact h2⟩
theorem idxs_has {p : Nat → Bool} {n k : Nat} (hk : k < n) : p k = true ↔ ∃ j, j < (idxs p n).length ∧ (idxs p n).getD j 0 = (k : Int) := by
  constructor
  · exact idxs_here n k hk
  · rintro ⟨j, h1, h2⟩
    obtain ⟨q, h3, h4, h5⟩ := idxs_in n j h1
    have : q = k := by omega
    rw [← this]; exact h5

/-! ### a stake in the rounds -/
theorem side_mod {f : Nat → Int} {n s : Nat} (hn : 0 < n) (i k : Nat) : side f n s i k = side f n s (i % rnd n s) k := by
  obtain ⟨c, hc⟩ := Nat.dvd_of_mod_eq_zero (rnd_zero s hn)
  have h : i * s + k = n * (c * (i / rnd n s)) + ((i % rnd n s) * s + k) := by
    conv => lhs; rw [← Nat.div_add_mod i (rnd n s)]
    rw [Nat.add_mul, Nat.add_assoc]
    congr 1
    calc rnd n s * (i / rnd n s) * s = rnd n s * s * (i / rnd n s) := by rw [Nat.mul_assoc, Nat.mul_comm (i / rnd n s) s, ← Nat.mul_assoc]
      _ = n * c * (i / rnd n s) := by rw [hc]
      _ = n * (c * (i / rnd n s)) := Nat.mul_assoc _ _ _
  unfold side
  rw [h, Nat.mul_add_mod]
/-- alike in the rounds below r -/
def sameTo (f : Nat → Int) (n s k : Nat) : Nat → Bool
  | 0 => true
  | r + 1 => sameTo f n s k r && decide (side f n s r k = side f n s 0 k)
theorem sameTo_iff (f : Nat → Int) (n s k : Nat) : ∀ r, sameTo f n s k r = true ↔ ∀ i, i < r → side f n s i k = side f n s 0 k
  | 0 => ⟨fun _ i h => absurd h (by omega), fun _ => rfl⟩
  | r + 1 => by
    simp only [sameTo, Bool.and_eq_true, sameTo_iff f n s k r, decide_eq_true_eq]
    constructor
    · rintro ⟨h1, h2⟩ i hi
      by_cases e : i = r
      · rw [e]; exact h2
      · exact h1 i (by omega)
    · exact fun h => ⟨fun i hi => h i (by omega), h r (by omega)⟩
theorem sameTo_1 (f : Nat → Int) (n s k : Nat) : sameTo f n s k 1 = true := (sameTo_iff f n s k 1).2 fun i hi => by
  obtain rfl : i = 0 := by omega
  rfl
theorem sameTo_all {f : Nat → Int} {n s : Nat} (hn : 0 < n) (k : Nat) : sameTo f n s k n = looseB f n s k := by
  have hR := rnd_pos s hn
  have hR2 := rnd_le n s
  unfold looseB
  by_cases h : oneK (stk f n s k) (rnd n s)
  · rw [decide_eq_true h]
    refine (sameTo_iff f n s k n).2 fun i _ => ?_
    rw [side_mod hn i k]
    exact h _ (Nat.mod_lt _ (by omega))
  · rw [decide_eq_false h]
    cases e : sameTo f n s k n
    · rfl
    · exact absurd (fun i hi => (sameTo_iff f n s k n).1 e i (by omega)) h
theorem stackTo_ge (f : Nat → Int) (n s : Nat) : ∀ m k, k < m → frun (stk f n s k) (rnd n s) ≤ stackTo f n s m
  | 0, k, h => absurd h (Nat.not_lt_zero _)
  | m + 1, k, h => by
    rw [stackTo_step]
    by_cases e : k = m
    · subst e; omega
    · have := stackTo_ge f n s m k (by omega); omega
theorem stackTo_1 {f : Nat → Int} {n s : Nat} (hn : 0 < n) (hs : 0 < s) (h : loose f n s = []) : 1 ≤ stackTo f n s s := by
  have h1 := stackTo_ge f n s s 0 hs
  have h2 : 0 < frun (stk f n s 0) (rnd n s) := (frun_pos (rnd_pos s hn)).2 fun h1 => by
    have : (0 : Nat) ∈ loose f n s := List.mem_filter.2 ⟨by simpa using hs, decide_eq_true h1⟩
    rw [h] at this
    cases this
  omega
end Go.Proofs.YtlepgkmpbhlajaaGreatDoor.wk
