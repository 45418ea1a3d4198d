/-
  Grades, orders and nearest rods, as plain numbers: what the law on grades looks at. No function of the program lies here.
-/
import Derived.Test.YtcpaenmhnoagdabCount
import Derived.Test.YtcpaenmhnoagdabLongS
import Derived.Test.YtcpaenmhnoagdabBetween
import Derived.Test.YtcpaenmhnoagdabMost
namespace Go.Proofs.Ytcpaenmhnoagdab.rod
open Go.Proofs.Ytcpaenmhnoagdab.mem
set_option linter.unusedVariables false
/-- the sum of the first numbers -/
def sumI (X : Nat → Int) : Nat → Int
  | 0 => 0
  | n + 1 => sumI X n + X n
theorem gr2 (Y : Nat → Int) (L : Int) : gr Y L 2 = (if Y 0 ≤ L then 1 else 0) + (if Y 1 ≤ L then 1 else 0) := by
  show (0 + (if Y 0 ≤ L then 1 else 0)) + (if Y 1 ≤ L then 1 else 0) = _
  omega
theorem cnt_sum (X Y : Nat → Int) : ∀ n : Nat, cnt X Y 2 0 n + cnt X Y 2 1 n + cnt X Y 2 2 n = n
  | 0 => rfl
  | n + 1 => by
    have ih := cnt_sum X Y n
    have hb := gr_bd Y (X (n * 3)) 2
    have e : ∀ j : Nat, cnt X Y 2 j (n + 1) = cnt X Y 2 j n + if gr Y (X (n * 3)) 2 = (j : Int) then 1 else 0 := fun j => rfl
    rw [e, e, e]
    have h3 : gr Y (X (n * 3)) 2 = 0 ∨ gr Y (X (n * 3)) 2 = 1 ∨ gr Y (X (n * 3)) 2 = 2 := by omega
    rcases h3 with h | h | h <;> rw [h] <;> simp <;> omega
theorem cnts_sum (X Y : Nat → Int) (n : Nat) : sumI (fun j => (cnts X Y 2 n).getD j 0) 3 = n := by
  have h := cnt_sum X Y n
  have e : sumI (fun j => (cnts X Y 2 n).getD j 0) 3 = 0 + (cnts X Y 2 n).getD 0 0 + (cnts X Y 2 n).getD 1 0 + (cnts X Y 2 n).getD 2 0 := rfl
  rw [e, cnts_at (by omega), cnts_at (by omega), cnts_at (by omega)]
  omega
theorem getD_lt {l : List Int} {x : Int} {j : Nat} (h : j < l.length) : (l ++ [x]).getD j 0 = l.getD j 0 := by
  simp only [List.getD, List.getElem?_append_left h]
theorem getD_eq {l : List Int} {x : Int} : (l ++ [x]).getD l.length 0 = x := by simp [List.getD]
theorem idxs_at {p : Nat → Bool} : ∀ (n j : Nat), j < (idxs p n).length → 0 ≤ (idxs p n).getD j 0 ∧ (idxs p n).getD j 0 < n
  | 0, j, h => absurd h (Nat.not_lt_zero _)
  | n + 1, j, h => by
    cases e : p n
    · rw [idxs_no e] at h ⊢
      have := idxs_at n j h
      omega
    · rw [idxs_yes e] at h ⊢
      rw [List.length_append] at h
      simp only [List.length_singleton] at h
      by_cases c : j < (idxs p n).length
      · rw [getD_lt c]
        have := idxs_at n j c
        omega
      · obtain rfl : j = (idxs p n).length := by omega
        rw [getD_eq]
        omega
theorem idxs_rise {p : Nat → Bool} : ∀ (n j : Nat), j + 1 < (idxs p n).length → (idxs p n).getD j 0 < (idxs p n).getD (j + 1) 0
  | 0, j, h => absurd h (Nat.not_lt_zero _)
  | n + 1, j, h => by
    cases e : p n
    · rw [idxs_no e] at h ⊢
      exact idxs_rise n j h
    · rw [idxs_yes e] at h ⊢
      rw [List.length_append] at h
      simp only [List.length_singleton] at h
      have c0 : j < (idxs p n).length := by omega
      rw [getD_lt c0]
      by_cases c : j + 1 < (idxs p n).length
      · rw [getD_lt c]
        exact idxs_rise n j c
      · have e2 : j + 1 = (idxs p n).length := by omega
        rw [e2, getD_eq]
        have := idxs_at n j c0
        omega
theorem idxs_has {p : Nat → Bool} {k : Nat} : ∀ n : Nat, (∃ j, j < (idxs p n).length ∧ (idxs p n).getD j 0 = (k : Int)) ↔ k < n ∧ p k = true
  | 0 => ⟨fun ⟨j, h, _⟩ => absurd h (Nat.not_lt_zero _), fun ⟨h, _⟩ => absurd h (Nat.not_lt_zero _)⟩
  | n + 1 => by
    have ih := idxs_has (p := p) (k := k) n
    cases e : p n
    · rw [idxs_no e, ih]
      constructor
      · rintro ⟨h1, h2⟩; exact ⟨by omega, h2⟩
      · rintro ⟨h1, h2⟩
        refine ⟨?_, h2⟩
        by_cases c : k = n
        · subst c; rw [e] at h2; cases h2
        · omega
    · rw [idxs_yes e]
      constructor
      · rintro ⟨j, h1, h2⟩
        rw [List.length_append] at h1
        simp only [List.length_singleton] at h1
        by_cases c : j < (idxs p n).length
        · rw [getD_lt c] at h2
          have := ih.1 ⟨j, c, h2⟩
          exact ⟨by omega, this.2⟩
        · obtain rfl : j = (idxs p n).length := by omega
          rw [getD_eq] at h2
          obtain rfl : n = k := by omega
          exact ⟨by omega, e⟩
      · rintro ⟨h1, h2⟩
        by_cases c : k = n
        · subst c
          exact ⟨(idxs p k).length, by simp, getD_eq⟩
        · obtain ⟨j, h3, h4⟩ := ih.2 ⟨by omega, h2⟩
          exact ⟨j, by rw [List.length_append]; omega, by rw [getD_lt h3]; exact h4⟩
theorem so_bfr {L : Nat → Int} {n i j : Nat} (hji : j < i) (hi : i < n) : bfr L ((so L n).getD j 0) ((so L n).getD i 0) = true := by
  have hl := so_len (L := L) n
  have h1 : j < (so L n).length := by omega
  have h2 : i < (so L n).length := by omega
  rw [List.getD, List.getElem?_eq_getElem h1, List.getD, List.getElem?_eq_getElem h2]
  exact List.pairwise_iff_getElem.1 (so_sorted n) j i h1 h2 hji
theorem so_ne {L : Nat → Int} {n i j : Nat} (hji : j < i) (hi : i < n) : (so L n).getD j 0 ≠ (so L n).getD i 0 := fun e => by
  have := so_bfr (L := L) hji hi
  rw [e, bfr_irrefl] at this
  cases this
theorem bfr_of {L : Nat → Int} {x y : Nat} (h : bfr L x y = true) : L y < L x ∨ L x = L y ∧ x < y := by
  unfold bfr at h
  simpa using h
theorem stp_ok {X : Nat → Int} {i k n : Nat} {p : Nat × Nat} (hik : i < k) (hk : k < n) (h1 : p.1 < p.2) (h2 : p.2 < n) :
    (stp X i k p).1 < (stp X i k p).2 ∧ (stp X i k p).2 < n ∧ ap X (stp X i k p).1 (stp X i k p).2 ≤ ap X p.1 p.2 ∧ ap X (stp X i k p).1 (stp X i k p).2 ≤ ap X i k := by
  unfold stp
  split
  · rename_i c
    exact ⟨hik, hk, Int.le_of_lt c, Int.le_refl _⟩
  · rename_i c
    exact ⟨h1, h2, Int.le_refl _, Int.not_lt.1 c⟩
theorem inn_ok {X : Nat → Int} {i n : Nat} : ∀ (m k : Nat) (p : Nat × Nat), i < k → k + m ≤ n → p.1 < p.2 → p.2 < n →
    (inn X i m k p).1 < (inn X i m k p).2 ∧ (inn X i m k p).2 < n ∧ ap X (inn X i m k p).1 (inn X i m k p).2 ≤ ap X p.1 p.2 ∧ ∀ j, k ≤ j → j < k + m → ap X (inn X i m k p).1 (inn X i m k p).2 ≤ ap X i j
  | 0, k, p, hik, hk, h1, h2 => ⟨h1, h2, Int.le_refl _, fun j a b => absurd b (by omega)⟩
  | m + 1, k, p, hik, hk, h1, h2 => by
    have s := stp_ok (X := X) hik (show k < n by omega) h1 h2
    have ih := inn_ok (X := X) (i := i) (n := n) m (k + 1) (stp X i k p) (by omega) (by omega) s.1 s.2.1
    have e : inn X i (m + 1) k p = inn X i m (k + 1) (stp X i k p) := rfl
    rw [e]
    refine ⟨ih.1, ih.2.1, Int.le_trans ih.2.2.1 s.2.2.1, fun j a b => ?_⟩
    by_cases c : j = k
    · subst c; exact Int.le_trans ih.2.2.1 s.2.2.2
    · exact ih.2.2.2 j (by omega) (by omega)
theorem outr_ok {X : Nat → Int} {n : Nat} : ∀ (m i : Nat) (p : Nat × Nat), i + m ≤ n → p.1 < p.2 → p.2 < n →
    (outr X n m i p).1 < (outr X n m i p).2 ∧ (outr X n m i p).2 < n ∧ ap X (outr X n m i p).1 (outr X n m i p).2 ≤ ap X p.1 p.2 ∧ ∀ a b, i ≤ a → a < i + m → a < b → b < n → ap X (outr X n m i p).1 (outr X n m i p).2 ≤ ap X a b
  | 0, i, p, hi, h1, h2 => ⟨h1, h2, Int.le_refl _, fun a b h3 h4 => absurd h4 (by omega)⟩
  | m + 1, i, p, hi, h1, h2 => by
    have s := inn_ok (X := X) (i := i) (n := n) (n - (i + 1)) (i + 1) p (by omega) (by omega) h1 h2
    have ih := outr_ok (X := X) (n := n) m (i + 1) (inn X i (n - (i + 1)) (i + 1) p) (by omega) s.1 s.2.1
    have e : outr X n (m + 1) i p = outr X n m (i + 1) (inn X i (n - (i + 1)) (i + 1) p) := rfl
    rw [e]
    refine ⟨ih.1, ih.2.1, Int.le_trans ih.2.2.1 s.2.2.1, fun a b h3 h4 h5 h6 => ?_⟩
    by_cases c : a = i
    · subst c; exact Int.le_trans ih.2.2.1 (s.2.2.2 b (by omega) (by omega))
    · exact ih.2.2.2 a b (by omega) (by omega) h5 h6
theorem most_ok {X : Nat → Int} {n : Nat} (h2 : 2 ≤ n) : (most X n).1 < (most X n).2 ∧ (most X n).2 < n ∧ ∀ a b, a < b → b < n → ap X (most X n).1 (most X n).2 ≤ ap X a b := by
  have h := outr_ok (X := X) (n := n) n 0 (0, 1) (by omega) (Nat.lt_succ_self _) (by omega)
  exact ⟨h.1, h.2.1, fun a b c d => h.2.2.2 a b (by omega) (by omega) c d⟩
end Go.Proofs.Ytcpaenmhnoagdab.rod
