/-
  What the law on beds knows of each pair of answers: the program's and the model's are equal, and what they say.
-/
import Derived.Test.YtcpaenmhnoagdacDrawF
import Derived.Test.YtcpaenmhnoagdacBestCuts
import Derived.Test.YtcpaenmhnoagdacYieldOfPlan
import Derived.Test.YtcpaenmhnoagdacCutForW
import Derived.Test.YtcpaenmhnoagdacYieldNow
import Derived.Test.YtcpaenmhnoagdacBedsV
import Derived.BigQuiet
namespace Go.Proofs.Ytcpaenmhnoagdac.rod
open Go.ChangeShapes Go.WideShapes Go.ChangeAt Go.RowKit Go.Proofs.Ytcpaenmhnoagdac.mem Go.Proofs.Ytcpaenmhnoagdac.nums
set_option linter.unusedVariables false

-- numbers that a test tells
theorem getD_lt {l : List Int} {x : Int} {j : Nat} (h : j < l.length) : (l ++ [x]).getD j 0 = l.getD j 0 := by
  simp only [List.getD, List.getElem?_append_left h]
theorem getD_eq {l : List Int} {x : Int} : (l ++ [x]).getD l.length 0 = x := by simp [List.getD]
theorem idxs_at {p : Nat → Bool} : ∀ (n j : Nat), j < (idxs p n).length → 0 ≤ (idxs p n).getD j 0 ∧ (idxs p n).getD j 0 < n
  | 0, j, h => absurd h (Nat.not_lt_zero _)
  | n + 1, j, h => by
    cases e : p n
    · rw [idxs_no e] at h ⊢
      have := idxs_at n j h
      omega
    · rw [idxs_yes e] at h ⊢
      rw [List.length_append] at h
      simp only [List.length_singleton] at h
      by_cases c : j < (idxs p n).length
      · rw [getD_lt c]
        have := idxs_at n j c
        omega
      · obtain rfl : j = (idxs p n).length := by omega
        rw [getD_eq]
        omega
theorem idxs_rise {p : Nat → Bool} : ∀ (n j : Nat), j + 1 < (idxs p n).length → (idxs p n).getD j 0 < (idxs p n).getD (j + 1) 0
  | 0, j, h => absurd h (Nat.not_lt_zero _)
  | n + 1, j, h => by
    cases e : p n
    · rw [idxs_no e] at h ⊢
      exact idxs_rise n j h
    · rw [idxs_yes e] at h ⊢
      rw [List.length_append] at h
      simp only [List.length_singleton] at h
      have c0 : j < (idxs p n).length := by omega
      rw [getD_lt c0]
      by_cases c : j + 1 < (idxs p n).length
      · rw [getD_lt c]
        exact idxs_rise n j c
      · have e2 : j + 1 = (idxs p n).length := by omega
        rw [e2, getD_eq]
        have := idxs_at n j c0
        omega
theorem idxs_has {p : Nat → Bool} {k : Nat} : ∀ n : Nat, (∃ j, j < (idxs p n).length ∧ (idxs p n).getD j 0 = (k : Int)) ↔ k < n ∧ p k = true
  | 0 => ⟨fun ⟨j, h, _⟩ => absurd h (Nat.not_lt_zero _), fun ⟨h, _⟩ => absurd h (Nat.not_lt_zero _)⟩
  | n + 1 => by
    have ih := idxs_has (p := p) (k := k) n
    cases e : p n
    · rw [idxs_no e, ih]
      constructor
      · rintro ⟨h1, h2⟩; exact ⟨by omega, h2⟩
      · rintro ⟨h1, h2⟩
        refine ⟨?_, h2⟩
        by_cases c : k = n
        · subst c; rw [e] at h2; cases h2
        · omega
    · rw [idxs_yes e]
      constructor
      · rintro ⟨j, h1, h2⟩
        rw [List.length_append] at h1
        simp only [List.length_singleton] at h1
        by_cases c : j < (idxs p n).length
        · rw [getD_lt c] at h2
          have := ih.1 ⟨j, c, h2⟩
          exact ⟨by omega, this.2⟩
        · obtain rfl : j = (idxs p n).length := by omega
          rw [getD_eq] at h2
          obtain rfl : n = k := by omega
          exact ⟨by omega, e⟩
      · rintro ⟨h1, h2⟩
        by_cases c : k = n
        · subst c
          exact ⟨(idxs p k).length, by simp, getD_eq⟩
        · obtain ⟨j, h3, h4⟩ := ih.2 ⟨by omega, h2⟩
          exact ⟨j, by rw [List.length_append]; omega, by rw [getD_lt h3]; exact h4⟩
/-- the numbers of a set tell the set -/
theorem orC_idxs {B N : Nat} (hB : B < 2 ^ N) : orC (fun j => (idxs B.testBit N).getD j 0) (idxs B.testBit N).length = B := by
  apply Nat.eq_of_testBit_eq
  intro y
  have h1 := orC_bit (C := fun j => (idxs B.testBit N).getD j 0) (y := y) (n := (idxs B.testBit N).length)
  have h2 := idxs_has (p := B.testBit) (k := y) N
  have h3 : (orC (fun j => (idxs B.testBit N).getD j 0) (idxs B.testBit N).length).testBit y = true ↔ B.testBit y = true := by
    rw [h1]
    constructor
    · rintro ⟨i, hi, e⟩
      have hb := idxs_at (p := B.testBit) N i hi
      have e' : (idxs B.testBit N).getD i 0 = (y : Int) := by
        have : ((idxs B.testBit N).getD i 0).toNat = y := e
        omega
      exact (h2.1 ⟨i, hi, e'⟩).2
    · intro h
      have hy : y < N := by
        rcases Nat.lt_or_ge y N with c | c
        · exact c
        · rw [Nat.testBit_lt_two_pow (Nat.lt_of_lt_of_le hB (Nat.pow_le_pow_right (by decide) c))] at h
          cases h
      obtain ⟨i, hi, e⟩ := h2.2 ⟨hy, h⟩
      exact ⟨i, hi, by show ((idxs B.testBit N).getD i 0).toNat = y; rw [e]; rfl⟩
  cases e1 : (orC (fun j => (idxs B.testBit N).getD j 0) (idxs B.testBit N).length).testBit y <;> cases e2 : B.testBit y
  · rfl
  · rw [h3.2 e2] at e1; cases e1
  · rw [h3.1 e1] at e2; cases e2
  · rfl
theorem risL_of {lo hi : Int} {C : Nat → Int} {n : Nat} (hb : ∀ i, i < n → lo ≤ C i ∧ C i ≤ hi) (hr : ∀ i, i + 1 < n → C i < C (i + 1)) : risL lo hi C n = true := by
  induction n with
  | zero => rfl
  | succ n ih =>
    have h1 := ih (fun i hi => hb i (by omega)) (fun i hi => hr i (by omega))
    simp only [risL, h1, Bool.true_and]
    unfold stepL
    rw [inB_yes (hb n (by omega)).1 (hb n (by omega)).2]
    by_cases h0 : n = 0
    · simp [h0]
    · have := hr (n - 1) (by omega)
      rw [show n - 1 + 1 = n by omega] at this
      simp [this]
theorem plan_idxs {B N : Nat} (h1 : 1 ≤ N) (h2 : N ≤ 12) : planB (idxs B.testBit N).length (fun j => (idxs B.testBit N).getD j 0) (N : Int) = true := by
  unfold planB
  rw [inB_yes (by omega) (by omega), Bool.true_and]
  exact risL_of (fun i hi => by have := idxs_at (p := B.testBit) N i hi; omega) (fun i hi => idxs_rise N i hi)
/-- no plan yields more than the best one -/
theorem best_ge {m : Nat} {Y : Nat → Int} {a : Int} {N x : Nat} (hN : N ≤ 12) (hx : x < 2 ^ N) : (pls m Y a x N).1 ≤ (pls m Y a (topS m Y a N (2 ^ N)) N).1 := by
  have h1 := topS_max (m := m) (Y := Y) (a := a) (N := N) (2 ^ N) x hx
  have hq := topS_lt (m := m) (Y := Y) (a := a) (N := N) (2 ^ N) (Nat.two_pow_pos N)
  have h16 : 2 ^ N ≤ 2 ^ 16 := Nat.pow_le_pow_right (by decide) (by omega)
  rcases Int.lt_or_le (pls m Y a (topS m Y a N (2 ^ N)) N).1 (pls m Y a x N).1 with c | c
  · have := (ky_iff (s := (pls m Y a x N).1) (u := (pls m Y a (topS m Y a N (2 ^ N)) N).1) (p := x) (q := topS m Y a N (2 ^ N)) (by omega) (by omega)).1 (.inl c)
    omega
  · exact c
theorem pick_yes {n : Nat} {P : Nat → Bool} : ∀ b q, pick n P b = some q → P q = true
  | 0, q, h => by simp [pick] at h
  | b + 1, q, h => by
    cases hP : P b
    · simp only [pick, hP, Bool.false_and] at h
      exact pick_yes b q (by simpa using h)
    · simp only [pick, hP, Bool.true_and] at h
      repeat' split at h
      all_goals first
        | (cases h; exact hP)
        | exact pick_yes b q h
theorem found_yes {n b : Nat} {P : Nat → Bool} (h : found n P b = true) : P (best n P b) = true := by
  unfold found at h
  unfold best
  cases e : pick n P b with
  | none => rw [e] at h; cases h
  | some q => exact pick_yes b q e
/-- the sum of what the first numbers of a list tell -/
def fsum (l : List Int) (f : Nat → Int) : Nat → Int
  | 0 => 0
  | i + 1 => fsum l f i + f (l.getD i 0).toNat
theorem fsum_snoc {l : List Int} {x : Int} {f : Nat → Int} : ∀ i, i ≤ l.length → fsum (l ++ [x]) f i = fsum l f i
  | 0, _ => rfl
  | i + 1, h => by
    show fsum (l ++ [x]) f i + f ((l ++ [x]).getD i 0).toNat = fsum l f i + f (l.getD i 0).toNat
    rw [fsum_snoc i (by omega), getD_lt (by omega)]
theorem fsum_idxs {M : Nat → Nat} {Y : Nat → Nat → Int} {G : Nat → Int} {B : Nat} : ∀ n, fsum (idxs B.testBit n) (fun k => yl (M k) (Y k) (G k)) (idxs B.testBit n).length = ysum M Y G B n
  | 0 => rfl
  | n + 1 => by
    have ih := fsum_idxs (M := M) (Y := Y) (G := G) (B := B) n
    cases e : B.testBit n
    · rw [idxs_no e, ysum_no e]
      exact ih
    · rw [idxs_yes e, ysum_yes e, List.length_append]
      show fsum _ _ ((idxs B.testBit n).length + 1) = _
      show fsum (idxs B.testBit n ++ [(n : Int)]) _ (idxs B.testBit n).length + yl (M ((idxs B.testBit n ++ [(n : Int)]).getD (idxs B.testBit n).length 0).toNat) _ _ = _
      rw [fsum_snoc _ (Nat.le_refl _), ih, getD_eq]
      rfl
theorem fsum_bd {l : List Int} {f : Nat → Int} (h : ∀ i, i < l.length → 0 ≤ f (l.getD i 0).toNat ∧ f (l.getD i 0).toNat ≤ 10000) : ∀ i, i ≤ l.length → 0 ≤ fsum l f i ∧ fsum l f i ≤ 10000 * i
  | 0, _ => by simp [fsum]
  | i + 1, hi => by
    have := fsum_bd h i (by omega)
    have := h i (by omega)
    have e : fsum l f (i + 1) = fsum l f i + f (l.getD i 0).toNat := rfl
    omega

-- the pairs of answers
set_option maxHeartbeats 1000000 in
theorem f6big_c (A : Option Addr) (n c : Nat) (w : World) (hn : n ≤ 4096) :
    Calls Try.prog 13 #[.slice A n c] w fun e w' => e = .returned (.bool false) ∧ w' = w := by
  have h1 : ¬ (4096 : Int) < (n : Int) := by omega
  go_enter Try.func13, Try.ntmps13
  go_wp2
  go_ret
  exact ⟨rfl, rfl⟩
set_option maxHeartbeats 1000000 in
theorem f6big_no (A : Option Addr) (n c : Nat) (w : World) (hn : 4096 < n) :
    Calls Try.prog 13 #[.slice A n c] w fun e w' => e = .returned (.bool true) ∧ w' = w := by
  have h1 : (4096 : Int) < (n : Int) := by omega
  go_enter Try.func13, Try.ntmps13
  go_wp2
  go_ret
  exact ⟨rfl, rfl⟩
end Go.Proofs.Ytcpaenmhnoagdac.rod
