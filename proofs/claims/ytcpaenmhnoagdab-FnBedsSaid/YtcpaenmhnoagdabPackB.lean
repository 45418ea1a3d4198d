/-
  What the law on beds knows of each pair of answers: the program's and the model's are equal, and what they say.
-/
import Derived.Test.YtcpaenmhnoagdabDrawF
import Derived.Test.YtcpaenmhnoagdabBestCuts
import Derived.Test.YtcpaenmhnoagdabYieldOfPlan
import Derived.Test.YtcpaenmhnoagdabCutForW
import Derived.Test.YtcpaenmhnoagdabYieldNow
import Derived.Test.YtcpaenmhnoagdabBedsV
import Derived.BigQuiet
namespace Go.Proofs.Ytcpaenmhnoagdab.rod
open Go.ChangeShapes Go.WideShapes Go.ChangeAt Go.RowKit Go.Proofs.Ytcpaenmhnoagdab.mem Go.Proofs.Ytcpaenmhnoagdab.nums
set_option linter.unusedVariables false

-- numbers that a test tells
theorem getD_lt {l : List Int} {x : Int} {j : Nat} (h : j < l.length) : (l ++ [x]).getD j 0 = l.getD j 0 := by
  simp only [List.getD, List.getElem?_append_left h]
theorem getD_eq {l : List Int} {x : Int} : (l ++ [x]).getD l.length 0 = x := by simp [List.getD]
theorem idxs_at {p : Nat → Bool} : ∀ (n j : Nat), j < (idxs p n).length → 0 ≤ (idxs p n).getD j 0 ∧ (idxs p n).getD j 0 < n
  | 0, j, h => absurd h (Nat.not_lt_zero _)
  | n + 1, j, h => by
    cases e : p n
    · rw [idxs_no e] at h ⊢
      have := idxs_at n j h
      omega
    · rw [idxs_yes e] at h ⊢
      rw [List.length_append] at h
      simp only [List.length_singleton] at h
      by_cases c : j < (idxs p n).length
      · rw [getD_lt c]
        have := idxs_at n j c
        omega
      · obtain rfl : j = (idxs p n).length := by omega
        rw [getD_eq]
        omega
theorem idxs_rise {p : Nat → Bool} : ∀ (n j : Nat), j + 1 < (idxs p n).length → (idxs p n).getD j 0 < (idxs p n).getD (j + 1) 0
  | 0, j, h => absurd h (Nat.not_lt_zero _)
  | n + 1, j, h => by
    cases e : p n
    · rw [idxs_no e] at h ⊢
      exact idxs_rise n j h
    · rw [idxs_yes e] at h ⊢
      rw [List.length_append] at h
      simp only [List.length_singleton] at h
      have c0 : j < (idxs p n).length := by omega
      rw [getD_lt c0]
      by_cases c : j + 1 < (idxs p n).length
      · rw [getD_lt c]
        exact idxs_rise n j c
      · have e2 : j + 1 = (idxs p n).length := by omega
        rw [e2, getD_eq]
        have := idxs_at n j c0
        omega
theorem idxs_has {p : Nat → Bool} {k : Nat} : ∀ n : Nat, (∃ j, j < (idxs p n).length ∧ (idxs p n).getD j 0 = (k : Int)) ↔ k < n ∧ p k = true
  | 0 => ⟨fun ⟨j, h, _⟩ => absurd h (Nat.not_lt_zero _), fun ⟨h, _⟩ => absurd h (Nat.not_lt_zero _)⟩
  | n + 1 => by
    have ih := idxs_has (p := p) (k := k) n
    cases e : p n
    · rw [idxs_no e, ih]
      constructor
      · rintro ⟨h1, h2⟩; exact ⟨by omega, h2⟩
      · rintro ⟨h1, h2⟩
        refine ⟨?_, h2⟩
        by_cases c : k = n
        · subst c; rw [e] at h2; cases h2
        · omega
    · rw [idxs_yes e]
      constructor
      · rintro ⟨j, h1, h2⟩
        rw [List.length_append] at h1
        simp only [List.length_singleton] at h1
        by_cases c : j < (idxs p n).length
        · rw [getD_lt c] at h2
          have := ih.1 ⟨j, c, h2⟩
          exact ⟨by omega, this.2⟩
        · obtain rfl : j = (idxs p n).length := by omega
          rw [getD_eq] at h2
          obtain rfl : n = k := by omega
          exact ⟨by omega, e⟩
      · rintro ⟨h1, h2⟩
        by_cases c : k = n
        · subst c
          exact ⟨(idxs p k).length, by simp, getD_eq⟩
        · obtain ⟨j, h3, h4⟩ := ih.2 ⟨by omega, h2⟩
          exact ⟨j, by rw [List.length_append]; omega, by rw [getD_lt h3]; exact h4⟩
/-- the numbers of a set tell the set -/
theorem orC_idxs {B N : Nat} (hB : B < 2 ^ N) : orC (fun j => (idxs B.testBit N).getD j 0) (idxs B.testBit N).length = B := by
  apply Nat.eq_of_testBit_eq
  intro y
  have h1 := orC_bit (C := fun j => (idxs B.testBit N).getD j 0) (y := y) (n := (idxs B.testBit N).length)
  have h2 := idxs_has (p := B.testBit) (k := y) N
  have h3 : (orC (fun j => (idxs B.testBit N).getD j 0) (idxs B.testBit N).length).testBit y = true ↔ B.testBit y = true := by
    rw [h1]
    constructor
    · rintro ⟨i, hi, e⟩
      have hb := idxs_at (p := B.testBit) N i hi
      have e' : (idxs B.testBit N).getD i 0 = (y : Int) := by
        have : ((idxs B.testBit N).getD i 0).toNat = y := e
        omega
      exact (h2.1 ⟨i, hi, e'⟩).2
    · intro h
      have hy : y < N := by
        rcases Nat.lt_or_ge y N with c | c
        · exact c
        · rw [Nat.testBit_lt_two_pow (Nat.lt_of_lt_of_le hB (Nat.pow_le_pow_right (by decide) c))] at h
          cases h
      obtain ⟨i, hi, e⟩ := h2.2 ⟨hy, h⟩
      exact ⟨i, hi, by show ((idxs B.testBit N).getD i 0).toNat = y; rw [e]; rfl⟩
  cases e1 : (orC (fun j => (idxs B.testBit N).getD j 0) (idxs B.testBit N).length).testBit y <;> cases e2 : B.testBit y
  · rfl
  · rw [h3.2 e2] at e1; cases e1
  · rw [h3.1 e1] at e2; cases e2
  · rfl
theorem risL_of {lo hi : Int} {C : Nat → Int} {n : Nat} (hb : ∀ i, i < n → lo ≤ C i ∧ C i ≤ hi) (hr : ∀ i, i + 1 < n → C i < C (i + 1)) : risL lo hi C n = true := by
  induction n with
  | zero => rfl
  | succ n ih =>
    have h1 := ih (fun i hi => hb i (by omega)) (fun i hi => hr i (by omega))
    simp only [risL, h1, Bool.true_and]
    unfold stepL
    rw [inB_yes (hb n (by omega)).1 (hb n (by omega)).2]
    by_cases h0 : n = 0
    · simp [h0]
    · have := hr (n - 1) (by omega)
      rw [show n - 1 + 1 = n by omega] at this
      simp [this]
theorem plan_idxs {B N : Nat} (h1 : 1 ≤ N) (h2 : N ≤ 12) : planB (idxs B.testBit N).length (fun j => (idxs B.testBit N).getD j 0) (N : Int) = true := by
  unfold planB
  rw [inB_yes (by omega) (by omega), Bool.true_and]
  exact risL_of (fun i hi => by have := idxs_at (p := B.testBit) N i hi; omega) (fun i hi => idxs_rise N i hi)
/-- no plan yields more than the best one -/
theorem best_ge {m : Nat} {Y : Nat → Int} {a : Int} {N x : Nat} (hN : N ≤ 12) (hx : x < 2 ^ N) : (pls m Y a x N).1 ≤ (pls m Y a (topS m Y a N (2 ^ N)) N).1 := by
  have h1 := topS_max (m := m) (Y := Y) (a := a) (N := N) (2 ^ N) x hx
  have hq := topS_lt (m := m) (Y := Y) (a := a) (N := N) (2 ^ N) (Nat.two_pow_pos N)
  have h16 : 2 ^ N ≤ 2 ^ 16 := Nat.pow_le_pow_right (by decide) (by omega)
  rcases Int.lt_or_le (pls m Y a (topS m Y a N (2 ^ N)) N).1 (pls m Y a x N).1 with c | c
  · have := (ky_iff (s := (pls m Y a x N).1) (u := (pls m Y a (topS m Y a N (2 ^ N)) N).1) (p := x) (q := topS m Y a N (2 ^ N)) (by omega) (by omega)).1 (.inl c)
    omega
  · exact c
theorem pick_yes {n : Nat} {P : Nat → Bool} : ∀ b q, pick n P b = some q → P q = true
  | 0, q, h => by simp [pick] at h
  | b + 1, q, h => by
    cases hP : P b
    · simp only [pick, hP, Bool.false_and] at h
      exact pick_yes b q (by simpa using h)
    · simp only [pick, hP, Bool.true_and] at h
      repeat' split at h
      all_goals first
        | (cases h; exact hP)
        | exact pick_yes b q h
theorem found_yes {n b : Nat} {P : Nat → Bool} (h : found n P b = true) : P (best n P b) = true := by
  unfold found at h
  unfold best
  cases e : pick n P b with
  | none => rw [e] at h; cases h
  | some q => exact pick_yes b q e
/-- the sum of what the first numbers of a list tell -/
def fsum (l : List Int) (f : Nat → Int) : Nat → Int
  | 0 => 0
  | i + 1 => fsum l f i + f (l.getD i 0).toNat
theorem fsum_snoc {l : List Int} {x : Int} {f : Nat → Int} : ∀ i, i ≤ l.length → fsum (l ++ [x]) f i = fsum l f i
  | 0, _ => rfl
  | i + 1, h => by
    show fsum (l ++ [x]) f i + f ((l ++ [x]).getD i 0).toNat = fsum l f i + f (l.getD i 0).toNat
    rw [fsum_snoc i (by omega), getD_lt (by omega)]
theorem fsum_idxs {M : Nat → Nat} {Y : Nat → Nat → Int} {G : Nat → Int} {B : Nat} : ∀ n, fsum (idxs B.testBit n) (fun k => yl (M k) (Y k) (G k)) (idxs B.testBit n).length = ysum M Y G B n
  | 0 => rfl
  | n + 1 => by
    have ih := fsum_idxs (M := M) (Y := Y) (G := G) (B := B) n
    cases e : B.testBit n
    · rw [idxs_no e, ysum_no e]
      exact ih
    · rw [idxs_yes e, ysum_yes e, List.length_append]
      show fsum _ _ ((idxs B.testBit n).length + 1) = _
      show fsum (idxs B.testBit n ++ [(n : Int)]) _ (idxs B.testBit n).length + yl (M ((idxs B.testBit n ++ [(n : Int)]).getD (idxs B.testBit n).length 0).toNat) _ _ = _
      rw [fsum_snoc _ (Nat.le_refl _), ih, getD_eq]
      rfl
theorem fsum_bd {l : List Int} {f : Nat → Int} (h : ∀ i, i < l.length → 0 ≤ f (l.getD i 0).toNat ∧ f (l.getD i 0).toNat ≤ 10000) : ∀ i, i ≤ l.length → 0 ≤ fsum l f i ∧ fsum l f i ≤ 10000 * i
  | 0, _ => by simp [fsum]
  | i + 1, hi => by
    have := fsum_bd h i (by omega)
    have := h i (by omega)
    have e : fsum l f (i + 1) = fsum l f i + f (l.getD i 0).toNat := rfl
    omega

-- the pairs of answers
theorem bestCuts_any (A : Option Addr) (m c : Nat) (Y : Nat → Int) (a y : Int) (hm : m ≤ 6) : ∃ (l : List Int) (v code : Int), l.length ≤ 12 ∧
    (code = 1 ∨ code = 2 ∨ code = 0 ∧ bedB m Y a = true ∧ ∃ N : Nat, y = N ∧ 1 ≤ N ∧ N ≤ 12 ∧ ∃ B, B < 2 ^ N ∧ l = idxs B.testBit N ∧ v = (pls m Y a B N).1 ∧ ∀ x, x < 2 ^ N → (pls m Y a x N).1 ≤ v) ∧
    (∀ W, Sl W A m 1 Y → Calls Try.prog 50 #[.agg #[.slice A m c, .int .i64 a], .int .i64 y] W (BestSaid W l v code)) ∧
    (∀ W, Sl W A m 1 Y → Calls Try.prog 48 #[.agg #[.slice A m c, .int .i64 a], .int .i64 y] W (BestSaid W l v code)) := by
  have hmm : m ≤ maxLen := by unfold maxLen; omega
  cases hb : bedB m Y a
  · exact ⟨[], 0, 1, by simp, .inl rfl, fun W hW => bestCuts_i_no A m c Y a y 1 W hmm hW (.inl ⟨hb, rfl⟩), fun W hW => bestCuts_s_no A m c Y a y 1 W hmm hW (.inl ⟨hb, rfl⟩)⟩
  · cases hy : inB y 1 12
    · exact ⟨[], 0, 2, by simp, .inr (.inl rfl), fun W hW => bestCuts_i_no A m c Y a y 2 W hmm hW (.inr ⟨hb, hy, rfl⟩), fun W hW => bestCuts_s_no A m c Y a y 2 W hmm hW (.inr ⟨hb, hy, rfl⟩)⟩
    · obtain ⟨y1, y2⟩ := inB_of hy
      obtain ⟨_, ⟨a0, a1⟩, _⟩ := bedB_of hb
      obtain ⟨N, rfl⟩ : ∃ N : Nat, y = N := ⟨y.toNat, by omega⟩
      obtain ⟨b, rfl⟩ : ∃ b : Nat, a = b := ⟨a.toNat, by omega⟩
      have hl := idxs_len (topS m Y b N (2 ^ N)).testBit N
      exact ⟨_, _, 0, by omega, .inr (.inr ⟨rfl, rfl, N, rfl, by omega, by omega, _, topS_lt _ (Nat.two_pow_pos N), rfl, rfl, fun x hx => best_ge (by omega) hx⟩), fun W hW => bestCuts_i A m c Y b N W (by omega) (by omega) hW hb, fun W hW => bestCuts_s A m c Y b N W (by omega) (by omega) hW hb⟩
theorem yop_any (A : Option Addr) (m c : Nat) (Y : Nat → Int) (a y : Int) (A2 : Option Addr) (n c2 : Nat) (C : Nat → Int) (hm : m ≤ 6) (hn : n ≤ 15) : ∃ (v code : Int),
    (code = 1 ∨ code = 2 ∨ code = 0 ∧ bedB m Y a = true ∧ ∃ N : Nat, y = N ∧ planB n C y = true ∧ v = (pls m Y a (orC C n) N).1) ∧
    (∀ W, Sl W A m 1 Y → Sl W A2 n 1 C → Calls Try.prog 64 #[.agg #[.slice A m c, .int .i64 a], .slice A2 n c2, .int .i64 y] W fun e w' => e = .returned (.tuple #[.int .i64 v, .int .i64 code]) ∧ Below W.heap.size W w') ∧
    (∀ W, Sl W A m 1 Y → Sl W A2 n 1 C → Calls Try.prog 65 #[.agg #[.slice A m c, .int .i64 a], .slice A2 n c2, .int .i64 y] W fun e w' => e = .returned (.tuple #[.int .i64 v, .int .i64 code]) ∧ Below W.heap.size W w') := by
  have hmm : m ≤ maxLen := by unfold maxLen; omega
  have hnn : n ≤ maxLen := by unfold maxLen; omega
  cases hb : bedB m Y a
  · exact ⟨0, 1, .inl rfl, fun W h1 h2 => yop_i_no A m c Y a A2 n c2 C y 1 W hmm hnn h1 h2 (.inl ⟨hb, rfl⟩), fun W h1 h2 => yop_s_no A m c Y a A2 n c2 C y 1 W hmm hnn h1 h2 (.inl ⟨hb, rfl⟩)⟩
  · cases hp : planB n C y
    · exact ⟨0, 2, .inr (.inl rfl), fun W h1 h2 => yop_i_no A m c Y a A2 n c2 C y 2 W hmm hnn h1 h2 (.inr ⟨hb, hp, rfl⟩), fun W h1 h2 => yop_s_no A m c Y a A2 n c2 C y 2 W hmm hnn h1 h2 (.inr ⟨hb, hp, rfl⟩)⟩
    · obtain ⟨⟨y1, y2⟩, _⟩ := planB_of hp
      obtain ⟨N, rfl⟩ : ∃ N : Nat, y = N := ⟨y.toNat, by omega⟩
      exact ⟨_, 0, .inr (.inr ⟨rfl, rfl, N, rfl, rfl, rfl⟩), fun W h1 h2 => yop_i A m c Y a A2 n c2 C N W hmm hnn h1 h2 hb hp, fun W h1 h2 => yop_s A m c Y a A2 n c2 C N W hmm hnn h1 h2 hb hp⟩
theorem cutFor_any (A : Option Addr) (n c : Nat) (M : Nat → Nat) (Y : Nat → Nat → Int) (G : Nat → Int) (d : Int) (hn : n ≤ 9) (hM : ∀ j, j < n → M j ≤ 6) : ∃ (l : List Int) (code : Int), l.length ≤ 9 ∧
    (code ≠ 0 ∨ code = 0 ∧ bedsB n M Y G = true ∧ ∃ B, l = idxs B.testBit n ∧ d ≤ ysum M Y G B n) ∧
    (∀ W, Beds W A n M Y G → Calls Try.prog 54 #[.slice A n c, .int .i64 d] W (NumsCode W 2 l code)) ∧
    (∀ W, Beds W A n M Y G → Calls Try.prog 53 #[.slice A n c, .int .i64 d] W (NumsCode W 2 l code)) := by
  have hnn : n ≤ maxLen := by unfold maxLen; omega
  have hMM : ∀ j, j < n → M j ≤ maxLen := fun j hj => by have := hM j hj; unfold maxLen; omega
  cases hb : bedsB n M Y G
  · exact ⟨[], 1, by simp, .inl (by decide), fun W hW => cutFor_i_no A n c M Y G d 1 W hnn hMM hW (.inl ⟨hb, rfl⟩), fun W hW => cutFor_s_no A n c M Y G d 1 W hnn hMM hW (.inl ⟨hb, rfl⟩)⟩
  · cases hd : inB d 0 100000
    · exact ⟨[], 2, by simp, .inl (by decide), fun W hW => cutFor_i_no A n c M Y G d 2 W hnn hMM hW (.inr ⟨hb, hd, rfl⟩), fun W hW => cutFor_s_no A n c M Y G d 2 W hnn hMM hW (.inr ⟨hb, hd, rfl⟩)⟩
    · have hl := cutL_len n (enough n M Y G d)
      refine ⟨_, _, by omega, ?_, fun W hW => cutFor_i A n c M Y G d W hb hd hW, fun W hW => cutFor_s A n c M Y G d W hb hd hW⟩
      unfold cutC cutL
      cases hf : found n (enough n M Y G d) (2 ^ n)
      · exact .inl (by simp)
      · refine .inr ⟨by simp, rfl, _, by simp; rfl, ?_⟩
        have := found_yes hf
        unfold enough at this
        exact of_decide_eq_true this

set_option maxHeartbeats 1000000 in
theorem f6big_c (A : Option Addr) (n c : Nat) (w : World) (hn : n ≤ 4096) :
    Calls Try.prog 61 #[.slice A n c] w fun e w' => e = .returned (.bool false) ∧ w' = w := by
  have h1 : ¬ (4096 : Int) < (n : Int) := by omega
  go_enter Try.func61, Try.ntmps61
  go_wp2
  go_ret
  exact ⟨rfl, rfl⟩
set_option maxHeartbeats 1000000 in
theorem f6big_no (A : Option Addr) (n c : Nat) (w : World) (hn : 4096 < n) :
    Calls Try.prog 61 #[.slice A n c] w fun e w' => e = .returned (.bool true) ∧ w' = w := by
  have h1 : (4096 : Int) < (n : Int) := by omega
  go_enter Try.func61, Try.ntmps61
  go_wp2
  go_ret
  exact ⟨rfl, rfl⟩
set_option maxHeartbeats 2000000 in
theorem f6ints_c (A1 A2 : Option Addr) (n c1 c2 : Nat) (X : Nat → Int) (w : World) (hn : n ≤ 100) (h1 : Sl w A1 n 1 X) (h2 : Sl w A2 n 1 X) :
    Calls Try.prog 70 #[.slice A1 n c1, .slice A2 n c2] w fun e w' => e = .returned (.bool true) ∧ Below w.heap.size w w' := by
  have H1 := Lib.hid h1
  have H2 := Lib.hid h2
  clear h1 h2
  go_enter Try.func70, Try.ntmps70
  go_wp2_with fail
  go_loopw [5] (fun s wr => ∃ k : Nat, k ≤ n ∧ s = .int .i64 k ∧ Drew w wr) (fun s _ => n - (intOf s).toNat)
  case atStart => exact ⟨0, by omega, rfl, Drew.refl _⟩
  case round =>
    obtain ⟨k, hk, rfl, hd⟩ := hrel
    have HD := Lib.hid hd
    clear hd
    by_cases hlt : k < n
    · have hlt' : (k : Int) < (n : Int) := by omega
      have hk0 : (0 : Int) ≤ (k : Int) := by omega
      obtain ⟨b1, o1, rfl, hb1, hX1⟩ := (HD.out.sl H1.out) (by omega)
      obtain ⟨b2, o2, rfl, hb2, hX2⟩ := (HD.out.sl H2.out) (by omega)
      have p0 := hX1 k (by omega)
      have q0 := hX2 k (by omega)
      clear hX1 hX2
      go_wp2_with fail
      go_quiet (fail)
      go_wp2
      go_roundw
      case rel => exact ⟨k + 1, by omega, by go_num, HD.out.drewN _⟩
      case measure => simp [intOf]; omega
    · obtain rfl : k = n := by omega
      have hB : Below w.heap.size w wr := by obtain ⟨m9, e9⟩ := HD.out; rw [e9]; exact drewN_below (Below.refl _ _) _
      go_wp2
      go_ret
      exact ⟨rfl, hB⟩
end Go.Proofs.Ytcpaenmhnoagdab.rod
