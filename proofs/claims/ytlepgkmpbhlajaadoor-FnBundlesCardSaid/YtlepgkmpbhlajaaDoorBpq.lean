/-
  What the law on bundles tells of the loads that are found and of lists in order: the mathematics. No function of the program lies here.
  What FnBundles compares: pairs of answers, and the law's own helpers.
-/
import Derived.Test.YtlepgkmpbhlajaaDoorFewM
import Derived.Test.YtlepgkmpbhlajaaDoorCartM
import Derived.Test.YtlepgkmpbhlajaaDoorScU
import Derived.Test.YtlepgkmpbhlajaaDoorSwU
import Derived.Test.YtlepgkmpbhlajaaDoorAreas
import Derived.Test.YtlepgkmpbhlajaaDoorSortU
import Derived.Test.YtlepgkmpbhlajaaDoorFew
import Derived.Test.YtlepgkmpbhlajaaDoorCart
import Derived.Test.YtlepgkmpbhlajaaDoorCartF
import Derived.Test.YtlepgkmpbhlajaaDoorFewI
import Derived.Test.YtlepgkmpbhlajaaDoorSameU
import Derived.Test.YtlepgkmpbhlajaaDoorDecT
namespace Go.Proofs.YtlepgkmpbhlajaaDoor.bq
open Go.Proofs.YtlepgkmpbhlajaaDoor.mem Go.Proofs.YtlepgkmpbhlajaaDoor.rod Go.Proofs.YtlepgkmpbhlajaaDoor.stab
set_option linter.unusedVariables false

theorem getD_lt' {l : List Int} {x : Int} {j : Nat} (h : j < l.length) : (l ++ [x]).getD j 0 = l.getD j 0 := by
  simp only [List.getD, List.getElem?_append_left h]
theorem getD_eq' {l : List Int} {x : Int} : (l ++ [x]).getD l.length 0 = x := by simp [List.getD]
theorem idxs_y {p : Nat → Bool} {n : Nat} (h : p n = true) : idxs p (n + 1) = idxs p n ++ [(n : Int)] := idxs_yes h
theorem idxs_n {p : Nat → Bool} {n : Nat} (h : p n = false) : idxs p (n + 1) = idxs p n := idxs_no h
theorem idxs_in {p : Nat → Bool} : ∀ (n j : Nat), j < (idxs p n).length → ∃ k : Nat, (idxs p n).getD j 0 = (k : Int) ∧ k < n ∧ p k = true
  | 0, j, h => absurd h (Nat.not_lt_zero _)
  | n + 1, j, h => by
    cases e : p n
    · rw [idxs_n e] at h ⊢
      obtain ⟨k, h1, h2, h3⟩ := idxs_in n j h
      exact ⟨k, h1, by omega, h3⟩
    · rw [idxs_y e] at h ⊢
      rw [List.length_append] at h
      simp only [List.length_singleton] at h
      by_cases c : j < (idxs p n).length
      · rw [getD_lt' c]
        obtain ⟨k, h1, h2, h3⟩ := idxs_in n j c
        exact ⟨k, h1, by omega, h3⟩
      · obtain rfl : j = (idxs p n).length := by omega
        rw [getD_eq']
        exact ⟨n, rfl, by omega, e⟩
theorem idxs_here {p : Nat → Bool} : ∀ (n k : Nat), k < n → p k = true → ∃ j, j < (idxs p n).length ∧ (idxs p n).getD j 0 = (k : Int)
  | 0, k, h, _ => absurd h (Nat.not_lt_zero _)
  | n + 1, k, h, hp => by
    by_cases c : k = n
    · subst c
      rw [idxs_y hp]
      exact ⟨(idxs p k).length, by simp, getD_eq'⟩
    · obtain ⟨j, h1, h2⟩ := idxs_here n k (by omega) hp
      cases e : p n
      · rw [idxs_n e]; exact ⟨j, h1, h2⟩
      · rw [idxs_y e]; exact ⟨j, by simp; omega, by rw [getD_lt' h1]; exact h2⟩
theorem idxs_has {p : Nat → Bool} {n k : Nat} (hk : k < n) : p k = true ↔ ∃ j, j < (idxs p n).length ∧ (idxs p n).getD j 0 = (k : Int) := by
  constructor
  · exact idxs_here n k hk
  · rintro ⟨j, h1, h2⟩
    obtain ⟨q, h3, h4, h5⟩ := idxs_in n j h1
    have : q = k := by omega
    rw [← this]; exact h5

/-- what the first i of a list of places weigh -/
def lsm (Y : Nat → Int) (L : Nat → Int) : Nat → Int
  | 0 => 0
  | i + 1 => lsm Y L i + Y ((L i).toNat * 3 + 2)
theorem lsm_congr {Y : Nat → Int} {L M : Nat → Int} : ∀ i, (∀ j, j < i → L j = M j) → lsm Y L i = lsm Y M i
  | 0, _ => rfl
  | i + 1, h => by simp only [lsm, lsm_congr i (fun j hj => h j (by omega)), h i (by omega)]
theorem lsm_idxs (Y : Nat → Int) (B : Nat) : ∀ n, lsm Y (fun j => (idxs B.testBit n).getD j 0) (idxs B.testBit n).length = sb Y B n
  | 0 => rfl
  | n + 1 => by
    have ih := lsm_idxs Y B n
    cases e : B.testBit n
    · rw [idxs_n e, sb_no e]; exact ih
    · rw [idxs_y e, sb_yes e, List.length_append, List.length_singleton]
      simp only [lsm]
      rw [getD_eq', Int.toNat_natCast, ← ih]
      congr 1
      exact lsm_congr _ fun j hj => getD_lt' hj
theorem lsm_bd {Y : Nat → Int} {L : Nat → Int} {n : Nat} (hv : allU Y n = true) : ∀ i, (∀ j, j < i → ∃ k : Nat, L j = (k : Int) ∧ k < n) → 0 ≤ lsm Y L i ∧ lsm Y L i ≤ 50000 * i
  | 0, _ => by simp [lsm]
  | i + 1, h => by
    have ih := lsm_bd hv i (fun j hj => h j (by omega))
    obtain ⟨k, h1, h2⟩ := h i (by omega)
    have hb := allU_bd hv h2
    simp only [lsm]
    rw [h1, Int.toNat_natCast]
    omega
/-- one bundle more -/
theorem sb_or {X : Nat → Int} {B x : Nat} (hB : B.testBit x = false) : ∀ n, x < n → sb X (B ||| 2 ^ x) n = sb X B n + X (x * 3 + 2)
  | 0, h => absurd h (Nat.not_lt_zero _)
  | n + 1, h => by
    by_cases c : x = n
    · subst c
      rw [sb_yes (by rw [Nat.testBit_or, Nat.testBit_two_pow_self, Bool.or_true]), sb_no hB]
      congr 1
      exact sb_congr x fun j hj => by rw [Nat.testBit_or, Nat.testBit_two_pow, decide_eq_false (by omega), Bool.or_false]
    · have hbit : (B ||| 2 ^ x).testBit n = B.testBit n := by rw [Nat.testBit_or, Nat.testBit_two_pow, decide_eq_false c, Bool.or_false]
      have ih := sb_or (X := X) hB n (by omega)
      cases e : B.testBit n
      · rw [sb_no (hbit.trans e), sb_no e, ih]
      · rw [sb_yes (hbit.trans e), sb_yes e, ih]; omega
theorem sb_0 (X : Nat → Int) : ∀ n, sb X 0 n = 0
  | 0 => rfl
  | n + 1 => by rw [sb_no (by simp), sb_0 X n]
/-- the best load: what it weighs, and that no load weighs more -/
theorem bst_is {X : Nat → Int} {n : Nat} {h : Int} (h0 : 0 ≤ h) : ∀ m, (bstC X n h m).2 = sb X (bstC X n h m).1 n ∧ (bstC X n h m).2 ≤ h
  | 0 => ⟨(sb_0 X n).symm, h0⟩
  | m + 1 => by
    have ih := bst_is (X := X) (n := n) h0 m
    cases c : btC X n h m (bstC X n h m)
    · rw [bstC_old c]; exact ih
    · rw [bstC_new c]
      refine ⟨rfl, ?_⟩
      unfold btC at c
      simp only [Bool.and_eq_true, decide_eq_true_eq] at c
      exact c.1
theorem bst_max {X : Nat → Int} {n : Nat} {h : Int} : ∀ m b, b < m → sb X b n ≤ h → sb X b n ≤ (bstC X n h m).2
  | 0, b, hb, _ => absurd hb (Nat.not_lt_zero _)
  | m + 1, b, hb, hh => by
    have key : (bstC X n h m).2 ≤ (bstC X n h (m + 1)).2 := by
      cases c : btC X n h m (bstC X n h m)
      · rw [bstC_old c]; exact Int.le_refl _
      · rw [bstC_new c]
        unfold btC at c
        simp only [Bool.and_eq_true, decide_eq_true_eq] at c
        have c2 := c.2
        show (bstC X n h m).2 ≤ sb X m n
        by_cases e : sb X m n = (bstC X n h m).2
        · omega
        · rw [if_neg e] at c2
          have := of_decide_eq_true c2
          omega
    by_cases e : b = m
    · subst e
      cases c : btC X n h b (bstC X n h b)
      · rw [bstC_old c]
        unfold btC at c
        rw [decide_eq_true hh, Bool.true_and] at c
        by_cases e : sb X b n = (bstC X n h b).2
        · omega
        · rw [if_neg e] at c
          have := of_decide_eq_false c
          omega
      · rw [bstC_new c]; exact Int.le_refl _
    · exact Int.le_trans (bst_max m b (by omega) hh) key
/-- nothing that was left fits on the cart -/
theorem cart_full {X : Nat → Int} {n : Nat} {h : Int} (h0 : 0 ≤ h) (hv : allU X n = true) {i : Nat} (hi : i < n) (hB : (bstC X n h (2 ^ n)).1.testBit i = false) : h < (bstC X n h (2 ^ n)).2 + X (i * 3 + 2) := by
  have h1 := (bst_is (X := X) (n := n) h0 (2 ^ n)).1
  have h2 := sb_or (X := X) hB n hi
  have hb := allU_bd hv hi
  rcases Int.lt_or_le h ((bstC X n h (2 ^ n)).2 + X (i * 3 + 2)) with c | c
  · exact c
  · have h3 := bst_max (X := X) (n := n) (h := h) (2 ^ n) ((bstC X n h (2 ^ n)).1 ||| 2 ^ i) (Nat.or_lt_two_pow (bstC_lt _ (Nat.le_refl _)) (Nat.pow_lt_pow_right (by decide) hi)) (by omega)
    omega
/-- what the taken ones weigh -/
theorem sb_bq {X : Nat → Int} {n : Nat} {h : Int} {Q : Nat → Nat} {t : Nat} (k : Tk X n h Q t) : sb X (bq Q t) n = sq X Q t := by
  have key : ∀ i, i ≤ t → sb X (bq Q i) n = sq X Q i := by
    intro i
    induction i with
    | zero => intro _; exact sb_0 X n
    | succ i ih =>
      intro hi
      have hl := k.le
      show sb X (bq Q i ||| 2 ^ Q i) n = sq X Q i + X (Q i * 3 + 2)
      rw [sb_or (bq_new (ltN_swo X) k.ord (by omega)) n (k.ord.bnd i (by omega)), ih (by omega)]
  exact key t (Nat.le_refl _)
/-- neighbours in the order -/
theorem sort_up {X : Nat → Int} {n : Nat} {Q : Nat → Nat} (h : Ord (ltU X) n Q) {i : Nat} (hi : i + 1 < n) :
    rowU X Q (i * 3) < rowU X Q ((i + 1) * 3) ∨ rowU X Q (i * 3) = rowU X Q ((i + 1) * 3) ∧ rowU X Q (i * 3 + 2) ≤ rowU X Q ((i + 1) * 3 + 2) := by
  rw [rowU_0, rowU_0, rowU_2, rowU_2]
  have h1 : ltU X (Q (i + 1)) (Q i) = false := by
    rcases h.srt i (i + 1) (Nat.zero_le _) (by omega) hi with c | ⟨c, _⟩
    · exact (ltU_swo X).asymm _ _ c
    · exact c
  unfold ltU at h1
  have h2 := of_decide_eq_false h1
  omega

end Go.Proofs.YtlepgkmpbhlajaaDoor.bq

namespace Go.Proofs.YtlepgkmpbhlajaaDoor.rod
open Go.ChangeShapes Go.WideShapes Go.ChangeAt Go.RowKit Go.Proofs.YtlepgkmpbhlajaaDoor.mem Go.Proofs.YtlepgkmpbhlajaaDoor.stab Go.Proofs.YtlepgkmpbhlajaaDoor.bq
open Go.Proofs.YtlepgkmpbhlajaaDoor.dec
set_option linter.unusedVariables false

set_option maxHeartbeats 2000000 in
theorem f6has_c (A : Option Addr) (n c : Nat) (X : Nat → Int) (x : Int) (r : Bool) (w : World) (hn : n ≤ 100) (hr : Sl w A n 1 X) (hb : r = true ↔ ∃ i, i < n ∧ X i = x) :
    Calls Tryd.prog 27 #[.slice A n c, .int .i64 x] w fun e w' => e = .returned (.bool r) ∧ w' = w := by
  have HR := Lib.hid hr
  have HB := Lib.hid hb
  clear hr hb
  go_enter Tryd.func27, Tryd.ntmps27
  go_wp2_with fail
  go_loopw [5] (fun s wr => ∃ k : Nat, k ≤ n ∧ s = .int .i64 k ∧ (∀ i, i < k → X i ≠ x) ∧ wr = w) (fun s _ => n - (intOf s).toNat)
  case atStart => exact ⟨0, by omega, rfl, fun i hi => absurd hi (by omega), rfl⟩
  case round =>
    obtain ⟨k, hk, rfl, hne, rfl⟩ := hrel
    have HN := Lib.hid hne
    clear hne
    by_cases hlt : k < n
    · have hlt' : (k : Int) < (n : Int) := by omega
      have hk0 : (0 : Int) ≤ (k : Int) := by omega
      obtain ⟨b, o, rfl, hb, hX⟩ := HR.out (by omega)
      have p0 := hX k (by omega)
      clear hX
      by_cases hx : X k = x
      · obtain rfl : r = true := HB.out.2 ⟨k, hlt, hx⟩
        rw [hx] at p0
        clear hx
        go_wp2
        go_ret
        exact ⟨rfl, rfl⟩
      · have hx2 : (X k == x) = false := by simpa using hx
        have HN2 := Lib.hid (show ∀ i, i < k + 1 → X i ≠ x from fun i hi => by
          by_cases e : i = k
          · subst e; exact hx
          · exact HN.out i (by omega))
        clear hx
        go_wp2
        go_roundw
        case rel => exact ⟨k + 1, by omega, by go_num, HN2.out, by simp⟩
        case measure => simp [intOf]; omega
    · obtain rfl : k = n := by omega
      obtain rfl : r = false := by
        cases r
        · rfl
        · obtain ⟨i, hi, e⟩ := HB.out.1 rfl
          exact absurd e (HN.out i hi)
      go_wp2
      go_ret
      exact ⟨rfl, rfl⟩

set_option maxHeartbeats 2000000 in
theorem f6ints_c (A1 A2 : Option Addr) (n c1 c2 : Nat) (X : Nat → Int) (w : World) (hn : n ≤ 100) (h1 : Sl w A1 n 1 X) (h2 : Sl w A2 n 1 X) :
    Calls Tryd.prog 21 #[.slice A1 n c1, .slice A2 n c2] w fun e w' => e = .returned (.bool true) ∧ Below w.heap.size w w' := by
  have H1 := Lib.hid h1
  have H2 := Lib.hid h2
  clear h1 h2
  go_enter Tryd.func21, Tryd.ntmps21
  go_wp2_with fail
  go_loopw [5] (fun s wr => ∃ k : Nat, k ≤ n ∧ s = .int .i64 k ∧ Drew w wr) (fun s _ => n - (intOf s).toNat)
  case atStart => exact ⟨0, by omega, rfl, Drew.refl _⟩
  case round =>
    obtain ⟨k, hk, rfl, hd⟩ := hrel
    have HD := Lib.hid hd
    clear hd
    by_cases hlt : k < n
    · have hlt' : (k : Int) < (n : Int) := by omega
      have hk0 : (0 : Int) ≤ (k : Int) := by omega
      obtain ⟨b1, o1, rfl, hb1, hX1⟩ := (HD.out.sl H1.out) (by omega)
      obtain ⟨b2, o2, rfl, hb2, hX2⟩ := (HD.out.sl H2.out) (by omega)
      have p0 := hX1 k (by omega)
      have q0 := hX2 k (by omega)
      clear hX1 hX2
      go_wp2_with fail
      go_quiet (fail)
      go_wp2
      go_roundw
      case rel => exact ⟨k + 1, by omega, by go_num, HD.out.drewN _⟩
      case measure => simp [intOf]; omega
    · obtain rfl : k = n := by omega
      have hB : Below w.heap.size w wr := by obtain ⟨m9, e9⟩ := HD.out; rw [e9]; exact drewN_below (Below.refl _ _) _
      go_wp2
      go_ret
      exact ⟨rfl, hB⟩

theorem girth_any (r t : Int) : ∃ v code, (∀ W, Calls Tryd.prog 7 #[.int .i64 r, .int .i64 t] W fun e w' => e = .returned (.tuple #[.int .i64 v, .int .i64 code]) ∧ Below W.heap.size W w') ∧
    (∀ W, Calls Tryd.prog 8 #[.int .i64 r, .int .i64 t] W fun e w' => e = .returned (.tuple #[.int .i64 v, .int .i64 code]) ∧ Below W.heap.size W w') ∧ GirthIs r t v code := by
  obtain ⟨v, code, h⟩ := GirthIs.ex r t
  exact ⟨v, code, fun W => girthFor_i r t v code W h, fun W => girthFor_s r t v code W h, h⟩

/-- the answer is a new list of bundles, and a code -/
def PostU (m : Nat) (Z : Nat → Int) (cd : Int) (W : World) (e : Ending) (w' : World) : Prop :=
  ∃ A' c', e = .returned (.tuple #[.slice A' m c', .int .i64 cd]) ∧ m ≤ c' ∧ c' ≤ maxLen ∧ Row w' W.heap.size w'.heap.size A' m 3 40 Z ∧ Below W.heap.size W w'
theorem sort_any (P : Option Addr) (k d : Nat) (Y : Nat → Int) (hk : k ≤ 31) : ∃ m Z cd, (∀ W, Sl W P k 3 Y → Calls Tryd.prog 10 #[.slice P k d] W (PostU m Z cd W)) ∧
    (∀ W, Sl W P k 3 Y → Calls Tryd.prog 11 #[.slice P k d] W (PostU m Z cd W)) ∧ m ≤ 31 ∧
    ∀ i, i + 1 < m → Z (i * 3) < Z ((i + 1) * 3) ∨ Z (i * 3) = Z ((i + 1) * 3) ∧ Z (i * 3 + 2) ≤ Z ((i + 1) * 3 + 2) := by
  have hm : k ≤ maxLen := by unfold maxLen; omega
  cases hv : listU k Y
  · exact ⟨0, Y, 1, fun W h => sortU_i_no P k d Y Y W hm hv h, fun W h => sortU_s_no P k d Y Y W hm hv h, by omega, fun i hi => absurd hi (by omega)⟩
  · obtain ⟨QQ, hQQ⟩ := Ord.ex (ltU_swo Y) k
    exact ⟨k, rowU Y QQ, 0, fun W h => sortU_i P k d Y QQ W hv hQQ h, fun W h => sortU_s P k d Y QQ W hv hQQ h, hk, fun i hi => sort_up hQQ hi⟩

/-- the answer is a new list of numbers, a number and a code -/
def PostC (l : Nat) (L : Nat → Int) (s cd : Int) (W : World) (e : Ending) (w' : World) : Prop :=
  ∃ A' c', e = .returned (.tuple #[.slice A' l c', .int .i64 s, .int .i64 cd]) ∧ l ≤ c' ∧ c' ≤ maxLen ∧ Row w' W.heap.size w'.heap.size A' l 1 2 L ∧ Below W.heap.size W w'
/-- what a load tells -/
structure Load (k : Nat) (Y : Nat → Int) (h : Int) (l : Nat) (L : Nat → Int) (s : Int) : Prop where
  all : allU Y k = true
  k10 : k ≤ 10
  at_ : ∀ j, j < l → ∃ q : Nat, L j = (q : Int) ∧ q < k
  sum : lsm Y L l = s
  s0 : 0 ≤ s
  s1 : s ≤ h
  h1 : h ≤ 1000000
  full : ∀ i, i < k → (¬ ∃ j, j < l ∧ L j = (i : Int)) → h < s + Y (i * 3 + 2)
def CartIs (k : Nat) (Y : Nat → Int) (h : Int) (l : Nat) (L : Nat → Int) (s cd : Int) : Prop := (cd = 0 ∧ Load k Y h l L s) ∨ 1 ≤ cd
theorem cart_any (P : Option Addr) (k d : Nat) (Y : Nat → Int) (h : Int) (hk : k ≤ 31) : ∃ l L s cd, (∀ W, Sl W P k 3 Y → Calls Tryd.prog 13 #[.slice P k d, .int .i64 h] W (PostC l L s cd W)) ∧
    (∀ W, Sl W P k 3 Y → Calls Tryd.prog 14 #[.slice P k d, .int .i64 h] W (PostC l L s cd W)) ∧ l ≤ 31 ∧ CartIs k Y h l L s cd := by
  have hm : k ≤ maxLen := by unfold maxLen; omega
  have no : ∀ code, CartNo k Y h code → 1 ≤ code → ∃ l L s cd, (∀ W, Sl W P k 3 Y → Calls Tryd.prog 13 #[.slice P k d, .int .i64 h] W (PostC l L s cd W)) ∧
      (∀ W, Sl W P k 3 Y → Calls Tryd.prog 14 #[.slice P k d, .int .i64 h] W (PostC l L s cd W)) ∧ l ≤ 31 ∧ CartIs k Y h l L s cd := fun code hc h1 =>
    ⟨0, fun j => ([] : List Int).getD j 0, 0, code, fun W hs => cart_i_no P k d Y h code W hm hs hc, fun W hs => cart_s_no P k d Y h code W hm hs hc, by omega, .inr h1⟩
  cases hv : listU k Y
  · exact no 1 (.inl ⟨hv, rfl⟩) (by omega)
  cases h1 : inB h 0 1000000
  · exact no 2 (.inr (.inl ⟨hv, h1, rfl⟩)) (by omega)
  by_cases h10 : k ≤ 10
  · obtain ⟨b1, b2⟩ := inB_of h1
    obtain ⟨_, hall⟩ := listU_of hv
    have hs := bst_is (X := Y) (n := k) b1 (2 ^ k)
    refine ⟨_, _, _, 0, fun W hs => cart_i P k d Y h W hs hv h1 h10, fun W hs => cart_s P k d Y h W hs hv h1 h10, ?_, .inl ⟨rfl, ?_⟩⟩
    · have := idxs_len (bstC Y k h (2 ^ k)).1.testBit k
      omega
    · exact { all := hall, k10 := h10, at_ := fun j hj => (by obtain ⟨q, e1, e2, _⟩ := idxs_in k j hj; exact ⟨q, e1, e2⟩), sum := (lsm_idxs Y _ k).trans hs.1.symm, s0 := (bstC_bd hall _).1, s1 := hs.2, h1 := b2, full := fun i hi hn => cart_full b1 hall hi (by
        cases e : (bstC Y k h (2 ^ k)).1.testBit i
        · rfl
        · exact absurd ((idxs_has hi).1 e) hn) }
  · exact no 5 (.inr (.inr ⟨hv, h1, by omega, rfl⟩)) (by omega)
/-- the answer is a new list of numbers, and a code -/
def PostN (l : Nat) (L : Nat → Int) (cd : Int) (W : World) (e : Ending) (w' : World) : Prop :=
  ∃ A' c', e = .returned (.tuple #[.slice A' l c', .int .i64 cd]) ∧ l ≤ c' ∧ c' ≤ maxLen ∧ Row w' W.heap.size w'.heap.size A' l 1 2 L ∧ Below W.heap.size W w'
structure Some_ (k : Nat) (Y : Nat → Int) (h : Int) (l : Nat) (L : Nat → Int) : Prop where
  all : allU Y k = true
  k30 : k ≤ 30
  at_ : ∀ j, j < l → ∃ q : Nat, L j = (q : Int) ∧ q < k
  sum : h ≤ lsm Y L l
def FewAre (k : Nat) (Y : Nat → Int) (h : Int) (l : Nat) (L : Nat → Int) (cd : Int) : Prop := (cd = 0 ∧ Some_ k Y h l L) ∨ 1 ≤ cd
theorem few_any (P : Option Addr) (k d : Nat) (Y : Nat → Int) (h : Int) (hk : k ≤ 31) : ∃ l L cd, (∀ W, Sl W P k 3 Y → Calls Tryd.prog 16 #[.slice P k d, .int .i64 h] W (PostN l L cd W)) ∧
    (∀ W, Sl W P k 3 Y → Calls Tryd.prog 17 #[.slice P k d, .int .i64 h] W (PostN l L cd W)) ∧ l ≤ 31 ∧ FewAre k Y h l L cd := by
  have hm : k ≤ maxLen := by unfold maxLen; omega
  have no : ∀ code, FewNo k Y h code → 1 ≤ code → ∃ l L cd, (∀ W, Sl W P k 3 Y → Calls Tryd.prog 16 #[.slice P k d, .int .i64 h] W (PostN l L cd W)) ∧
      (∀ W, Sl W P k 3 Y → Calls Tryd.prog 17 #[.slice P k d, .int .i64 h] W (PostN l L cd W)) ∧ l ≤ 31 ∧ FewAre k Y h l L cd := fun code hc h1 =>
    ⟨0, fun j => ([] : List Int).getD j 0, code, fun W hs => few_i_no P k d Y h code W hm hs hc, fun W hs => few_s_no P k d Y h code W hm hs hc, by omega, .inr h1⟩
  cases hv : listU k Y
  · exact no 1 (.inl ⟨hv, rfl⟩) (by omega)
  cases h1 : inB h 0 1000000
  · exact no 2 (.inr ⟨hv, h1, rfl⟩) (by omega)
  obtain ⟨B, code, hf⟩ := FewIs.ex Y k h
  obtain ⟨h30, hall⟩ := listU_of hv
  have hl : (idxs B.testBit k).length ≤ 31 := by have := idxs_len B.testBit k; omega
  refine ⟨_, _, code, fun W hs => few_i P k d Y h B code W hs hv h1 hf, fun W hs => few_s P k d Y h B code W hs hv h1 hf, hl, ?_⟩
  obtain ⟨Q, t, tk, ⟨q1, rfl, rfl⟩ | ⟨q1, rfl, rfl⟩⟩ := hf
  · exact .inl ⟨rfl, { all := hall, k30 := h30, at_ := fun j hj => (by obtain ⟨q, e1, e2, _⟩ := idxs_in k j hj; exact ⟨q, e1, e2⟩), sum := by rw [lsm_idxs, sb_bq tk]; exact q1 }⟩
  · exact .inr (by omega)
theorem text_any (L G W : Int) : ∃ t, (∀ w, Tab w → Calls Tryd.prog 23 #[.agg #[.int .i64 L, .int .i64 G, .int .i64 W]] w fun e w' => e = .returned (.string t) ∧ Below w.heap.size w w') ∧
    (∀ w, Calls Tryd.prog 24 #[.agg #[.int .i64 L, .int .i64 G, .int .i64 W]] w fun e w' => e = .returned (.string t) ∧ Below w.heap.size w w') := by
  cases h : bunB L G W
  · exact ⟨_, fun w _ => bunchText_i_no L G W w h, fun w => bunchText_s_no L G W w h⟩
  · exact ⟨_, fun w ht => bunchText_i L G W w h ht, fun w => bunchText_s L G W w h⟩

end Go.Proofs.YtlepgkmpbhlajaaDoor.rod
