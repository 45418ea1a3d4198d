/-
  Contract of the model's list with one number more.
-/
import Derived.Test.YtlepgkmpbhlajaaDoorFewM
namespace Go.Proofs.YtlepgkmpbhlajaaDoor.rod
open Go.ChangeShapes Go.WideShapes Go.ChangeAt Go.RowKit Go.Proofs.YtlepgkmpbhlajaaDoor.mem Go.Proofs.YtlepgkmpbhlajaaDoor.nums
set_option linter.unusedVariables false

/-- the list after i rounds -/
def putL (p s : List Int) (x : Int) (i : Nat) : List Int := if i ≤ p.length then p.take i else p ++ (x :: s.take (i - p.length))
theorem putL_le {p s : List Int} {x : Int} {i : Nat} (h : i ≤ p.length) : putL p s x i = p.take i := by unfold putL; rw [if_pos h]
theorem putL_gt {p s : List Int} {x : Int} {i : Nat} (h : ¬ i ≤ p.length) : putL p s x i = p ++ (x :: s.take (i - p.length)) := by unfold putL; rw [if_neg h]
theorem take_snoc {l : List Int} {i : Nat} (h : i < l.length) : l.take i ++ [l.getD i 0] = l.take (i + 1) := by
  rw [List.take_add_one, List.getD, List.getElem?_eq_getElem h]; rfl
theorem putL_len {p s : List Int} {x : Int} {i : Nat} (h : i ≤ p.length + s.length) : (putL p s x i).length ≤ i + 1 := by
  unfold putL
  split
  · rw [List.length_take]; omega
  · rw [List.length_append, List.length_cons, List.length_take]; omega

set_option maxHeartbeats 4000000 in
set_option maxRecDepth 100000 in
theorem put_s (A : Option Addr) (c : Nat) (p s : List Int) (x : Int) (w : World) (hlen : p.length + s.length ≤ 1000) (hp : ∀ y ∈ p, y < x) (hs : ∀ y ∈ s, x < y) (h : Sl w A (p.length + s.length) 1 (fun j => (p ++ s).getD j 0)) :
    Calls Tryd.prog 58 #[.slice A (p.length + s.length : Nat) c, .int .i64 x] w fun e w' => ∃ A' c', e = .returned (.slice A' (p ++ (x :: s)).length c') ∧ (p ++ (x :: s)).length ≤ c' ∧ c' ≤ maxLen ∧ Row w' w.heap.size w'.heap.size A' (p ++ (x :: s)).length 1 2 (fun j => (p ++ (x :: s)).getD j 0) ∧ Below w.heap.size w w' := by
  obtain ⟨i0, hi0, hz0, hz1, hz2⟩ := info_parts info_num
  obtain ⟨n, hn⟩ : ∃ n, p.length + s.length = n := ⟨_, rfl⟩
  have HS := Lib.hid h
  have HP := Lib.hid hp
  have HSS := Lib.hid hs
  have HN := Lib.hid hn
  have hn1000 : n ≤ 1000 := by omega
  rw [hn]
  rw [hn] at HS
  clear h hp hs hn hlen
  go_enter Tryd.func58, Tryd.ntmps58
  go_wp2_with fail
  go_loopw [7, 6, 5] (fun t u v wr => ∃ (i : Nat) (u' : Bool), i ≤ n ∧ t = .int .i64 i ∧ u = .bool u' ∧ Hid (u' = decide (p.length < i)) ∧ Hid (wr.ownsRow w.heap.size 2 1 v (putL p s x i).length ((putL p s x i).map (Value.int .i64))) ∧ Below w.heap.size w wr) (fun t _ _ _ => n - (intOf t).toNat)
  case atStart => exact ⟨0, false, by omega, rfl, rfl, (decide_eq_false (by omega)).symm, by rw [putL_le (Nat.zero_le _)]; exact owns_empty w w.heap.size 2 (Nat.le_refl _), by go_grown⟩
  case round =>
    obtain ⟨i, u', hi, rfl, rfl, HU, hown, hbl⟩ := hrel
    have hzz := hbl.size
    have HB := Lib.hid hbl
    clear hbl
    by_cases hlt : i < n
    · have hlt' : (i : Int) < (n : Int) := by omega
      have hi0' : (0 : Int) ≤ (i : Int) := by omega
      obtain ⟨b, o, rfl, hb, hX⟩ := HS.out (by omega)
      have cx : wr.cell? ⟨b, o + i, none⟩ = some (.int .i64 ((p ++ s).getD i 0)) := hX.below HB.out hb i (by omega)
      have hL := putL_len (x := x) (show i ≤ p.length + s.length by have := HN.out; omega)
      clear hX
      rcases Nat.lt_trichotomy i p.length with hc | hc | hc
      · -- a number that is less
        have hv : (p ++ s).getD i 0 = p.getD i 0 := by rw [List.getD, List.getD, List.getElem?_append_left hc]
        have hlx : p.getD i 0 < x := HP.out _ (by rw [List.getD, List.getElem?_eq_getElem hc]; exact List.getElem_mem hc)
        have HNX := Lib.hid (show putL p s x i ++ [p.getD i 0] = putL p s x (i + 1) by rw [putL_le (by omega), putL_le (by omega)]; exact take_snoc hc)
        obtain rfl : u' = false := by rw [HU.out]; exact decide_eq_false (by omega)
        have HU2 := Lib.hid (show false = decide (p.length < i + 1) from (decide_eq_false (by omega)).symm)
        rw [hv] at cx
        generalize p.getD i 0 = y at *
        have hge : ¬ x ≤ y := by omega
        have dge : decide (x ≤ y) = false := decide_eq_false hge
        clear hv
        generalize hl : putL p s x i = l at *
        have HL := Lib.hid hl
        clear hl
        go_wp2_with (at_builtin; refine wpList_append_own _ rfl _ _ 32 rfl w.heap.size 2 i0 (.int .i64 0) 1 8 Tryd.underlying32 hi0 hz0 hz1 hz2 rfl (by decide) _ _ _ rfl (hown.out.alloc _) ⟨wr.heap.size, 0, none⟩ 1 1 [.int .i64 y] rfl rfl ?za1 ?za2 ?za3 ?za4 ?za5 ?_)
        try (case za1 => intro j u hj; rcases j with _ | j <;> simp at hj; subst hj; go_simp)
        case za2 => first | rfl | (intro u hu; simp at hu; subst hu; rfl)
        case za3 => unfold maxLen; omega
        case za4 => omega
        case za5 => first | omega | (simp; omega)
        intro v' w1 hown1 hgrow1 _
        have g1 : Below w.heap.size w w1 := Below.grown (HB.out.alloc hzz _) hgrow1 (by simp; omega) (owns_block hown.out)
        have HO := Lib.hid (owns_snoc hown1)
        clear hown1 hgrow1
        go_wp2
        go_roundw
        case rel => exact ⟨i + 1, _, by omega, by go_num, rfl, HU2.out, by rw [← HNX.out]; exact HO.out, g1⟩
        case measure => simp [intOf]; omega
      · -- the first one that is greater
        have hc2 : i - p.length < s.length := by have := HN.out; omega
        have hv : (p ++ s).getD i 0 = s.getD 0 0 := by rw [List.getD, List.getD, List.getElem?_append_right (by omega), show i - p.length = 0 by omega]
        have hlx : x < s.getD 0 0 := HSS.out _ (by rw [List.getD, List.getElem?_eq_getElem (show 0 < s.length by omega)]; exact List.getElem_mem _)
        have HNX := Lib.hid (show (putL p s x i ++ [x]) ++ [s.getD 0 0] = putL p s x (i + 1) by
          rw [putL_le (by omega), putL_gt (by omega), show i + 1 - p.length = 0 + 1 by omega, ← take_snoc (show 0 < s.length by omega), show p.take i = p by rw [List.take_of_length_le (by omega)]]
          simp)
        obtain rfl : u' = false := by rw [HU.out]; exact decide_eq_false (by omega)
        have HU2 := Lib.hid (show true = decide (p.length < i + 1) from (decide_eq_true (by omega)).symm)
        rw [hv] at cx
        generalize s.getD 0 0 = y at *
        have hge : x ≤ y := by omega
        have dge : decide (x ≤ y) = true := decide_eq_true hge
        have dgt : decide (x < y) = true := decide_eq_true hlx
        clear hv hc hc2
        generalize hl : putL p s x i = l at *
        have HL := Lib.hid hl
        clear hl
        go_wp2_with (at_builtin; refine wpList_append_own _ rfl _ _ 32 rfl w.heap.size 2 i0 (.int .i64 0) 1 8 Tryd.underlying32 hi0 hz0 hz1 hz2 rfl (by decide) _ _ _ rfl (hown.out.alloc _) ⟨wr.heap.size, 0, none⟩ 1 1 [.int .i64 x] rfl rfl ?zb1 ?zb2 ?zb3 ?zb4 ?zb5 ?_)
        try (case zb1 => intro j u hj; rcases j with _ | j <;> simp at hj; subst hj; go_simp)
        case zb2 => first | rfl | (intro u hu; simp at hu; subst hu; rfl)
        case zb3 => unfold maxLen; omega
        case zb4 => omega
        case zb5 => first | omega | (simp; omega)
        intro v' w1 hown1 hgrow1 _
        have g1 : Below w.heap.size w w1 := Below.grown (HB.out.alloc hzz _) hgrow1 (by simp; omega) (owns_block hown.out)
        have z1 := g1.size
        have HO := Lib.hid (owns_snoc hown1)
        have cx1 := (g1.cell (p := ⟨b, o + i, none⟩) hb).trans ((HB.out.cell (p := ⟨b, o + i, none⟩) hb).symm.trans cx)
        clear hown1 hgrow1 cx
        go_wp2_with (at_builtin; refine wpList_append_own _ rfl _ _ 32 rfl w.heap.size 2 i0 (.int .i64 0) 1 8 Tryd.underlying32 hi0 hz0 hz1 hz2 rfl (by decide) _ _ _ rfl (HO.out.alloc _) ⟨w1.heap.size, 0, none⟩ 1 1 [.int .i64 y] rfl rfl ?zc1 ?zc2 ?zc3 ?zc4 ?zc5 ?_)
        try (case zc1 => intro j u hj; rcases j with _ | j <;> simp at hj; subst hj; go_simp)
        case zc2 => first | rfl | (intro u hu; simp at hu; subst hu; rfl)
        case zc3 => rw [List.length_append]; simp; unfold maxLen; omega
        case zc4 => rw [List.length_append]; simp; omega
        case zc5 => first | omega | (simp; omega)
        intro v2 w2 hown2 hgrow2 _
        have g2 : Below w.heap.size w w2 := Below.grown (g1.alloc z1 _) hgrow2 (by simp; omega) (owns_block HO.out)
        have HO2 := Lib.hid (show w2.ownsRow w.heap.size 2 1 v2 ((l ++ [x]) ++ [y]).length (((l ++ [x]) ++ [y]).map (Value.int .i64)) by simpa using hown2)
        clear hown2 hgrow2
        go_wp2
        go_roundw
        case rel => exact ⟨i + 1, _, by omega, by go_num, rfl, HU2.out, by rw [← HNX.out]; exact HO2.out, g2⟩
        case measure => simp [intOf]; omega
      · -- a number behind it
        have hc2 : i - p.length < s.length := by have := HN.out; omega
        have hv : (p ++ s).getD i 0 = s.getD (i - p.length) 0 := by rw [List.getD, List.getD, List.getElem?_append_right (by omega)]
        have HNX := Lib.hid (show putL p s x i ++ [s.getD (i - p.length) 0] = putL p s x (i + 1) by
          rw [putL_gt (by omega), putL_gt (by omega), show i + 1 - p.length = i - p.length + 1 by omega, ← take_snoc hc2]
          simp)
        obtain rfl : u' = true := by rw [HU.out]; exact decide_eq_true (by omega)
        have HU2 := Lib.hid (show true = decide (p.length < i + 1) from (decide_eq_true (by omega)).symm)
        rw [hv] at cx
        generalize s.getD (i - p.length) 0 = y at *
        clear hv
        generalize hl : putL p s x i = l at *
        have HL := Lib.hid hl
        clear hl
        go_wp2_with (at_builtin; refine wpList_append_own _ rfl _ _ 32 rfl w.heap.size 2 i0 (.int .i64 0) 1 8 Tryd.underlying32 hi0 hz0 hz1 hz2 rfl (by decide) _ _ _ rfl (hown.out.alloc _) ⟨wr.heap.size, 0, none⟩ 1 1 [.int .i64 y] rfl rfl ?zd1 ?zd2 ?zd3 ?zd4 ?zd5 ?_)
        try (case zd1 => intro j u hj; rcases j with _ | j <;> simp at hj; subst hj; go_simp)
        case zd2 => first | rfl | (intro u hu; simp at hu; subst hu; rfl)
        case zd3 => unfold maxLen; omega
        case zd4 => omega
        case zd5 => first | omega | (simp; omega)
        intro v' w1 hown1 hgrow1 _
        have g1 : Below w.heap.size w w1 := Below.grown (HB.out.alloc hzz _) hgrow1 (by simp; omega) (owns_block hown.out)
        have HO := Lib.hid (owns_snoc hown1)
        clear hown1 hgrow1
        go_wp2
        go_roundw
        case rel => exact ⟨i + 1, _, by omega, by go_num, rfl, HU2.out, by rw [← HNX.out]; exact HO.out, g1⟩
        case measure => simp [intOf]; omega
    · obtain rfl : i = n := by omega
      have hL := putL_len (x := x) (show i ≤ p.length + s.length by have := HN.out; omega)
      by_cases hc : p.length < i
      · have HE := Lib.hid (show putL p s x i = p ++ (x :: s) by rw [putL_gt (by omega), List.take_of_length_le (by have := HN.out; omega)])
        obtain rfl : u' = true := by rw [HU.out]; exact decide_eq_true hc
        obtain ⟨A', c', rfl, hc1, hc2, hrow⟩ := row_of_owns hown.out
        rw [HE.out] at hc1 hrow
        have HW := Lib.hid hrow
        clear hrow
        go_wp2
        go_ret
        exact ⟨A', c', by rw [HE.out]; rfl, hc1, hc2, HW.out, HB.out⟩
      · have hs0 : s = [] := List.eq_nil_of_length_eq_zero (by have := HN.out; omega)
        have HE := Lib.hid (show putL p s x i ++ [x] = p ++ (x :: s) by rw [putL_le (by omega), List.take_of_length_le (by have := HN.out; omega), hs0])
        obtain rfl : u' = false := by rw [HU.out]; exact decide_eq_false hc
        generalize hl : putL p s x i = l at *
        have HL := Lib.hid hl
        clear hl hs0
        go_wp2_with (at_builtin; refine wpList_append_own _ rfl _ _ 32 rfl w.heap.size 2 i0 (.int .i64 0) 1 8 Tryd.underlying32 hi0 hz0 hz1 hz2 rfl (by decide) _ _ _ rfl (hown.out.alloc _) ⟨wr.heap.size, 0, none⟩ 1 1 [.int .i64 x] rfl rfl ?zf1 ?zf2 ?zf3 ?zf4 ?zf5 ?_)
        try (case zf1 => intro j u hj; rcases j with _ | j <;> simp at hj; subst hj; go_simp)
        case zf2 => first | rfl | (intro u hu; simp at hu; subst hu; rfl)
        case zf3 => unfold maxLen; omega
        case zf4 => omega
        case zf5 => first | omega | (simp; omega)
        intro v' w1 hown1 hgrow1 _
        have g1 : Below w.heap.size w w1 := Below.grown (HB.out.alloc hzz _) hgrow1 (by simp; omega) (owns_block hown.out)
        have ho := owns_snoc hown1
        rw [HE.out] at ho
        obtain ⟨A', c', rfl, hc1, hc2, hrow⟩ := row_of_owns ho
        have HW := Lib.hid hrow
        clear hown1 hgrow1 ho hrow
        go_wp2
        go_ret
        exact ⟨A', c', rfl, hc1, hc2, HW.out, g1⟩

theorem put_s2 (A : Option Addr) (c : Nat) (p s : List Int) (x : Int) (m : Nat) (w : World) (hm : m = p.length + s.length) (hlen : m ≤ 1000) (hp : ∀ y ∈ p, y < x) (hs : ∀ y ∈ s, x < y) (h : Sl w A m 1 (fun j => (p ++ s).getD j 0)) :
    Calls Tryd.prog 58 #[.slice A m c, .int .i64 x] w fun e w' => ∃ A' c', e = .returned (.slice A' (p ++ (x :: s)).length c') ∧ (p ++ (x :: s)).length ≤ c' ∧ c' ≤ maxLen ∧ Row w' w.heap.size w'.heap.size A' (p ++ (x :: s)).length 1 2 (fun j => (p ++ (x :: s)).getD j 0) ∧ Below w.heap.size w w' := by
  subst hm
  exact put_s A c p s x w hlen hp hs h

end Go.Proofs.YtlepgkmpbhlajaaDoor.rod
