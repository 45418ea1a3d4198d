/-
  The program's table of all loads, and its FitCart.
-/
import Derived.Test.YtlepgkmpbhlajaaDoorSortU
import Derived.Test.YtlepgkmpbhlajaaDoorCartM
namespace Go.Proofs.YtlepgkmpbhlajaaDoor.rod
open Go.ChangeShapes Go.WideShapes Go.ChangeAt Go.RowKit Go.Proofs.YtlepgkmpbhlajaaDoor.mem Go.Proofs.YtlepgkmpbhlajaaDoor.nums
set_option linter.unusedVariables false

theorem owns_belowL {w w' : World} {B n size K : Nat} {E : TypeId} {v : Value} {xs : List Value} (h : w.ownsRow B E size v n xs) (hb : Below K w w') (hK : w.heap.size ≤ K) : w'.ownsRow B E size v n xs := by
  refine ⟨h.1, ?_⟩
  rcases h.2 with h0 | ⟨g, cap, cur, e, hB, hh, r⟩
  · exact .inl h0
  · obtain ⟨hlt, _⟩ := Array.getElem?_eq_some_iff.1 hh
    exact .inr ⟨g, cap, cur, e, hB, (hb.block g (by omega)).trans hh, r⟩
/-- the cells of a table of loads: set by set, its bits and its weight -/
def loV (X : Nat → Int) (i j : Nat) : Value := if j % 2 = 0 then .int .u32 ((j / 2 : Nat) : Int) else .int .i64 (sb X (j / 2) i)
theorem loV_0 (X : Nat → Int) (i b : Nat) : loV X i (b * 2) = .int .u32 (b : Int) := by unfold loV; rw [if_pos (by omega), show b * 2 / 2 = b by omega]
theorem loV_1 (X : Nat → Int) (i b : Nat) : loV X i (b * 2 + 1) = .int .i64 (sb X b i) := by unfold loV; rw [if_neg (by omega), show (b * 2 + 1) / 2 = b by omega]
theorem loV_one (X : Nat → Int) (i j : Nat) : (loV X i j).oneCell' = true := by unfold loV; split <;> rfl
theorem loV_up (X : Nat → Int) {i j : Nat} (hj : j < 2 ^ i * 2) : loV X (i + 1) j = loV X i j := by
  unfold loV
  split
  · rfl
  · rw [sb_no (bit_out (show j / 2 < 2 ^ i by omega) (Nat.le_refl _))]
theorem cellsU_congr {V U : Nat → Value} {n : Nat} (h : ∀ j, j < n → V j = U j) : cellsU V n = cellsU U n := by
  apply List.ext_getElem?
  intro j
  rw [cellsU_get, cellsU_get]
  by_cases hj : j < n
  · rw [if_pos hj, if_pos hj, h j hj]
  · rw [if_neg hj, if_neg hj]
theorem cellsU_two (V : Nat → Value) (m : Nat) : cellsU V (m * 2) ++ [V (m * 2), V (m * 2 + 1)] = cellsU V ((m + 1) * 2) := by
  unfold cellsU
  rw [show (m + 1) * 2 = m * 2 + 1 + 1 by omega, List.range_succ, List.range_succ, List.map_append, List.map_append, List.append_assoc]
  rfl
theorem info_choice : (Tryd.prog.info? 69).map (fun i => (i.zero, i.size, i.bytes)) = some (some (.agg #[.int .u32 0, .int .i64 0]), 2, 16) := by kernel_rfl
/-- a row of loads as a block -/
theorem row_ofL {w : World} {B n : Nat} {v : Value} {E : TypeId} {V : Nat → Value} (h : w.ownsRow B E 2 v n (cellsU V (n * 2))) (hn : 0 < n) :
    ∃ g c, v = .slice (some ⟨g, 0, none⟩) n c ∧ n ≤ c ∧ c ≤ maxLen ∧ B ≤ g ∧ g < w.heap.size ∧ ∀ j, j < n * 2 → w.cell? ⟨g, j, none⟩ = some (V j) := by
  obtain ⟨hl, h⟩ := h
  rcases h with ⟨rfl, rfl⟩ | ⟨g, cap, cur, rfl, hB, hh, hc, hm, hs, ht⟩
  · omega
  · obtain ⟨hlt, _⟩ := Array.getElem?_eq_some_iff.1 hh
    refine ⟨g, cap, rfl, hc, hm, hB, hlt, fun i hi => ?_⟩
    have e1 : cur[i]? = cur.toList[i]? := by simp
    have e2 : cur.toList[i]? = (cur.toList.take (n * 2))[i]? := by rw [List.getElem?_take_of_lt hi]
    rw [cell_of_row w g i cur _ _ hh, e1, e2, ht, cellsU_get, if_pos hi]

set_option maxHeartbeats 4000000 in
set_option maxRecDepth 100000 in
theorem loads_c (A : Option Addr) (n c : Nat) (X : Nat → Int) (w : World) (hn : n ≤ 10) (hall : allU X n = true) (h : Sl w A n 3 X) :
    Calls Tryd.prog 50 #[.slice A n c] w fun e w' => ∃ g c', e = .returned (.slice (some ⟨g, 0, none⟩) (2 ^ n) c') ∧ w.heap.size ≤ g ∧ g < w'.heap.size ∧ (∀ j, j < 2 ^ n * 2 → w'.cell? ⟨g, j, none⟩ = some (loV X n j)) ∧ Below w.heap.size w w' := by
  have HR := Lib.hid h
  have HAL := Lib.hid hall
  clear h hall
  obtain ⟨i0, hi0, hz0, hz1, hz2⟩ := info_partsU info_choice
  go_enter Tryd.func50, Tryd.ntmps50
  go_wp2_with fail
  go_loopw [12, 3] (fun s v wr => ∃ i : Nat, i ≤ n ∧ s = .int .i64 i ∧ Hid (wr.ownsRow w.heap.size 69 2 v (2 ^ i) (cellsU (loV X i) (2 ^ i * 2))) ∧ Below w.heap.size w wr) (fun s _ _ => n - (intOf s).toNat)
  case atStart => exact ⟨0, by omega, rfl, ⟨rfl, .inr ⟨w.heap.size, 1, _, rfl, Nat.le_refl _, Go.Deep.blk_alloc_new _ _, Nat.le_refl _, by unfold maxLen; omega, rfl, rfl⟩⟩, by go_grown⟩
  case round =>
    obtain ⟨i, hi, rfl, hown, hbl⟩ := hrel
    have hzz := hbl.size
    have HB := Lib.hid hbl
    clear hbl
    by_cases hlt : i < n
    · have hlt' : (i : Int) < (n : Int) := by omega
      obtain ⟨P, hP⟩ : ∃ P, 2 ^ i = P := ⟨_, rfl⟩
      have hP0 : 0 < P := by rw [← hP]; exact Nat.two_pow_pos i
      have hP512 : P ≤ 512 := by rw [← hP]; exact Nat.pow_le_pow_right (n := 2) (i := i) (j := 9) (by decide) (by omega)
      obtain ⟨g, c0, rfl, kc, mc, hBg, hgl, hcells⟩ := row_ofL hown.out (Nat.two_pow_pos i)
      have HC := Lib.hid (show ∀ j, j < P * 2 → _ = some (loV X (i + 1) j) from fun j hj => (hcells j (by rw [hP]; exact hj)).trans (by rw [loV_up X (by rw [hP]; exact hj)]))
      have hown2 : wr.ownsRow w.heap.size 69 2 (.slice (some ⟨g, 0, none⟩) P c0) P (cellsU (loV X (i + 1)) (P * 2)) := by
        have h := hown.out
        rw [cellsU_congr (fun j hj => (loV_up X hj).symm), hP] at h
        exact h
      have HOW := Lib.hid hown2
      have HP := Lib.hid hP
      rw [hP]
      clear hown hown2 hcells hP
      obtain ⟨b, o, rfl, hb, hX⟩ := (HR.out.below HB.out (Nat.le_refl _)) (by omega)
      have x0 := hX (i * 3) (by omega)
      have x1 := hX (i * 3 + 1) (by omega)
      have x2 := hX (i * 3 + 2) (by omega)
      simp only [← Nat.add_assoc] at x1 x2
      have hwb := allU_bd HAL.out hlt
      clear hX
      rename World => wo
      generalize X (i * 3) = y0 at *
      generalize X (i * 3 + 1) = y1 at *
      generalize hy2 : X (i * 3 + 2) = y2 at *
      have HY2 := Lib.hid hy2
      clear hy2
      go_wp2_with fail
      go_loopw [19, 3] (fun s v wr => ∃ (k g2 c2 : Nat), k ≤ P ∧ s = .int .i64 k ∧ v = .slice (some ⟨g2, 0, none⟩) (P + k) c2 ∧ Hid (wr.ownsRow w.heap.size 69 2 v (P + k) (cellsU (loV X (i + 1)) ((P + k) * 2))) ∧ Hid (∀ j, j < P * 2 → wr.cell? ⟨g, j, none⟩ = some (loV X (i + 1) j)) ∧ wr.cell? ⟨wo.heap.size, 2, none⟩ = some (.int .i64 y2) ∧ wo.heap.size < wr.heap.size ∧ g ≠ wo.heap.size ∧ (∀ q, v.ownBlock = some q → q ≠ wo.heap.size) ∧ Below w.heap.size w wr) (fun s _ _ => P - (intOf s).toNat)
      case atStart => exact ⟨0, g, c0, by omega, rfl, rfl, HOW.out.alloc _, fun j hj => (Below.cell (B := wo.heap.size) (p := ⟨g, j, none⟩) (by go_grown) hgl).trans (HC.out j hj), by go_simp, by simp, by omega, fun q hq => by simp [Value.ownBlock] at hq; omega, HB.out.alloc hzz _⟩
      case round =>
        obtain ⟨k, g2, c2, hk, rfl, rfl, HO2, HC2, xw, hwz, hgn, hqn, hb2⟩ := hrel
        have HB2 := Lib.hid hb2
        have zz2 := hb2.size
        have hqn2 : g2 ≠ wo.heap.size := hqn g2 rfl
        clear hb2 hqn
        by_cases hkp : k < P
        · have hkp' : (k : Int) < (P : Int) := by omega
          have hk0 : (0 : Int) ≤ (k : Int) := by omega
          have l0 := HC2.out (k * 2) (by omega)
          have l1 := HC2.out (k * 2 + 1) (by omega)
          rw [loV_0] at l0
          rw [loV_1] at l1
          have hsb := sb_bd (B := k) HAL.out (i + 1) (by omega)
          have hki : k < 2 ^ i := by have := HP.out; omega
          have e1 : k ||| 2 ^ i = P + k := by rw [add_or hki, HP.out]
          have e2 : sb X k (i + 1) + y2 = sb X (P + k) (i + 1) := by
            have h := sb_add (X := X) hki
            rw [HP.out] at h
            rw [h, sb_no (bit_out hki (Nat.le_refl _)), HY2.out]
          have hwc : ∀ W, Calls Tryd.prog 56 #[.agg #[.int .u32 (k : Nat), .int .i64 (sb X k (i + 1))], .int .i64 (i : Nat), .int .i64 y2] W fun e w' => e = .returned (.agg #[.int .u32 ((P + k : Nat) : Int), .int .i64 (sb X (P + k) (i + 1))]) ∧ Below W.heap.size W w' := fun W => by
            have h := with_c k i (sb X k (i + 1)) y2 W (by omega) (by omega) (by omega) (by omega) (by omega) (by omega)
            rw [e1, e2] at h
            exact h
          have HWC := Lib.hid hwc
          have HTW := Lib.hid (cellsU_two (loV X (i + 1)) (P + k))
          rw [loV_0, loV_1] at HTW
          clear hwc e1 e2 hki
          obtain ⟨pk, hpk⟩ : ∃ pk, P + k = pk := ⟨_, rfl⟩
          rw [hpk] at HWC HTW HO2 ⊢
          generalize sb X k (i + 1) = S0 at *
          generalize sb X pk (i + 1) = S1 at *
          have hpk2 : pk < 1024 := by omega
          have HPK := Lib.hid hpk
          clear hpk
          have x2' : ∀ W, Below wr.heap.size wr W → W.cell? ⟨wo.heap.size, 2, none⟩ = some (.int .i64 y2) := fun W hW => (hW.cell (p := ⟨wo.heap.size, 2, none⟩) hwz).trans xw
          have HX2 := Lib.hid x2'
          clear x2'
          go_wp2_with (first
            | (go_at_call 56; refine (HWC.out _).mono ?_; rintro e w3 ⟨rfl, hb3⟩
               have g5 : Below wr.heap.size wr w3 := Below.trans (by go_grown) (hb3.mono (by simp <;> omega))
               have z5 := g5.size
               have HO3 := Lib.hid (owns_belowL HO2.out g5 (Nat.le_refl _))
               have HC3 := Lib.hid (show ∀ j, j < P * 2 → w3.cell? ⟨g, j, none⟩ = some (loV X (i + 1) j) from fun j hj => (g5.cell (p := ⟨g, j, none⟩) (show g < wr.heap.size by omega)).trans (HC2.out j hj))
               have xw3 := (g5.cell (p := ⟨wo.heap.size, 2, none⟩) hwz).trans xw
               clear hb3)
            | (at_builtin; refine wpList_append_keeps rfl _ _ 70 rfl w.heap.size 69 i0 _ 2 16 Tryd.underlying70 hi0 hz0 hz1 hz2 rfl (by decide) _ _ _ rfl (HO3.out.alloc _) ⟨w3.heap.size, 0, none⟩ 1 1 [.int .u32 (pk : Nat), .int .i64 S1] rfl rfl ?c1 ?c2 ?c3 ?c4 ?c5 ?_))
          case c1 => intro j u hj; rcases j with _ | _ | j <;> simp at hj <;> subst hj <;> go_simp
          case c2 => intro u hu; simp at hu; rcases hu with rfl | rfl <;> rfl
          case c3 => unfold maxLen; omega
          case c4 => omega
          case c5 => simp; omega
          intro v4 w4 hown4 hgrow4 hat4 hkeep4
          have hb4 : Below w.heap.size w w4 := Below.grown ((HB2.out.trans (g5.mono zz2)).alloc (by omega) _) hgrow4 (by simp; omega) (owns_blockU HO3.out)
          have z4 := hgrow4.size
          simp at z4
          have hcell4 : ∀ q j, q < w3.heap.size → q ≠ g2 → w4.cell? ⟨q, j, none⟩ = w3.cell? ⟨q, j, none⟩ := fun q j hq hne => by
            have e := hgrow4.block q (by simp; omega) (by simp [Value.ownBlock]; exact hne)
            rw [World.cell?_of_block e]
            exact (Below.cell (B := w3.heap.size) (p := ⟨q, j, none⟩) (by go_grown) hq)
          have HC4 := Lib.hid (show ∀ j, j < P * 2 → w4.cell? ⟨g, j, none⟩ = some (loV X (i + 1) j) from fun j hj => by
            by_cases hgg : g = g2
            · subst hgg
              rw [hkeep4 g rfl j (by have := HPK.out; omega)]
              exact (Below.cell (B := w3.heap.size) (p := ⟨g, j, none⟩) (by go_grown) (show g < w3.heap.size by omega)).trans (HC3.out j hj)
            · rw [hcell4 g j (by omega) hgg]; exact HC3.out j hj)
          have xw4 : w4.cell? ⟨wo.heap.size, 2, none⟩ = some (.int .i64 y2) := (hcell4 wo.heap.size 2 (by omega) (fun e => hqn2 e.symm)).trans xw3
          have hown5 := owns_eqU (m := pk + 1) hown4 rfl HTW.out
          obtain ⟨g', c', rfl, _⟩ := row_ofL hown5 (by omega)
          have hqn4 : g' ≠ wo.heap.size := by
            rcases hat4 with h | h
            · have : g' = g2 := by simpa [Value.ownBlock] using h
              omega
            · have : g' = w3.heap.size + 1 := by simpa [Value.ownBlock] using h
              omega
          have HO5 := Lib.hid hown5
          have HB5 := Lib.hid hb4
          clear hown4 hown5 hgrow4 hat4 hkeep4 hcell4 hb4
          go_wp2
          go_roundw
          case rel => exact ⟨k + 1, g', c', by omega, by go_num, by have := HPK.out; congr 1; omega, owns_eqU HO5.out (by have := HPK.out; omega) (by have := HPK.out; rw [show P + (k + 1) = pk + 1 by omega]), HC4.out, xw4, by omega, hgn, fun q hq => by simp [Value.ownBlock] at hq; omega, HB5.out⟩
          case measure => simp [intOf]; omega
        · obtain rfl : k = P := by omega
          have HF := Lib.hid (show wr.ownsRow w.heap.size 69 2 (.slice (some ⟨g2, 0, none⟩) (k + k) c2) (2 ^ (i + 1)) (cellsU (loV X (i + 1)) (2 ^ (i + 1) * 2)) by
            rw [show 2 ^ (i + 1) = k + k by rw [Nat.pow_succ, HP.out]; omega]
            exact HO2.out)
          go_wp2
          go_roundw
          case rel => exact ⟨i + 1, by omega, by go_num, HF.out, HB2.out⟩
          case measure => simp [intOf]; omega
    · obtain rfl : i = n := by omega
      obtain ⟨g, c0, rfl, kc, mc, hBg, hgl, hcells⟩ := row_ofL hown.out (Nat.two_pow_pos i)
      have HC := Lib.hid hcells
      clear hcells hown
      go_wp2_with fail
      go_ret
      exact ⟨g, c0, rfl, hBg, hgl, HC.out, HB.out⟩

end Go.Proofs.YtlepgkmpbhlajaaDoor.rod
