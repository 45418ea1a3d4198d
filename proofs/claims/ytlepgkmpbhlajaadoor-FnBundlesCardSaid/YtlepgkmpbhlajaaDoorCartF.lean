/-
  Contracts of FitCart, of the model and of the program.
-/
import Derived.Test.YtlepgkmpbhlajaaDoorCartI
import Derived.Test.YtlepgkmpbhlajaaDoorBunch
namespace Go.Proofs.YtlepgkmpbhlajaaDoor.rod
open Go.ChangeShapes Go.WideShapes Go.ChangeAt Go.RowKit Go.Proofs.YtlepgkmpbhlajaaDoor.mem Go.Proofs.YtlepgkmpbhlajaaDoor.nums
set_option linter.unusedVariables false

theorem cart_i_no (A : Option Addr) (n c : Nat) (X : Nat → Int) (h code : Int) (w : World) (hn : n ≤ maxLen) (hr : Sl w A n 3 X) (hv : CartNo n X h code) :
    Calls Tryd.prog 13 #[.slice A n c, .int .i64 h] w fun e w' => ∃ A' c', e = .returned (.tuple #[.slice A' ([] : List Int).length c', .int .i64 0, .int .i64 code]) ∧ ([] : List Int).length ≤ c' ∧ c' ≤ maxLen ∧ Row w' w.heap.size w'.heap.size A' ([] : List Int).length 1 2 (fun j => ([] : List Int).getD j 0) ∧ Below w.heap.size w w' := by
  have HR := Lib.hid hr
  clear hr
  rcases hv with ⟨hv, rfl⟩ | ⟨hv, h1, rfl⟩ | ⟨hv, h1, h10, rfl⟩
  · go_enter Tryd.func13, Tryd.ntmps13
    go_wp2_with (first | (go_at_call 25; refine (validU_i A n c X _ hn HR.out).mono ?_; rintro e w1 ⟨rfl, b1⟩) | (go_at_call 36; refine (in_i _ _ _ _).mono ?_; rintro e w' ⟨rfl, rfl⟩))
    go_ret3
    exact ⟨none, 0, rfl, Nat.le_refl _, by unfold maxLen; omega, Row.none_, b1⟩
  · go_enter Tryd.func13, Tryd.ntmps13
    go_wp2_with (first | (go_at_call 25; refine (validU_i A n c X _ hn HR.out).mono ?_; rintro e w1 ⟨rfl, b1⟩) | (go_at_call 36; refine (in_i _ _ _ _).mono ?_; rintro e w' ⟨rfl, rfl⟩))
    go_ret3
    exact ⟨none, 0, rfl, Nat.le_refl _, by unfold maxLen; omega, Row.none_, b1⟩
  · have h10' : (10 : Int) < (n : Int) := by omega
    go_enter Tryd.func13, Tryd.ntmps13
    go_wp2_with (first | (go_at_call 25; refine (validU_i A n c X _ hn HR.out).mono ?_; rintro e w1 ⟨rfl, b1⟩) | (go_at_call 36; refine (in_i _ _ _ _).mono ?_; rintro e w' ⟨rfl, rfl⟩))
    go_ret3
    exact ⟨none, 0, rfl, Nat.le_refl _, by unfold maxLen; omega, Row.none_, b1⟩
theorem cart_s_no (A : Option Addr) (n c : Nat) (X : Nat → Int) (h code : Int) (w : World) (hn : n ≤ maxLen) (hr : Sl w A n 3 X) (hv : CartNo n X h code) :
    Calls Tryd.prog 14 #[.slice A n c, .int .i64 h] w fun e w' => ∃ A' c', e = .returned (.tuple #[.slice A' ([] : List Int).length c', .int .i64 0, .int .i64 code]) ∧ ([] : List Int).length ≤ c' ∧ c' ≤ maxLen ∧ Row w' w.heap.size w'.heap.size A' ([] : List Int).length 1 2 (fun j => ([] : List Int).getD j 0) ∧ Below w.heap.size w w' := by
  have HR := Lib.hid hr
  clear hr
  rcases hv with ⟨hv, rfl⟩ | ⟨hv, h1, rfl⟩ | ⟨hv, h1, h10, rfl⟩
  · go_enter Tryd.func14, Tryd.ntmps14
    go_wp2_with (first | (go_at_call 47; refine (okU_s A n c X _ hn HR.out).mono ?_; rintro e w1 ⟨rfl, m1, rfl⟩) | (go_at_call 38; refine (in_s _ _ _ _).mono ?_; rintro e w' ⟨rfl, rfl⟩))
    go_ret3
    exact ⟨none, 0, rfl, Nat.le_refl _, by unfold maxLen; omega, Row.none_, drewN_below (Below.refl _ _) _⟩
  · go_enter Tryd.func14, Tryd.ntmps14
    go_wp2_with (first | (go_at_call 47; refine (okU_s A n c X _ hn HR.out).mono ?_; rintro e w1 ⟨rfl, m1, rfl⟩) | (go_at_call 38; refine (in_s _ _ _ _).mono ?_; rintro e w' ⟨rfl, rfl⟩))
    go_ret3
    exact ⟨none, 0, rfl, Nat.le_refl _, by unfold maxLen; omega, Row.none_, drewN_below (Below.refl _ _) _⟩
  · have h10' : (10 : Int) < (n : Int) := by omega
    go_enter Tryd.func14, Tryd.ntmps14
    go_wp2_with (first | (go_at_call 47; refine (okU_s A n c X _ hn HR.out).mono ?_; rintro e w1 ⟨rfl, m1, rfl⟩) | (go_at_call 38; refine (in_s _ _ _ _).mono ?_; rintro e w' ⟨rfl, rfl⟩))
    go_ret3
    exact ⟨none, 0, rfl, Nat.le_refl _, by unfold maxLen; omega, Row.none_, drewN_below (Below.refl _ _) _⟩

def chC (p : Nat × Int) (i : Nat) : Value := if i = 0 then .int .u32 ((p.1 : Nat) : Int) else .int .i64 p.2

set_option maxHeartbeats 4000000 in
set_option maxRecDepth 100000 in
theorem cart_i (A : Option Addr) (n c : Nat) (X : Nat → Int) (h : Int) (w : World) (hr : Sl w A n 3 X) (hv : listU n X = true) (h1 : inB h 0 1000000 = true) (h10 : n ≤ 10) :
    Calls Tryd.prog 13 #[.slice A n c, .int .i64 h] w fun e w' => ∃ A' c', e = .returned (.tuple #[.slice A' (idxs (bstC X n h (2 ^ n)).1.testBit n).length c', .int .i64 (bstC X n h (2 ^ n)).2, .int .i64 0]) ∧ (idxs (bstC X n h (2 ^ n)).1.testBit n).length ≤ c' ∧ c' ≤ maxLen ∧ Row w' w.heap.size w'.heap.size A' (idxs (bstC X n h (2 ^ n)).1.testBit n).length 1 2 (fun j => (idxs (bstC X n h (2 ^ n)).1.testBit n).getD j 0) ∧ Below w.heap.size w w' := by
  obtain ⟨n30, hall⟩ := listU_of hv
  have hn : n ≤ maxLen := by unfold maxLen; omega
  have HV := Lib.hid hv
  have HAL := Lib.hid hall
  have HR := Lib.hid hr
  have h10' : ¬ (10 : Int) < (n : Int) := by omega
  obtain ⟨bh1, bh2⟩ := inB_of h1
  obtain ⟨P, hP⟩ : ∃ P, 2 ^ n = P := ⟨_, rfl⟩
  have hP1024 : P ≤ 1024 := by rw [← hP]; exact Nat.pow_le_pow_right (n := 2) (i := n) (j := 10) (by decide) h10
  have HP := Lib.hid hP
  rw [hP]
  clear hr hv hall hP
  go_enter Tryd.func13, Tryd.ntmps13
  go_wp2_with (first | (go_at_call 25; refine (validU_i A n c X _ hn HR.out).mono ?_; rintro e w1 ⟨rfl, b1⟩; rw [HV.out]) | (go_at_call 36; refine (in_i _ _ _ _).mono ?_; rintro e w' ⟨rfl, rfl⟩))
  have HW1 := Lib.hid (fun o => Below.alloc b1 b1.size o)
  refine (loads_c A n c X _ h10 HAL.out (HR.out.below (HW1.out _) (Nat.le_refl _))).mono ?_
  rintro e w2 ⟨g, cL, rfl, hg, hgl, hcells, hb2⟩
  have z1 := b1.size
  simp at hg
  have z2 := hb2.size
  simp at z2
  have OVX : Hid (OwnV w2 w1.heap.size 69 2 (chC (bstC X n h 0))) := by
    obtain ⟨hblk⟩ : Nonempty (w2.heap[w1.heap.size]? = _) := ⟨hb2.block w1.heap.size (by simp)⟩
    exact ⟨_, hblk.trans (Go.Deep.blk_alloc_new _ _), by simp, fun i hi => by match i, hi with | 0, _ => rfl | 1, _ => rfl⟩
  have g2 : Below w.heap.size w w2 := b1.trans (Below.trans (by go_grown) (hb2.mono (by simp; omega)))
  have HC := Lib.hid (show ∀ j, j < P * 2 → w2.cell? ⟨g, j, none⟩ = some (loV X n j) from fun j hj => hcells j (by rw [HP.out]; exact hj))
  have HG2 := Lib.hid g2
  have hcb : w1.heap.size < g := by omega
  rw [HP.out]
  clear hcells hb2 g2 b1
  generalize w1.heap.size = cb at *
  go_wp2_with fail
  go_loopw [22] (fun s wr => ∃ b : Nat, b ≤ P ∧ s = .int .i64 b ∧ Hid (OwnV wr cb 69 2 (chC (bstC X n h b))) ∧ Hid (∀ j, j < P * 2 → wr.cell? ⟨g, j, none⟩ = some (loV X n j)) ∧ g < wr.heap.size ∧ w.heap.size ≤ wr.heap.size ∧ Below w.heap.size w wr) (fun s _ => P - (intOf s).toNat)
  case atStart => exact ⟨0, Nat.zero_le _, rfl, OVX.out, HC.out, hgl, HG2.out.size, HG2.out⟩
  case round =>
    obtain ⟨b, hbP, rfl, HO, HC2, hgl2, hz, hbl⟩ := hrel
    have HBL := Lib.hid hbl
    have hcbl := HO.out.lt
    have hbd := bstC_bd (h := h) HAL.out b
    have hlt2 := bstC_lt (X := X) (h := h) (n := n) b (by rw [HP.out]; exact hbP)
    have c0 : wr.cell? ⟨cb, 0, none⟩ = some (.int .u32 ((bstC X n h b).1 : Nat)) := HO.out.cell (j := 0) (by omega)
    have c1 : wr.cell? ⟨cb, 1, none⟩ = some (.int .i64 (bstC X n h b).2) := HO.out.cell (j := 1) (by omega)
    have f0 := HO.out.frozen 0
    have f1 := HO.out.frozen 1
    clear hbl
    by_cases hbp : b < P
    · have hlt' : (b : Int) < (P : Int) := by omega
      have hb0 : (0 : Int) ≤ (b : Int) := by omega
      have l0 := HC2.out (b * 2) (by omega)
      have l1 := HC2.out (b * 2 + 1) (by omega)
      rw [loV_0] at l0
      rw [loV_1] at l1
      have hsb := sb_bd (B := b) HAL.out n (Nat.le_refl _)
      have hbn : b < 2 ^ n := by rw [HP.out]; exact hbp
      have hbt : ∀ W, Calls Tryd.prog 51 #[.agg #[.int .u32 (b : Nat), .int .i64 (sb X b n)], .agg #[.int .u32 ((bstC X n h b).1 : Nat), .int .i64 (bstC X n h b).2]] W fun e w' => e = .returned (.bool (if sb X b n = (bstC X n h b).2 then befB n b (bstC X n h b).1 else decide ((bstC X n h b).2 < sb X b n))) ∧ Below W.heap.size W w' := fun W => isBetter_c n b (bstC X n h b).1 (sb X b n) (bstC X n h b).2 W (by omega) hbn hlt2
      have HBT := Lib.hid hbt
      clear hbt
      cases hc : btC X n h b (bstC X n h b)
      · have HE := Lib.hid (bstC_old hc)
        unfold btC at hc
        by_cases hle : sb X b n ≤ h
        · have hdl : decide (sb X b n ≤ h) = true := decide_eq_true hle
          rw [hdl, Bool.true_and] at hc
          rw [hc] at HBT
          generalize hS : sb X b n = S at *
          generalize hB1 : (bstC X n h b).1 = B1 at *
          generalize hB2 : (bstC X n h b).2 = B2 at *
          clear hc hS hB1 hB2
          go_wp2_with (go_at_call 51; refine (HBT.out _).mono ?_; rintro e w3 ⟨rfl, hb3⟩)
          have g5 : Below wr.heap.size wr w3 := Below.trans (by go_grown) (hb3.mono (by simp <;> omega))
          have HB5 := Lib.hid g5
          clear hb3 g5
          go_roundw
          case rel => exact ⟨b + 1, by omega, by go_num, by rw [HE.out]; exact HO.out.below HB5.out hcbl, fun j hj => (HB5.out.cell (p := ⟨g, j, none⟩) hgl2).trans (HC2.out j hj), by have := HB5.out.size; omega, by have := HB5.out.size; omega, HBL.out.trans (HB5.out.mono hz)⟩
          case measure => simp [intOf]; omega
        · have hdl : decide (sb X b n ≤ h) = false := decide_eq_false hle
          generalize hS : sb X b n = S at *
          clear hc hS
          go_wp2_with fail
          go_roundw
          case rel => exact ⟨b + 1, by omega, by go_num, by rw [HE.out]; exact HO.out.below (K := wr.heap.size) (by go_grown) hcbl, fun j hj => (Below.cell (B := wr.heap.size) (p := ⟨g, j, none⟩) (by go_grown) hgl2).trans (HC2.out j hj), by simp; omega, by simp; omega, HBL.out.alloc hz _⟩
          case measure => simp [intOf]; omega
      · have HE := Lib.hid (bstC_new hc)
        unfold btC at hc
        simp only [Bool.and_eq_true] at hc
        obtain ⟨hdl, hc⟩ := hc
        have hle : sb X b n ≤ h := of_decide_eq_true hdl
        rw [hc] at HBT
        generalize hS : sb X b n = S at *
        generalize hB1 : (bstC X n h b).1 = B1 at *
        generalize hB2 : (bstC X n h b).2 = B2 at *
        clear hc hS hB1 hB2
        go_wp2_with (go_at_call 51; refine (HBT.out _).mono ?_; rintro e w3 ⟨rfl, hb3⟩
                     have g5 : Below wr.heap.size wr w3 := Below.trans (by go_grown) (hb3.mono (by simp <;> omega))
                     have O3 := HO.out.below g5 hcbl
                     have x0 := O3.cell (j := 0) (by omega)
                     have x1 := O3.cell (j := 1) (by omega)
                     have xf0 := O3.frozen 0
                     have xf1 := O3.frozen 1
                     have y0 : w3.cell? ⟨wr.heap.size, 0, none⟩ = some (.int .u32 (b : Nat)) := by rw [(bcell hb3).1 _ _ (by simp)]; go_simp
                     have y1 : w3.cell? ⟨wr.heap.size, 1, none⟩ = some (.int .i64 S) := by rw [(bcell hb3).1 _ _ (by simp)]; go_simp
                     have HO3 := Lib.hid O3
                     clear hb3 O3)
        have hO4 := ((HO3.out.set 0 (.int .u32 (b : Nat))).set 1 (.int .i64 S)).congr (U := chC (b, S)) (fun i hi => by match i, hi with | 0, _ => rfl | 1, _ => rfl)
        have hW4 : WroteIn w3 ((w3.setCell ⟨cb, 0, none⟩ (.int .u32 (b : Nat))).setCell ⟨cb, 1, none⟩ (.int .i64 S)) cb (cb + 1) := ((WroteIn.refl _ _ _).set (Nat.le_refl _) (Nat.lt_succ_self _) _).set (Nat.le_refl _) (Nat.lt_succ_self _) _
        have hcg : ∀ j, j < P * 2 → ((w3.setCell ⟨cb, 0, none⟩ (.int .u32 (b : Nat))).setCell ⟨cb, 1, none⟩ (.int .i64 S)).cell? ⟨g, j, none⟩ = some (loV X n j) := fun j hj => (hW4.cell (b := g) (o := j) (by have := g5.size; omega) (by omega)).trans ((g5.cell (p := ⟨g, j, none⟩) hgl2).trans (HC2.out j hj))
        have hB4 := (HBL.out.trans (g5.mono hz)).trans (hW4.below (B := w.heap.size) (Nat.le_trans hz g5.size) (show w.heap.size ≤ cb by omega))
        have z5 := g5.size
        have HO4 := Lib.hid hO4
        have HC4 := Lib.hid hcg
        have HB4 := Lib.hid hB4
        clear hO4 hW4 hcg hB4 g5
        go_wp2_with fail
        go_roundw
        case rel => exact ⟨b + 1, by omega, by go_num, by rw [HE.out]; exact HO4.out, HC4.out, by simp; omega, by simp; omega, HB4.out⟩
        case measure => simp [intOf]; omega
    · obtain rfl : b = P := by omega
      have HNU := Lib.hid (fun W => numbers_i (bstC X n h b).1 n W (by omega) hlt2)
      generalize hB1 : (bstC X n h b).1 = B1 at *
      generalize hB2 : (bstC X n h b).2 = B2 at *
      have HB1 := Lib.hid hB1
      have HB2 := Lib.hid hB2
      clear hB1 hB2
      go_wp2_with fail
      go_region_held3 (fun x => x.cell? ⟨cb, 0, none⟩ = some (.int .u32 (B1 : Nat)) ∧ x.cell? ⟨cb, 1, none⟩ = some (.int .i64 B2)) (first | exact ⟨c0, c1⟩ | go_keep)
        (first | (go_at_call 52; refine (HNU.out _).mono ?_; rintro e w3 ⟨A3, c3, rfl, k3, m3, hr3, hb3⟩
                  have g5 : Below wr.heap.size wr w3 := Below.trans (Below.drew (Below.refl _ _)) (hb3.mono (by simp))
                  replace c0 := (g5.cell (p := ⟨cb, 0, none⟩) hcbl).trans c0
                  replace c1 := (g5.cell (p := ⟨cb, 1, none⟩) hcbl).trans c1))
      have HR3 := Lib.hid (hr3.wide (lo' := w.heap.size) (hi' := w3.heap.size) (by simpa using hz) (Nat.le_refl _))
      have HB3 := Lib.hid (HBL.out.trans (g5.mono hz))
      clear hr3 hb3 g5
      go_wp2
      go_ret3
      rw [HB1.out, HB2.out]
      exact ⟨A3, c3, rfl, k3, m3, HR3.out, HB3.out⟩

end Go.Proofs.YtlepgkmpbhlajaaDoor.rod
