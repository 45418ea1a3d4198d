/-
  The walk of the law on bundles.
-/
import Derived.Test.YtlepgkmpbhlajaaDoorBpq
import Derived.Test.YtlepgkmpbhlajaaDoorDrwU
namespace Go.Proofs.YtlepgkmpbhlajaaDoor.src
open Go.ChangeShapes Go.WideShapes Go.ChangeAt Go.RowKit Go.Proofs.YtlepgkmpbhlajaaDoor.mem Go.Proofs.YtlepgkmpbhlajaaDoor.rod Go.Proofs.YtlepgkmpbhlajaaDoor.bq Go.Proofs.YtlepgkmpbhlajaaDoor.dec
set_option linter.unusedVariables false

theorem below_drew {K : Nat} {a b c : World} (h : Below K a b) (d : Drew b c) : Below K a c := by obtain ⟨m, rfl⟩ := d; exact drewN_below h m
theorem rods_ok (g t : Int) (g1 : 10 ≤ g) (g2 : g ≤ 2000) (t1 : 1 ≤ t) (t2 : t ≤ 300) (W : World) :
    Calls Tryd.prog 28 #[.int .i64 g, .int .i64 t] W fun e w' => e = .returned (.tuple #[.int .i64 (rin g t), .int .i64 0]) ∧ Below W.heap.size W w' := by
  have h := rodsIn_i g t W
  have e : rodsIn g t = (rin g t, 0) := by
    unfold rodsIn
    rw [inB_yes (by omega) (by omega), inB_yes (by omega) (by omega)]
    rfl
  rw [e] at h
  exact h
theorem eqU_self (Z : Nat → Int) : ∀ n, eqU Z Z n = true
  | 0 => rfl
  | n + 1 => by unfold eqU; rw [eqU_self Z n]; unfold eqAU; simp
set_option maxHeartbeats 1000000 in
theorem f6bigB_c (A : Option Addr) (n c : Nat) (w : World) (hn : n ≤ 4096) :
    Calls Tryd.prog 5 #[.slice A n c] w fun e w' => e = .returned (.bool false) ∧ w = w' := by
  have h1 : ¬ (4096 : Int) < (n : Int) := by omega
  go_enter Tryd.func5, Tryd.ntmps5
  go_wp2
  go_ret
  exact ⟨rfl, rfl⟩
set_option maxHeartbeats 1000000 in
theorem f6bigB_no (A : Option Addr) (n c : Nat) (w : World) (hn : 4096 < n) :
    Calls Tryd.prog 5 #[.slice A n c] w fun e w' => e = .returned (.bool true) ∧ w' = w := by
  have h1 : (4096 : Int) < (n : Int) := by omega
  go_enter Tryd.func5, Tryd.ntmps5
  go_wp2
  go_ret
  exact ⟨rfl, rfl⟩

set_option maxHeartbeats 16000000 in
set_option maxRecDepth 100000 in
theorem bundles_walk (A : Option Addr) (n c : Nat) (X : Nat → Int) (w : World) (hn : n ≤ 4096) (hx : Sb w A n X) (ht : Tab w) :
    Calls Tryd.prog 3 #[.slice A n c] w fun e w' => e = .returned (.bool true) ∧ Below w.heap.size w w' := by
  have HX := Lib.hid hx
  have B0 := Lib.hid (Below.refl w.heap.size w)
  have T0 := Lib.hid ht
  clear hx ht
  go_enter Tryd.func3, Tryd.ntmps3
  go_wp2_with fail
  refine (f6bigB_c A n c _ hn).mono ?_
  rintro e w' ⟨rfl, rfl⟩
  go_wp2_with fail
  refine (girthForD_c A n c X _ hn (HX.out.below B0.out (Nat.le_refl _))).mono ?_
  rintro e w1 ⟨r, t, rfl, hb⟩
  have z1 := hb.size
  have B1 := Lib.hid (B0.out.trans (hb.mono B0.out.size))
  have T1 := Lib.hid (tab_below T0.out hb)
  clear B0 T0 hb z1 
  obtain ⟨v, cg, hgi, hgs, hG⟩ := girth_any r t
  have HG := Lib.hid hG
  have HGI := Lib.hid hgi
  have HGS := Lib.hid hgs
  clear hG hgi hgs
  go_wp2_with fail
  refine (HGI.out _).mono ?_
  rintro e w2 ⟨rfl, hb⟩
  have z2 := hb.size
  have B2 := Lib.hid (B1.out.trans (hb.mono B1.out.size))
  have T2 := Lib.hid (tab_below T1.out hb)
  clear B1 T1 hb z2 HGI
  go_wp2_with fail
  refine (HGS.out _).mono ?_
  rintro e w3 ⟨rfl, hb⟩
  have z3 := hb.size
  have B3 := Lib.hid (B2.out.trans (hb.mono B2.out.size))
  have T3 := Lib.hid (tab_below T2.out hb)
  clear B2 T2 hb z3 HGS
  go_wp2_with fail
  refine (sortD_c A n c X _ hn (HX.out.below B3.out (Nat.le_refl _))).mono ?_
  rintro e w4 ⟨P, k, d, Y, rfl, k31, kd, dm, hr, hb⟩
  have z4 := hb.size
  have B4 := Lib.hid (B3.out.trans (hb.mono B3.out.size))
  have T4 := Lib.hid (tab_below T3.out hb)
  have SP := Lib.hid (show Sl w4 P k 3 Y from hr.sl)
  clear B3 T3 hb z4 hr kd dm
  obtain ⟨m, Z, cs, hsi, hss, m31, hso⟩ := sort_any P k d Y k31
  have HSI := Lib.hid hsi
  have HSS := Lib.hid hss
  have HSO := Lib.hid hso
  clear hsi hss hso
  go_wp2_with fail
  refine (HSI.out _ SP.out).mono ?_
  rintro e w5 ⟨A5, c5, rfl, j1, j2, hr, hb⟩
  have z5 := hb.size
  replace SP := Lib.hid (Sl.below SP.out hb (Nat.le_refl _))
  have B5 := Lib.hid (B4.out.trans (hb.mono B4.out.size))
  have T5 := Lib.hid (tab_below T4.out hb)
  have S5 := Lib.hid (show Sl w5 A5 m 3 Z from hr.sl)
  clear B4 T4 hb z5 hr j1 j2 HSI
  go_wp2_with fail
  refine (HSS.out _ SP.out).mono ?_
  rintro e w6 ⟨A6, c6, rfl, j1, j2, hr, hb⟩
  have z6 := hb.size
  replace SP := Lib.hid (Sl.below SP.out hb (Nat.le_refl _))
  replace S5 := Lib.hid (Sl.below S5.out hb (Nat.le_refl _))
  have B6 := Lib.hid (B5.out.trans (hb.mono B5.out.size))
  have T6 := Lib.hid (tab_below T5.out hb)
  have S6 := Lib.hid (show Sl w6 A6 m 3 Z from hr.sl)
  clear B5 T5 hb z6 hr j1 j2 HSS
  go_wp2_with fail
  refine (cartD_c A n c X _ hn (HX.out.below B6.out (Nat.le_refl _))).mono ?_
  rintro e w7 ⟨P7, k7, d7, Y7, h7, rfl, k731, j1, j2, hr, hb⟩
  have z7 := hb.size
  replace SP := Lib.hid (Sl.below SP.out hb (Nat.le_refl _))
  replace S5 := Lib.hid (Sl.below S5.out hb (Nat.le_refl _))
  replace S6 := Lib.hid (Sl.below S6.out hb (Nat.le_refl _))
  have B7 := Lib.hid (B6.out.trans (hb.mono B6.out.size))
  have T7 := Lib.hid (tab_below T6.out hb)
  have S7 := Lib.hid (show Sl w7 P7 k7 3 Y7 from hr.sl)
  clear B6 T6 hb z7 hr j1 j2
  obtain ⟨l, L, s, cc, hci, hcs, l31, hC⟩ := cart_any P7 k7 d7 Y7 h7 k731
  have HCI := Lib.hid hci
  have HCS := Lib.hid hcs
  have HC := Lib.hid hC
  clear hci hcs hC
  go_wp2_with fail
  refine (HCI.out _ S7.out).mono ?_
  rintro e w8 ⟨A8, c8, rfl, j1, j2, hr, hb⟩
  have z8 := hb.size
  replace SP := Lib.hid (Sl.below SP.out hb (Nat.le_refl _))
  replace S5 := Lib.hid (Sl.below S5.out hb (Nat.le_refl _))
  replace S6 := Lib.hid (Sl.below S6.out hb (Nat.le_refl _))
  replace S7 := Lib.hid (Sl.below S7.out hb (Nat.le_refl _))
  have B8 := Lib.hid (B7.out.trans (hb.mono B7.out.size))
  have T8 := Lib.hid (tab_below T7.out hb)
  have S8 := Lib.hid (show Sl w8 A8 l 1 L from hr.sl)
  clear B7 T7 hb z8 hr j1 j2 HCI
  go_wp2_with fail
  refine (HCS.out _ S7.out).mono ?_
  rintro e w9 ⟨A9, c9, rfl, j1, j2, hr, hb⟩
  have z9 := hb.size
  replace SP := Lib.hid (Sl.below SP.out hb (Nat.le_refl _))
  replace S5 := Lib.hid (Sl.below S5.out hb (Nat.le_refl _))
  replace S6 := Lib.hid (Sl.below S6.out hb (Nat.le_refl _))
  replace S7 := Lib.hid (Sl.below S7.out hb (Nat.le_refl _))
  replace S8 := Lib.hid (Sl.below S8.out hb (Nat.le_refl _))
  have B9 := Lib.hid (B8.out.trans (hb.mono B8.out.size))
  have T9 := Lib.hid (tab_below T8.out hb)
  have S9 := Lib.hid (show Sl w9 A9 l 1 L from hr.sl)
  clear B8 T8 hb z9 hr j1 j2 HCS
  go_wp2_with fail
  refine (fewD_c A n c X _ hn (HX.out.below B9.out (Nat.le_refl _))).mono ?_
  rintro e w10 ⟨P10, k10, d10, Y10, h10, rfl, k1031, j1, j2, hr, hb⟩
  have z10 := hb.size
  replace SP := Lib.hid (Sl.below SP.out hb (Nat.le_refl _))
  replace S5 := Lib.hid (Sl.below S5.out hb (Nat.le_refl _))
  replace S6 := Lib.hid (Sl.below S6.out hb (Nat.le_refl _))
  replace S7 := Lib.hid (Sl.below S7.out hb (Nat.le_refl _))
  replace S8 := Lib.hid (Sl.below S8.out hb (Nat.le_refl _))
  replace S9 := Lib.hid (Sl.below S9.out hb (Nat.le_refl _))
  have B10 := Lib.hid (B9.out.trans (hb.mono B9.out.size))
  have T10 := Lib.hid (tab_below T9.out hb)
  have S10 := Lib.hid (show Sl w10 P10 k10 3 Y10 from hr.sl)
  clear B9 T9 hb z10 hr j1 j2
  obtain ⟨p, M, cf, hfi, hfs, p31, hF⟩ := few_any P10 k10 d10 Y10 h10 k1031
  have HFI := Lib.hid hfi
  have HFS := Lib.hid hfs
  have HF := Lib.hid hF
  clear hfi hfs hF
  go_wp2_with fail
  refine (HFI.out _ S10.out).mono ?_
  rintro e w11 ⟨A11, c11, rfl, j1, j2, hr, hb⟩
  have z11 := hb.size
  replace SP := Lib.hid (Sl.below SP.out hb (Nat.le_refl _))
  replace S5 := Lib.hid (Sl.below S5.out hb (Nat.le_refl _))
  replace S6 := Lib.hid (Sl.below S6.out hb (Nat.le_refl _))
  replace S7 := Lib.hid (Sl.below S7.out hb (Nat.le_refl _))
  replace S8 := Lib.hid (Sl.below S8.out hb (Nat.le_refl _))
  replace S9 := Lib.hid (Sl.below S9.out hb (Nat.le_refl _))
  replace S10 := Lib.hid (Sl.below S10.out hb (Nat.le_refl _))
  have B11 := Lib.hid (B10.out.trans (hb.mono B10.out.size))
  have T11 := Lib.hid (tab_below T10.out hb)
  have S11 := Lib.hid (show Sl w11 A11 p 1 M from hr.sl)
  clear B10 T10 hb z11 hr j1 j2 HFI
  go_wp2_with fail
  refine (HFS.out _ S10.out).mono ?_
  rintro e w12 ⟨A12, c12, rfl, j1, j2, hr, hb⟩
  have z12 := hb.size
  replace SP := Lib.hid (Sl.below SP.out hb (Nat.le_refl _))
  replace S5 := Lib.hid (Sl.below S5.out hb (Nat.le_refl _))
  replace S6 := Lib.hid (Sl.below S6.out hb (Nat.le_refl _))
  replace S7 := Lib.hid (Sl.below S7.out hb (Nat.le_refl _))
  replace S8 := Lib.hid (Sl.below S8.out hb (Nat.le_refl _))
  replace S9 := Lib.hid (Sl.below S9.out hb (Nat.le_refl _))
  replace S10 := Lib.hid (Sl.below S10.out hb (Nat.le_refl _))
  replace S11 := Lib.hid (Sl.below S11.out hb (Nat.le_refl _))
  have B12 := Lib.hid (B11.out.trans (hb.mono B11.out.size))
  have T12 := Lib.hid (tab_below T11.out hb)
  have S12 := Lib.hid (show Sl w12 A12 p 1 M from hr.sl)
  clear B11 T11 hb z12 hr j1 j2 HFS
  go_wp2_with fail
  refine (sameD_c A n c X _ hn (HX.out.below B12.out (Nat.le_refl _))).mono ?_
  rintro e w13 ⟨P13, k13, d13, Y13, P14, k14, d14, Y14, rfl, k1331, j1, j2, k1432, j3, j4, hr, hr2, hb⟩
  have z13 := hb.size
  replace SP := Lib.hid (Sl.below SP.out hb (Nat.le_refl _))
  replace S5 := Lib.hid (Sl.below S5.out hb (Nat.le_refl _))
  replace S6 := Lib.hid (Sl.below S6.out hb (Nat.le_refl _))
  replace S7 := Lib.hid (Sl.below S7.out hb (Nat.le_refl _))
  replace S8 := Lib.hid (Sl.below S8.out hb (Nat.le_refl _))
  replace S9 := Lib.hid (Sl.below S9.out hb (Nat.le_refl _))
  replace S10 := Lib.hid (Sl.below S10.out hb (Nat.le_refl _))
  replace S11 := Lib.hid (Sl.below S11.out hb (Nat.le_refl _))
  replace S12 := Lib.hid (Sl.below S12.out hb (Nat.le_refl _))
  have B13 := Lib.hid (B12.out.trans (hb.mono B12.out.size))
  have T13 := Lib.hid (tab_below T12.out hb)
  have S13 := Lib.hid (show Sl w13 P13 k13 3 Y13 from hr.sl)
  have S14 := Lib.hid (show Sl w13 P14 k14 3 Y14 from hr2.sl)
  clear B12 T12 hb z13 hr hr2 j1 j2 j3 j4
  go_wp2_with fail
  refine (textD_c A n c X _ hn (HX.out.below B13.out (Nat.le_refl _))).mono ?_
  rintro e w14 ⟨tL, tG, tW, rfl, hb⟩
  have z14 := hb.size
  replace SP := Lib.hid (Sl.below SP.out hb (Nat.le_refl _))
  replace S5 := Lib.hid (Sl.below S5.out hb (Nat.le_refl _))
  replace S6 := Lib.hid (Sl.below S6.out hb (Nat.le_refl _))
  replace S7 := Lib.hid (Sl.below S7.out hb (Nat.le_refl _))
  replace S8 := Lib.hid (Sl.below S8.out hb (Nat.le_refl _))
  replace S9 := Lib.hid (Sl.below S9.out hb (Nat.le_refl _))
  replace S10 := Lib.hid (Sl.below S10.out hb (Nat.le_refl _))
  replace S11 := Lib.hid (Sl.below S11.out hb (Nat.le_refl _))
  replace S12 := Lib.hid (Sl.below S12.out hb (Nat.le_refl _))
  replace S13 := Lib.hid (Sl.below S13.out hb (Nat.le_refl _))
  replace S14 := Lib.hid (Sl.below S14.out hb (Nat.le_refl _))
  have B14 := Lib.hid (B13.out.trans (hb.mono B13.out.size))
  have T14 := Lib.hid (tab_below T13.out hb)
  clear B13 T13 hb z14 
  obtain ⟨W, hW⟩ : ∃ W, W = w14.alloc (.cells #[.int .i64 tL, .int .i64 tG, .int .i64 tW] 40) := ⟨_, rfl⟩
  have hb : Below w14.heap.size w14 W := by rw [hW]; exact (Below.refl _ _).alloc (Nat.le_refl _) _
  obtain ⟨gt, hgt⟩ : ∃ gt, gt = w14.heap.size := ⟨_, rfl⟩
  have CT := Lib.hid (show W.cell? ⟨gt, 0, none⟩ = some (.int .i64 tL) ∧ W.cell? ⟨gt, 1, none⟩ = some (.int .i64 tG) ∧ W.cell? ⟨gt, 2, none⟩ = some (.int .i64 tW) from by rw [hW, hgt]; exact ⟨by go_simp, by go_simp, by go_simp⟩)
  have hgW : gt < W.heap.size := by rw [hW, hgt]; simp
  have z15 := hb.size
  replace SP := Lib.hid (Sl.below SP.out hb (Nat.le_refl _))
  replace S5 := Lib.hid (Sl.below S5.out hb (Nat.le_refl _))
  replace S6 := Lib.hid (Sl.below S6.out hb (Nat.le_refl _))
  replace S7 := Lib.hid (Sl.below S7.out hb (Nat.le_refl _))
  replace S8 := Lib.hid (Sl.below S8.out hb (Nat.le_refl _))
  replace S9 := Lib.hid (Sl.below S9.out hb (Nat.le_refl _))
  replace S10 := Lib.hid (Sl.below S10.out hb (Nat.le_refl _))
  replace S11 := Lib.hid (Sl.below S11.out hb (Nat.le_refl _))
  replace S12 := Lib.hid (Sl.below S12.out hb (Nat.le_refl _))
  replace S13 := Lib.hid (Sl.below S13.out hb (Nat.le_refl _))
  replace S14 := Lib.hid (Sl.below S14.out hb (Nat.le_refl _))
  have BW := Lib.hid (B14.out.trans (hb.mono B14.out.size))
  have TW := Lib.hid (tab_below T14.out hb)
  clear B14 T14 hb z15
  obtain ⟨tx, hti, hts⟩ := text_any tL tG tW
  have HTI := Lib.hid hti
  have HTS := Lib.hid hts
  clear hti hts
  have hsame : sameU m m Z Z = true := by
    rw [sameU_eq]
    exact eqU_self Z m
  have HSX := Lib.hid (fun W2 (h5 : Sl W2 A5 m 3 Z) (h6 : Sl W2 A6 m 3 Z) => sameU_s A5 A6 m m c5 c6 Z Z W2 (by unfold maxLen; omega) (by unfold maxLen; omega) h5 h6)
  rw [hsame] at HSX
  have HSY := Lib.hid (fun W2 (h5 : Sl W2 P13 k13 3 Y13) (h6 : Sl W2 P14 k14 3 Y14) => sameU_i P13 P14 k13 k14 d13 d14 Y13 Y14 W2 (by unfold maxLen; omega) (by unfold maxLen; omega) h5 h6)
  have HSZ := Lib.hid (fun W2 (h5 : Sl W2 P13 k13 3 Y13) (h6 : Sl W2 P14 k14 3 Y14) => sameU_s P13 P14 k13 k14 d13 d14 Y13 Y14 W2 (by unfold maxLen; omega) (by unfold maxLen; omega) h5 h6)
  generalize sameU k13 k14 Y13 Y14 = sb13 at HSY HSZ
  have HVI := Lib.hid (fun W2 (h5 : Sl W2 P k 3 Y) => validU_i P k d Y W2 (by unfold maxLen; omega) h5)
  have HVS := Lib.hid (fun W2 (h5 : Sl W2 P k 3 Y) => validU_s P k d Y W2 (by unfold maxLen; omega) h5)
  generalize listU k Y = vb at HVI HVS
  clear hsame
  go_wp2_with fail
  rw [← hW]
  simp only [← hgt]
  clear hW hgt
  dsimp only [List.append]
  have hd : Below W.heap.size W W.drew := (Below.refl _ W).drew
  have SP_0 := Lib.hid (Sl.below SP.out hd (Nat.le_refl _))
  have S5_0 := Lib.hid (Sl.below S5.out hd (Nat.le_refl _))
  have S6_0 := Lib.hid (Sl.below S6.out hd (Nat.le_refl _))
  have S7_0 := Lib.hid (Sl.below S7.out hd (Nat.le_refl _))
  have S8_0 := Lib.hid (Sl.below S8.out hd (Nat.le_refl _))
  have S9_0 := Lib.hid (Sl.below S9.out hd (Nat.le_refl _))
  have S10_0 := Lib.hid (Sl.below S10.out hd (Nat.le_refl _))
  have S11_0 := Lib.hid (Sl.below S11.out hd (Nat.le_refl _))
  have S12_0 := Lib.hid (Sl.below S12.out hd (Nat.le_refl _))
  have S13_0 := Lib.hid (Sl.below S13.out hd (Nat.le_refl _))
  have S14_0 := Lib.hid (Sl.below S14.out hd (Nat.le_refl _))
  have T_0 := Lib.hid (tab_below TW.out hd)
  have B_0 := Lib.hid (BW.out.trans (hd.mono BW.out.size))
  obtain ⟨t0_0, t1_0, t2_0⟩ : W.drew.cell? ⟨gt, 0, none⟩ = some (.int .i64 tL) ∧ W.drew.cell? ⟨gt, 1, none⟩ = some (.int .i64 tG) ∧ W.drew.cell? ⟨gt, 2, none⟩ = some (.int .i64 tW) := CT.out
  have hg_0 : gt < W.drew.heap.size := hgW
  clear hd TW BW CT SP S5 S6 S7 S8 S9 S10 S11 S12 S13 S14
  go_region_held3 (fun x => x.cell? ⟨gt, 0, none⟩ = some (.int .i64 tL) ∧ x.cell? ⟨gt, 1, none⟩ = some (.int .i64 tG) ∧ x.cell? ⟨gt, 2, none⟩ = some (.int .i64 tW)) (first | exact ⟨t0_0, t1_0, t2_0⟩ | exact ⟨t0_1, t1_1, t2_1⟩ | exact ⟨t0_2, t1_2, t2_2⟩ | exact ⟨t0_3, t1_3, t2_3⟩ | exact ⟨t0_4, t1_4, t2_4⟩ | exact ⟨t0_5, t1_5, t2_5⟩ | exact ⟨t0_6, t1_6, t2_6⟩ | exact ⟨t0_7, t1_7, t2_7⟩ | exact ⟨t0_8, t1_8, t2_8⟩ | exact ⟨t0_9, t1_9, t2_9⟩ | go_keep)
    (first
      | (go_at_call_of 20 (Value.slice A5 m c5); refine (HSX.out _ S5_0.out S6_0.out).mono ?_; rintro e v1 ⟨rfl, hb⟩
         have SP_1 := Lib.hid (Sl.below SP_0.out hb (Nat.le_refl _))
         have S6_1 := Lib.hid (Sl.below S6_0.out hb (Nat.le_refl _))
         have S7_1 := Lib.hid (Sl.below S7_0.out hb (Nat.le_refl _))
         have S8_1 := Lib.hid (Sl.below S8_0.out hb (Nat.le_refl _))
         have S9_1 := Lib.hid (Sl.below S9_0.out hb (Nat.le_refl _))
         have S10_1 := Lib.hid (Sl.below S10_0.out hb (Nat.le_refl _))
         have S11_1 := Lib.hid (Sl.below S11_0.out hb (Nat.le_refl _))
         have S12_1 := Lib.hid (Sl.below S12_0.out hb (Nat.le_refl _))
         have S13_1 := Lib.hid (Sl.below S13_0.out hb (Nat.le_refl _))
         have S14_1 := Lib.hid (Sl.below S14_0.out hb (Nat.le_refl _))
         have T_1 := Lib.hid (tab_below T_0.out hb)
         have B_1 := Lib.hid (B_0.out.trans (hb.mono B_0.out.size))
         have hg_1 : gt < v1.heap.size := Nat.lt_of_lt_of_le hg_0 hb.size
         have t0_1 := ((bcell hb).1 gt 0 hg_0).trans t0_0
         have t1_1 := ((bcell hb).1 gt 1 hg_0).trans t1_0
         have t2_1 := ((bcell hb).1 gt 2 hg_0).trans t2_0
         clear hb)
      | (go_at_call_of 21 (Value.slice A8 l c8); refine (f6ints_c A8 A9 l c8 c9 L _ (by omega) S8_1.out S9_1.out).mono ?_; rintro e v2 ⟨rfl, hb⟩
         have SP_2 := Lib.hid (Sl.below SP_1.out hb (Nat.le_refl _))
         have S6_2 := Lib.hid (Sl.below S6_1.out hb (Nat.le_refl _))
         have S7_2 := Lib.hid (Sl.below S7_1.out hb (Nat.le_refl _))
         have S9_2 := Lib.hid (Sl.below S9_1.out hb (Nat.le_refl _))
         have S10_2 := Lib.hid (Sl.below S10_1.out hb (Nat.le_refl _))
         have S11_2 := Lib.hid (Sl.below S11_1.out hb (Nat.le_refl _))
         have S12_2 := Lib.hid (Sl.below S12_1.out hb (Nat.le_refl _))
         have S13_2 := Lib.hid (Sl.below S13_1.out hb (Nat.le_refl _))
         have S14_2 := Lib.hid (Sl.below S14_1.out hb (Nat.le_refl _))
         have T_2 := Lib.hid (tab_below T_1.out hb)
         have B_2 := Lib.hid (B_1.out.trans (hb.mono B_1.out.size))
         have hg_2 : gt < v2.heap.size := Nat.lt_of_lt_of_le hg_1 hb.size
         have t0_2 := ((bcell hb).1 gt 0 hg_1).trans t0_1
         have t1_2 := ((bcell hb).1 gt 1 hg_1).trans t1_1
         have t2_2 := ((bcell hb).1 gt 2 hg_1).trans t2_1
         clear hb)
      | (go_at_call_of 21 (Value.slice A11 p c11); refine (f6ints_c A11 A12 p c11 c12 M _ (by omega) S11_2.out S12_2.out).mono ?_; rintro e v3 ⟨rfl, hb⟩
         have SP_3 := Lib.hid (Sl.below SP_2.out hb (Nat.le_refl _))
         have S6_3 := Lib.hid (Sl.below S6_2.out hb (Nat.le_refl _))
         have S7_3 := Lib.hid (Sl.below S7_2.out hb (Nat.le_refl _))
         have S9_3 := Lib.hid (Sl.below S9_2.out hb (Nat.le_refl _))
         have S10_3 := Lib.hid (Sl.below S10_2.out hb (Nat.le_refl _))
         have S12_3 := Lib.hid (Sl.below S12_2.out hb (Nat.le_refl _))
         have S13_3 := Lib.hid (Sl.below S13_2.out hb (Nat.le_refl _))
         have S14_3 := Lib.hid (Sl.below S14_2.out hb (Nat.le_refl _))
         have T_3 := Lib.hid (tab_below T_2.out hb)
         have B_3 := Lib.hid (B_2.out.trans (hb.mono B_2.out.size))
         have hg_3 : gt < v3.heap.size := Nat.lt_of_lt_of_le hg_2 hb.size
         have t0_3 := ((bcell hb).1 gt 0 hg_2).trans t0_2
         have t1_3 := ((bcell hb).1 gt 1 hg_2).trans t1_2
         have t2_3 := ((bcell hb).1 gt 2 hg_2).trans t2_2
         clear hb)
      | (go_at_call_of 22 (Value.slice P13 k13 d13); refine (HSY.out _ S13_3.out S14_3.out).mono ?_; rintro e v4 ⟨rfl, hb⟩
         have SP_4 := Lib.hid (Sl.below SP_3.out hb (Nat.le_refl _))
         have S6_4 := Lib.hid (Sl.below S6_3.out hb (Nat.le_refl _))
         have S7_4 := Lib.hid (Sl.below S7_3.out hb (Nat.le_refl _))
         have S9_4 := Lib.hid (Sl.below S9_3.out hb (Nat.le_refl _))
         have S10_4 := Lib.hid (Sl.below S10_3.out hb (Nat.le_refl _))
         have S12_4 := Lib.hid (Sl.below S12_3.out hb (Nat.le_refl _))
         have S13_4 := Lib.hid (Sl.below S13_3.out hb (Nat.le_refl _))
         have S14_4 := Lib.hid (Sl.below S14_3.out hb (Nat.le_refl _))
         have T_4 := Lib.hid (tab_below T_3.out hb)
         have B_4 := Lib.hid (B_3.out.trans (hb.mono B_3.out.size))
         have hg_4 : gt < v4.heap.size := Nat.lt_of_lt_of_le hg_3 hb.size
         have t0_4 := ((bcell hb).1 gt 0 hg_3).trans t0_3
         have t1_4 := ((bcell hb).1 gt 1 hg_3).trans t1_3
         have t2_4 := ((bcell hb).1 gt 2 hg_3).trans t2_3
         clear hb)
      | (go_at_call_of 20 (Value.slice P13 k13 d13); refine (HSZ.out _ S13_4.out S14_4.out).mono ?_; rintro e v5 ⟨rfl, hb⟩
         have SP_5 := Lib.hid (Sl.below SP_4.out hb (Nat.le_refl _))
         have S6_5 := Lib.hid (Sl.below S6_4.out hb (Nat.le_refl _))
         have S7_5 := Lib.hid (Sl.below S7_4.out hb (Nat.le_refl _))
         have S9_5 := Lib.hid (Sl.below S9_4.out hb (Nat.le_refl _))
         have S10_5 := Lib.hid (Sl.below S10_4.out hb (Nat.le_refl _))
         have S12_5 := Lib.hid (Sl.below S12_4.out hb (Nat.le_refl _))
         have T_5 := Lib.hid (tab_below T_4.out hb)
         have B_5 := Lib.hid (B_4.out.trans (hb.mono B_4.out.size))
         have hg_5 : gt < v5.heap.size := Nat.lt_of_lt_of_le hg_4 hb.size
         have t0_5 := ((bcell hb).1 gt 0 hg_4).trans t0_4
         have t1_5 := ((bcell hb).1 gt 1 hg_4).trans t1_4
         have t2_5 := ((bcell hb).1 gt 2 hg_4).trans t2_4
         clear hb)
      | (go_at_call_of 23 (Value.agg #[.int .i64 tL, .int .i64 tG, .int .i64 tW]); refine (HTI.out _ T_5.out).mono ?_; rintro e v6 ⟨rfl, hb⟩
         have SP_6 := Lib.hid (Sl.below SP_5.out hb (Nat.le_refl _))
         have S6_6 := Lib.hid (Sl.below S6_5.out hb (Nat.le_refl _))
         have S7_6 := Lib.hid (Sl.below S7_5.out hb (Nat.le_refl _))
         have S9_6 := Lib.hid (Sl.below S9_5.out hb (Nat.le_refl _))
         have S10_6 := Lib.hid (Sl.below S10_5.out hb (Nat.le_refl _))
         have S12_6 := Lib.hid (Sl.below S12_5.out hb (Nat.le_refl _))
         have T_6 := Lib.hid (tab_below T_5.out hb)
         have B_6 := Lib.hid (B_5.out.trans (hb.mono B_5.out.size))
         have hg_6 : gt < v6.heap.size := Nat.lt_of_lt_of_le hg_5 hb.size
         have t0_6 := ((bcell hb).1 gt 0 hg_5).trans t0_5
         have t1_6 := ((bcell hb).1 gt 1 hg_5).trans t1_5
         have t2_6 := ((bcell hb).1 gt 2 hg_5).trans t2_5
         clear hb)
      | (go_at_call_of 24 (Value.agg #[.int .i64 tL, .int .i64 tG, .int .i64 tW]); refine (HTS.out _).mono ?_; rintro e v7 ⟨rfl, hb⟩
         have SP_7 := Lib.hid (Sl.below SP_6.out hb (Nat.le_refl _))
         have S6_7 := Lib.hid (Sl.below S6_6.out hb (Nat.le_refl _))
         have S7_7 := Lib.hid (Sl.below S7_6.out hb (Nat.le_refl _))
         have S9_7 := Lib.hid (Sl.below S9_6.out hb (Nat.le_refl _))
         have S10_7 := Lib.hid (Sl.below S10_6.out hb (Nat.le_refl _))
         have S12_7 := Lib.hid (Sl.below S12_6.out hb (Nat.le_refl _))
         have T_7 := Lib.hid (tab_below T_6.out hb)
         have B_7 := Lib.hid (B_6.out.trans (hb.mono B_6.out.size))
         have hg_7 : gt < v7.heap.size := Nat.lt_of_lt_of_le hg_6 hb.size
         have t0_7 := ((bcell hb).1 gt 0 hg_6).trans t0_6
         have t1_7 := ((bcell hb).1 gt 1 hg_6).trans t1_6
         have t2_7 := ((bcell hb).1 gt 2 hg_6).trans t2_6
         clear hb)
      | (go_at_call_of 25 (Value.slice P k d); refine (HVI.out _ SP_7.out).mono ?_; rintro e v8 ⟨rfl, hb⟩
         have SP_8 := Lib.hid (Sl.below SP_7.out hb (Nat.le_refl _))
         have S6_8 := Lib.hid (Sl.below S6_7.out hb (Nat.le_refl _))
         have S7_8 := Lib.hid (Sl.below S7_7.out hb (Nat.le_refl _))
         have S9_8 := Lib.hid (Sl.below S9_7.out hb (Nat.le_refl _))
         have S10_8 := Lib.hid (Sl.below S10_7.out hb (Nat.le_refl _))
         have S12_8 := Lib.hid (Sl.below S12_7.out hb (Nat.le_refl _))
         have T_8 := Lib.hid (tab_below T_7.out hb)
         have B_8 := Lib.hid (B_7.out.trans (hb.mono B_7.out.size))
         have hg_8 : gt < v8.heap.size := Nat.lt_of_lt_of_le hg_7 hb.size
         have t0_8 := ((bcell hb).1 gt 0 hg_7).trans t0_7
         have t1_8 := ((bcell hb).1 gt 1 hg_7).trans t1_7
         have t2_8 := ((bcell hb).1 gt 2 hg_7).trans t2_7
         clear hb)
      | (go_at_call_of 26 (Value.slice P k d); refine (HVS.out _ SP_8.out).mono ?_; rintro e v9 ⟨rfl, hb⟩
         have S6_9 := Lib.hid (Sl.below S6_8.out hb (Nat.le_refl _))
         have S7_9 := Lib.hid (Sl.below S7_8.out hb (Nat.le_refl _))
         have S9_9 := Lib.hid (Sl.below S9_8.out hb (Nat.le_refl _))
         have S10_9 := Lib.hid (Sl.below S10_8.out hb (Nat.le_refl _))
         have S12_9 := Lib.hid (Sl.below S12_8.out hb (Nat.le_refl _))
         have T_9 := Lib.hid (tab_below T_8.out hb)
         have B_9 := Lib.hid (B_8.out.trans (hb.mono B_8.out.size))
         have hg_9 : gt < v9.heap.size := Nat.lt_of_lt_of_le hg_8 hb.size
         have t0_9 := ((bcell hb).1 gt 0 hg_8).trans t0_8
         have t1_9 := ((bcell hb).1 gt 1 hg_8).trans t1_8
         have t2_9 := ((bcell hb).1 gt 2 hg_8).trans t2_8
         clear hb))
  try clear SP_0
  try clear S5_0
  try clear S6_0
  try clear S7_0
  try clear S8_0
  try clear S9_0
  try clear S10_0
  try clear S11_0
  try clear S12_0
  try clear S13_0
  try clear S14_0
  try clear T_0
  try clear B_0
  try clear hg_0
  try clear t0_0
  try clear t1_0
  try clear t2_0
  try clear SP_1
  try clear S5_1
  try clear S6_1
  try clear S7_1
  try clear S8_1
  try clear S9_1
  try clear S10_1
  try clear S11_1
  try clear S12_1
  try clear S13_1
  try clear S14_1
  try clear T_1
  try clear B_1
  try clear hg_1
  try clear t0_1
  try clear t1_1
  try clear t2_1
  try clear SP_2
  try clear S5_2
  try clear S6_2
  try clear S7_2
  try clear S8_2
  try clear S9_2
  try clear S10_2
  try clear S11_2
  try clear S12_2
  try clear S13_2
  try clear S14_2
  try clear T_2
  try clear B_2
  try clear hg_2
  try clear t0_2
  try clear t1_2
  try clear t2_2
  try clear SP_3
  try clear S5_3
  try clear S6_3
  try clear S7_3
  try clear S8_3
  try clear S9_3
  try clear S10_3
  try clear S11_3
  try clear S12_3
  try clear S13_3
  try clear S14_3
  try clear T_3
  try clear B_3
  try clear hg_3
  try clear t0_3
  try clear t1_3
  try clear t2_3
  try clear SP_4
  try clear S5_4
  try clear S6_4
  try clear S7_4
  try clear S8_4
  try clear S9_4
  try clear S10_4
  try clear S11_4
  try clear S12_4
  try clear S13_4
  try clear S14_4
  try clear T_4
  try clear B_4
  try clear hg_4
  try clear t0_4
  try clear t1_4
  try clear t2_4
  try clear SP_5
  try clear S5_5
  try clear S6_5
  try clear S7_5
  try clear S8_5
  try clear S9_5
  try clear S10_5
  try clear S11_5
  try clear S12_5
  try clear S13_5
  try clear S14_5
  try clear T_5
  try clear B_5
  try clear hg_5
  try clear t0_5
  try clear t1_5
  try clear t2_5
  try clear SP_6
  try clear S5_6
  try clear S6_6
  try clear S7_6
  try clear S8_6
  try clear S9_6
  try clear S10_6
  try clear S11_6
  try clear S12_6
  try clear S13_6
  try clear S14_6
  try clear T_6
  try clear B_6
  try clear hg_6
  try clear t0_6
  try clear t1_6
  try clear t2_6
  try clear SP_7
  try clear S5_7
  try clear S6_7
  try clear S7_7
  try clear S8_7
  try clear S9_7
  try clear S10_7
  try clear S11_7
  try clear S12_7
  try clear S13_7
  try clear S14_7
  try clear T_7
  try clear B_7
  try clear hg_7
  try clear t0_7
  try clear t1_7
  try clear t2_7
  try clear SP_8
  try clear S5_8
  try clear S6_8
  try clear S7_8
  try clear S8_8
  try clear S9_8
  try clear S10_8
  try clear S11_8
  try clear S12_8
  try clear S13_8
  try clear S14_8
  try clear T_8
  try clear B_8
  try clear hg_8
  try clear t0_8
  try clear t1_8
  try clear t2_8
  try clear T_9
  try clear hg_9
  try clear t0_9
  try clear t1_9
  try clear t2_9
  try clear HX
  try clear HTI
  try clear HTS
  try clear HSX
  try clear HSY
  try clear HSZ
  try clear HVI
  try clear HVS
  try clear hgW
  go_wp2_with fail
  as_aux_lemma =>
    go_loopw [31] (fun i wr => ∃ q : Nat, 1 ≤ q ∧ (q ≤ m ∨ q = 1) ∧ i = .int .i64 (q : Int) ∧ Drew v9 wr) (fun i _ => m - (intOf i).toNat)
    case atStart => exact ⟨1, by omega, .inr rfl, rfl, Drew.refl _⟩
    case round =>
      obtain ⟨q, hq1, hqm, rfl, hd⟩ := hrel
      have HD := Lib.hid hd
      clear hd
      by_cases hlt : q < m
      · obtain ⟨u, hu⟩ : ∃ u, q = u + 1 := ⟨q - 1, by omega⟩
        have hlt' : (q : Int) < (m : Int) := by omega
        have hlt3 : (u : Int) < (m : Int) := by omega
        have hu0 : (0 : Int) ≤ (u : Int) := by omega
        have hu1 : (0 : Int) ≤ (q : Int) := by omega
        have he1 : IntKind.i64.wrap ((q : Int) - 1) = (u : Int) := by rw [IntKind.wrap_i64]; omega
        obtain ⟨b, o, rfl, hb, hX⟩ := (HD.out.sl S6_9.out) (by omega)
        have p0 := hX (u * 3) (by omega)
        have p2 := hX (u * 3 + 2) (by omega)
        have r0 := hX (q * 3) (by omega)
        have r2 := hX (q * 3 + 2) (by omega)
        simp only [← Nat.add_assoc] at p2 r2
        have hso := HSO.out u (by omega)
        rw [← hu] at hso
        clear hX hqm hu
        generalize Z (u * 3) = x0 at *
        generalize Z (u * 3 + 2) = x2 at *
        generalize Z (q * 3) = y0 at *
        generalize Z (q * 3 + 2) = y2 at *
        rcases hso with hso | ⟨rfl, hso⟩
        · have t1 : decide (y0 < x0) = false := decide_eq_false (by omega)
          have t2 : (x0 == y0) = false := beq_false_of_ne (by omega)
          clear hso
          go_wp2_with fail
          go_quiet (fail)
          clear t1 t2
          go_wp2
          go_roundw
          case rel => exact ⟨q + 1, by omega, .inl (by omega), by go_num, HD.out.drewN _⟩
          case measure => simp [intOf]; omega
        · have t1 : decide (y2 < x2) = false := decide_eq_false (by omega)
          clear hso
          go_wp2_with fail
          go_quiet (fail)
          clear t1
          go_wp2
          go_roundw
          case rel => exact ⟨q + 1, by omega, .inl (by omega), by go_num, HD.out.drewN _⟩
          case measure => simp [intOf]; omega
      · clear hqm HSO
        as_aux_lemma =>
          rcases HC.out with ⟨rfl, hL⟩ | hc
          · have HL := Lib.hid hL
            have hk10 := hL.k10
            clear hL
            go_wp2_with fail
            go_loopw [33, 32] (fun i tt wr => ∃ q : Nat, q ≤ l ∧ i = .int .i64 (q : Int) ∧ tt = .int .i64 (lsm Y7 L q) ∧ Drew v9 wr) (fun i _ _ => l - (intOf i).toNat)
            case atStart => exact ⟨0, by omega, rfl, rfl, HD.out⟩
            case round =>
              obtain ⟨q, hq, rfl, rfl, hd⟩ := hrel
              have HD := Lib.hid hd
              clear hd
              by_cases hqn : q < l
              · have hq1 : (q : Int) < (l : Int) := by omega
                have hq0 : (0 : Int) ≤ (q : Int) := by omega
                obtain ⟨z, hz, hzk⟩ := HL.out.at_ q hqn
                obtain ⟨b1, o1, rfl, hb1, hX1⟩ := (HD.out.sl S9_9.out) (by omega)
                obtain ⟨b2, o2, rfl, hb2, hX2⟩ := (HD.out.sl S7_9.out) (by omega)
                have p0 := hX1 q (by omega)
                have p2 := hX2 (z * 3 + 2) (by omega)
                rw [hz] at p0
                simp only [← Nat.add_assoc] at p2
                have hz1 : (z : Int) < (k7 : Int) := by omega
                have hz0 : (0 : Int) ≤ (z : Int) := by omega
                have hbd := lsm_bd HL.out.all q (fun j hj => HL.out.at_ j (by omega))
                have hbb := allU_bd HL.out.all hzk
                have HE := Lib.hid (show lsm Y7 L (q + 1) = lsm Y7 L q + Y7 (z * 3 + 2) from by simp only [lsm]; rw [hz, Int.toNat_natCast])
                generalize lsm Y7 L q = S at *
                generalize Y7 (z * 3 + 2) = y at *
                have hw : IntKind.i64.wrap (S + y) = S + y := IntWalk.i64_in _ (by omega)
                clear hX1 hX2 hz
                go_wp2_with fail
                go_roundw
                case rel => exact ⟨q + 1, by omega, by go_num, by rw [HE.out], HD.out⟩
                case measure => simp [intOf]; omega
              · obtain rfl : q = l := by omega
                have hsum : lsm Y7 L q = s := HL.out.sum
                rw [hsum]
                have hs1 : ¬ h7 < s := by have := HL.out.s1; omega
                go_wp2_with fail
                clear hs1 hsum
                go_loopw [34] (fun i wr => ∃ q2 : Nat, q2 ≤ k7 ∧ i = .int .i64 (q2 : Int) ∧ Drew v9 wr) (fun i _ => k7 - (intOf i).toNat)
                case atStart => exact ⟨0, by omega, rfl, HD.out⟩
                case round =>
                  obtain ⟨q2, hq2, rfl, hd⟩ := hrel
                  have HD := Lib.hid hd
                  clear hd
                  by_cases hqk : q2 < k7
                  · have hq1 : (q2 : Int) < (k7 : Int) := by omega
                    have hq0 : (0 : Int) ≤ (q2 : Int) := by omega
                    by_cases hh : ∃ j, j < q ∧ L j = (q2 : Int)
                    · have HH := Lib.hid (show true = true ↔ ∃ j, j < q ∧ L j = (q2 : Int) from ⟨fun _ => hh, fun _ => rfl⟩)
                      clear hh
                      go_wp2_with (go_at_call 27; refine (f6has_c A9 q c9 L (q2 : Int) true _ (by omega) (HD.out.sl S9_9.out) HH.out).mono ?_; rintro e w' ⟨rfl, rfl⟩)
                      go_roundw
                      case rel => exact ⟨q2 + 1, by omega, by go_num, HD.out⟩
                      case measure => simp [intOf]; omega
                    · have hfull := HL.out.full q2 hqk hh
                      have HH := Lib.hid (show false = true ↔ ∃ j, j < q ∧ L j = (q2 : Int) from ⟨fun e => (by cases e), fun e => absurd e hh⟩)
                      have SLF := Lib.hid (HD.out.sl S9_9.out)
                      obtain ⟨b2, o2, rfl, hb2, hX2⟩ := (HD.out.sl S7_9.out) (by omega)
                      have p2 := hX2 (q2 * 3 + 2) (by omega)
                      simp only [← Nat.add_assoc] at p2
                      have hbb := allU_bd HL.out.all hqk
                      have hs0 := HL.out.s0
                      have hs1 := HL.out.s1
                      have hh1 := HL.out.h1
                      generalize Y7 (q2 * 3 + 2) = y at *
                      have hw : IntKind.i64.wrap (s + y) = s + y := IntWalk.i64_in _ (by omega)
                      have hno : ¬ s + y ≤ h7 := by omega
                      clear hh hX2
                      go_wp2_with (go_at_call 27; refine (f6has_c A9 q c9 L (q2 : Int) false _ (by omega) SLF.out HH.out).mono ?_; rintro e w' ⟨rfl, rfl⟩)
                      go_roundw
                      case rel => exact ⟨q2 + 1, by omega, by go_num, HD.out⟩
                      case measure => simp [intOf]; omega
                  · as_aux_lemma =>
                      rcases HF.out with ⟨rfl, hL2⟩ | hc2
                      · have HL2 := Lib.hid hL2
                        have hk30 := hL2.k30
                        clear hL2
                        go_wp2_with fail
                        go_loopw [36, 35] (fun i tt wr => ∃ q : Nat, q ≤ p ∧ i = .int .i64 (q : Int) ∧ tt = .int .i64 (lsm Y10 M q) ∧ Drew v9 wr) (fun i _ _ => p - (intOf i).toNat)
                        case atStart => exact ⟨0, by omega, rfl, rfl, HD.out⟩
                        case round =>
                          obtain ⟨q, hq, rfl, rfl, hd⟩ := hrel
                          have HD := Lib.hid hd
                          clear hd
                          by_cases hqn : q < p
                          · have hq1 : (q : Int) < (p : Int) := by omega
                            have hq0 : (0 : Int) ≤ (q : Int) := by omega
                            obtain ⟨z, hz, hzk⟩ := HL2.out.at_ q hqn
                            obtain ⟨b1, o1, rfl, hb1, hX1⟩ := (HD.out.sl S12_9.out) (by omega)
                            obtain ⟨b2, o2, rfl, hb2, hX2⟩ := (HD.out.sl S10_9.out) (by omega)
                            have p0 := hX1 q (by omega)
                            have p2 := hX2 (z * 3 + 2) (by omega)
                            rw [hz] at p0
                            simp only [← Nat.add_assoc] at p2
                            have hz1 : (z : Int) < (k10 : Int) := by omega
                            have hz0 : (0 : Int) ≤ (z : Int) := by omega
                            have hbd := lsm_bd HL2.out.all q (fun j hj => HL2.out.at_ j (by omega))
                            have hbb := allU_bd HL2.out.all hzk
                            have HE := Lib.hid (show lsm Y10 M (q + 1) = lsm Y10 M q + Y10 (z * 3 + 2) from by simp only [lsm]; rw [hz, Int.toNat_natCast])
                            generalize lsm Y10 M q = S at *
                            generalize Y10 (z * 3 + 2) = y at *
                            have hw : IntKind.i64.wrap (S + y) = S + y := IntWalk.i64_in _ (by omega)
                            clear hX1 hX2 hz
                            go_wp2_with fail
                            go_roundw
                            case rel => exact ⟨q + 1, by omega, by go_num, by rw [HE.out], HD.out⟩
                            case measure => simp [intOf]; omega
                          · obtain rfl : q = p := by omega
                            have hsum : ¬ lsm Y10 M q < h10 := by have := HL2.out.sum; omega
                            generalize lsm Y10 M q = S at hsum ⊢
                            have BZ := Lib.hid (show Below w.heap.size w _ from below_drew B_9.out HD.out)
                            as_aux_lemma =>
                              rcases HG.out with ⟨hg1, rfl, rfl⟩ | ⟨hg1, ⟨g1, g2, hg2, hg3, rfl⟩ | ⟨rfl, rfl, hg3⟩⟩
                              · go_wp2
                                go_ret
                                exact ⟨rfl, BZ.out⟩
                              · obtain ⟨t1, t2⟩ : 1 ≤ t ∧ t ≤ 300 := by
                                  simp only [Bool.and_eq_true] at hg1
                                  exact inB_of hg1.2
                                have HRM := Lib.hid (fun W => rods_ok v t g1 g2 t1 t2 W)
                                have hg4 : ¬ rin v t < r := by omega
                                generalize rin v t = rm at HRM hg4
                                clear hg1 hg2 HG
                                have HG3 := Lib.hid hg3
                                clear hg3
                                go_wp2_with fail
                                refine (HRM.out _).mono ?_
                                rintro e wA ⟨rfl, hbA⟩
                                have BA := Lib.hid (BZ.out.trans (hbA.mono BZ.out.size))
                                clear hbA HRM
                                by_cases hv10 : v = 10
                                · subst hv10
                                  go_wp2
                                  go_ret
                                  exact ⟨rfl, BA.out⟩
                                · have hv2 : (v == 10) = false := by simpa using hv10
                                  have hw1 : IntKind.i64.wrap (v - 1) = v - 1 := by rw [IntKind.wrap_i64]; omega
                                  have HRL := Lib.hid (fun W => rods_ok (v - 1) t (by omega) (by omega) t1 t2 W)
                                  have hg5 : rin (v - 1) t < r := HG3.out (v - 1) (by omega) (by omega)
                                  generalize rin (v - 1) t = rl at HRL hg5
                                  clear hv10
                                  go_wp2_with fail
                                  refine (HRL.out _).mono ?_
                                  rintro e wB ⟨rfl, hbB⟩
                                  have BB := Lib.hid (BA.out.trans (hbB.mono BA.out.size))
                                  clear hbB HRL
                                  go_wp2
                                  go_ret
                                  exact ⟨rfl, BB.out⟩
                              · go_wp2
                                go_ret
                                exact ⟨rfl, BZ.out⟩
                      · have hc3 : (cf == 0) = false := beq_false_of_ne (by omega)
                        clear hc2
                        have BZ := Lib.hid (show Below w.heap.size w _ from below_drew B_9.out HD.out)
                        as_aux_lemma =>
                          rcases HG.out with ⟨hg1, rfl, rfl⟩ | ⟨hg1, ⟨g1, g2, hg2, hg3, rfl⟩ | ⟨rfl, rfl, hg3⟩⟩
                          · go_wp2
                            go_ret
                            exact ⟨rfl, BZ.out⟩
                          · obtain ⟨t1, t2⟩ : 1 ≤ t ∧ t ≤ 300 := by
                              simp only [Bool.and_eq_true] at hg1
                              exact inB_of hg1.2
                            have HRM := Lib.hid (fun W => rods_ok v t g1 g2 t1 t2 W)
                            have hg4 : ¬ rin v t < r := by omega
                            generalize rin v t = rm at HRM hg4
                            clear hg1 hg2 HG
                            have HG3 := Lib.hid hg3
                            clear hg3
                            go_wp2_with fail
                            refine (HRM.out _).mono ?_
                            rintro e wA ⟨rfl, hbA⟩
                            have BA := Lib.hid (BZ.out.trans (hbA.mono BZ.out.size))
                            clear hbA HRM
                            by_cases hv10 : v = 10
                            · subst hv10
                              go_wp2
                              go_ret
                              exact ⟨rfl, BA.out⟩
                            · have hv2 : (v == 10) = false := by simpa using hv10
                              have hw1 : IntKind.i64.wrap (v - 1) = v - 1 := by rw [IntKind.wrap_i64]; omega
                              have HRL := Lib.hid (fun W => rods_ok (v - 1) t (by omega) (by omega) t1 t2 W)
                              have hg5 : rin (v - 1) t < r := HG3.out (v - 1) (by omega) (by omega)
                              generalize rin (v - 1) t = rl at HRL hg5
                              clear hv10
                              go_wp2_with fail
                              refine (HRL.out _).mono ?_
                              rintro e wB ⟨rfl, hbB⟩
                              have BB := Lib.hid (BA.out.trans (hbB.mono BA.out.size))
                              clear hbB HRL
                              go_wp2
                              go_ret
                              exact ⟨rfl, BB.out⟩
                          · go_wp2
                            go_ret
                            exact ⟨rfl, BZ.out⟩
          · have hc1 : (cc == 0) = false := beq_false_of_ne (by omega)
            clear hc
            as_aux_lemma =>
              rcases HF.out with ⟨rfl, hL2⟩ | hc2
              · have HL2 := Lib.hid hL2
                have hk30 := hL2.k30
                clear hL2
                go_wp2_with fail
                go_loopw [36, 35] (fun i tt wr => ∃ q : Nat, q ≤ p ∧ i = .int .i64 (q : Int) ∧ tt = .int .i64 (lsm Y10 M q) ∧ Drew v9 wr) (fun i _ _ => p - (intOf i).toNat)
                case atStart => exact ⟨0, by omega, rfl, rfl, HD.out⟩
                case round =>
                  obtain ⟨q, hq, rfl, rfl, hd⟩ := hrel
                  have HD := Lib.hid hd
                  clear hd
                  by_cases hqn : q < p
                  · have hq1 : (q : Int) < (p : Int) := by omega
                    have hq0 : (0 : Int) ≤ (q : Int) := by omega
                    obtain ⟨z, hz, hzk⟩ := HL2.out.at_ q hqn
                    obtain ⟨b1, o1, rfl, hb1, hX1⟩ := (HD.out.sl S12_9.out) (by omega)
                    obtain ⟨b2, o2, rfl, hb2, hX2⟩ := (HD.out.sl S10_9.out) (by omega)
                    have p0 := hX1 q (by omega)
                    have p2 := hX2 (z * 3 + 2) (by omega)
                    rw [hz] at p0
                    simp only [← Nat.add_assoc] at p2
                    have hz1 : (z : Int) < (k10 : Int) := by omega
                    have hz0 : (0 : Int) ≤ (z : Int) := by omega
                    have hbd := lsm_bd HL2.out.all q (fun j hj => HL2.out.at_ j (by omega))
                    have hbb := allU_bd HL2.out.all hzk
                    have HE := Lib.hid (show lsm Y10 M (q + 1) = lsm Y10 M q + Y10 (z * 3 + 2) from by simp only [lsm]; rw [hz, Int.toNat_natCast])
                    generalize lsm Y10 M q = S at *
                    generalize Y10 (z * 3 + 2) = y at *
                    have hw : IntKind.i64.wrap (S + y) = S + y := IntWalk.i64_in _ (by omega)
                    clear hX1 hX2 hz
                    go_wp2_with fail
                    go_roundw
                    case rel => exact ⟨q + 1, by omega, by go_num, by rw [HE.out], HD.out⟩
                    case measure => simp [intOf]; omega
                  · obtain rfl : q = p := by omega
                    have hsum : ¬ lsm Y10 M q < h10 := by have := HL2.out.sum; omega
                    generalize lsm Y10 M q = S at hsum ⊢
                    have BZ := Lib.hid (show Below w.heap.size w _ from below_drew B_9.out HD.out)
                    as_aux_lemma =>
                      rcases HG.out with ⟨hg1, rfl, rfl⟩ | ⟨hg1, ⟨g1, g2, hg2, hg3, rfl⟩ | ⟨rfl, rfl, hg3⟩⟩
                      · go_wp2
                        go_ret
                        exact ⟨rfl, BZ.out⟩
                      · obtain ⟨t1, t2⟩ : 1 ≤ t ∧ t ≤ 300 := by
                          simp only [Bool.and_eq_true] at hg1
                          exact inB_of hg1.2
                        have HRM := Lib.hid (fun W => rods_ok v t g1 g2 t1 t2 W)
                        have hg4 : ¬ rin v t < r := by omega
                        generalize rin v t = rm at HRM hg4
                        clear hg1 hg2 HG
                        have HG3 := Lib.hid hg3
                        clear hg3
                        go_wp2_with fail
                        refine (HRM.out _).mono ?_
                        rintro e wA ⟨rfl, hbA⟩
                        have BA := Lib.hid (BZ.out.trans (hbA.mono BZ.out.size))
                        clear hbA HRM
                        by_cases hv10 : v = 10
                        · subst hv10
                          go_wp2
                          go_ret
                          exact ⟨rfl, BA.out⟩
                        · have hv2 : (v == 10) = false := by simpa using hv10
                          have hw1 : IntKind.i64.wrap (v - 1) = v - 1 := by rw [IntKind.wrap_i64]; omega
                          have HRL := Lib.hid (fun W => rods_ok (v - 1) t (by omega) (by omega) t1 t2 W)
                          have hg5 : rin (v - 1) t < r := HG3.out (v - 1) (by omega) (by omega)
                          generalize rin (v - 1) t = rl at HRL hg5
                          clear hv10
                          go_wp2_with fail
                          refine (HRL.out _).mono ?_
                          rintro e wB ⟨rfl, hbB⟩
                          have BB := Lib.hid (BA.out.trans (hbB.mono BA.out.size))
                          clear hbB HRL
                          go_wp2
                          go_ret
                          exact ⟨rfl, BB.out⟩
                      · go_wp2
                        go_ret
                        exact ⟨rfl, BZ.out⟩
              · have hc3 : (cf == 0) = false := beq_false_of_ne (by omega)
                clear hc2
                have BZ := Lib.hid (show Below w.heap.size w _ from below_drew B_9.out HD.out)
                as_aux_lemma =>
                  rcases HG.out with ⟨hg1, rfl, rfl⟩ | ⟨hg1, ⟨g1, g2, hg2, hg3, rfl⟩ | ⟨rfl, rfl, hg3⟩⟩
                  · go_wp2
                    go_ret
                    exact ⟨rfl, BZ.out⟩
                  · obtain ⟨t1, t2⟩ : 1 ≤ t ∧ t ≤ 300 := by
                      simp only [Bool.and_eq_true] at hg1
                      exact inB_of hg1.2
                    have HRM := Lib.hid (fun W => rods_ok v t g1 g2 t1 t2 W)
                    have hg4 : ¬ rin v t < r := by omega
                    generalize rin v t = rm at HRM hg4
                    clear hg1 hg2 HG
                    have HG3 := Lib.hid hg3
                    clear hg3
                    go_wp2_with fail
                    refine (HRM.out _).mono ?_
                    rintro e wA ⟨rfl, hbA⟩
                    have BA := Lib.hid (BZ.out.trans (hbA.mono BZ.out.size))
                    clear hbA HRM
                    by_cases hv10 : v = 10
                    · subst hv10
                      go_wp2
                      go_ret
                      exact ⟨rfl, BA.out⟩
                    · have hv2 : (v == 10) = false := by simpa using hv10
                      have hw1 : IntKind.i64.wrap (v - 1) = v - 1 := by rw [IntKind.wrap_i64]; omega
                      have HRL := Lib.hid (fun W => rods_ok (v - 1) t (by omega) (by omega) t1 t2 W)
                      have hg5 : rin (v - 1) t < r := HG3.out (v - 1) (by omega) (by omega)
                      generalize rin (v - 1) t = rl at HRL hg5
                      clear hv10
                      go_wp2_with fail
                      refine (HRL.out _).mono ?_
                      rintro e wB ⟨rfl, hbB⟩
                      have BB := Lib.hid (BA.out.trans (hbB.mono BA.out.size))
                      clear hbB HRL
                      go_wp2
                      go_ret
                      exact ⟨rfl, BB.out⟩
                  · go_wp2
                    go_ret
                    exact ⟨rfl, BZ.out⟩

end Go.Proofs.YtlepgkmpbhlajaaDoor.src
