/-
  For every list of beds and every list of cuts, FnExactAfterYear returns true: AfterYear of the program gives the beds and the code of the model, keeps both lists, and its answer is memory of its own. No condition.
-/
import Derived.Test.YtcpaenmhnoagdabAfterI
import Derived.Test.YtcpaenmhnoagdabMarkBeds
import Derived.Test.YtcpaenmhnoagdabOpenBed
namespace Go.Proofs.Ytcpaenmhnoagdab.fnExactAfterYear
open Go.ChangeShapes Go.WideShapes Go.ChangeAt Go.RowKit Go.Joins
open Go.ChangeMaps (open_string shut_string)
open Go.Proofs.Ytcpaenmhnoagdab.rod Go.Proofs.Ytcpaenmhnoagdab.mem Go.Proofs.Ytcpaenmhnoagdab.nums
set_option linter.unusedVariables false

set_option maxHeartbeats 4000000 in
set_option maxRecDepth 100000 in
theorem core (A : Option Addr) (n c : Nat) (M : Nat → Nat) (Y : Nat → Nat → Int) (G : Nat → Int) (Tn : Nat) (A2 : Option Addr) (k c2 : Nat) (C : Nat → Int) (nr : Nat) (MR : Nat → Nat) (YR : Nat → Nat → Int) (GR : Nat → Int) (TR : Nat) (hTR : nr + sumM MR nr = TR) (hlR : TR ≤ 1048576) (code : Int) (w : World) (hTn : n + sumM M n = Tn) (hnn : Tn ≤ 1048576) (hY : Beds w A n M Y G) (hnk : k ≤ 1048576) (hC : Sl w A2 k 1 C)
    (hspec : Hid (∀ (A' : Option Addr) (c' : Nat) (A2' : Option Addr) (c2' : Nat) (w : World), Beds w A' n M Y G → Sl w A2' k 1 C → Calls Try.prog 56 #[.slice A' n c', .slice A2' k c2'] w (fun e w' => ∃ A c, e = .returned (.tuple #[.slice A nr c, .int .i64 code]) ∧ nr ≤ c ∧ c ≤ maxLen ∧ RowBs w' w.heap.size w'.heap.size A nr MR YR GR ∧ Below w.heap.size w w')))
    (himpl : Hid (∀ (A' : Option Addr) (c' : Nat) (A2' : Option Addr) (c2' : Nat) (w : World), Beds w A' n M Y G → Sl w A2' k 1 C → Calls Try.prog 57 #[.slice A' n c', .slice A2' k c2'] w (fun e w' => ∃ A c, e = .returned (.tuple #[.slice A nr c, .int .i64 code]) ∧ nr ≤ c ∧ c ≤ maxLen ∧ RowBs w' w.heap.size w'.heap.size A nr MR YR GR ∧ Below w.heap.size w w'))) :
    Calls Try.prog 12 #[.slice A n c, .slice A2 k c2] w fun e w' => e = .returned (.bool true) ∧ Below w.heap.size w w' := by
  have HY := Lib.hid hY
  clear hY
  have hmn : n ≤ maxLen := by unfold maxLen; omega
  have hnnn : n ≤ 1048576 := by omega
  have hMn : ∀ j, j < n → M j ≤ 1048576 := fun j hj => by have := sumM_at (M := M) hj; omega
  have HMn := Lib.hid hMn
  clear hMn
  have HTn := Lib.hid hTn
  clear hTn
  have HC := Lib.hid hC
  clear hC
  have hmk : k ≤ maxLen := by unfold maxLen; omega
  have hqk : ¬ (1048576 : Int) < (k : Int) := by omega
  have hrTn : ¬ (1048576 - (Tn : Int)) < 0 := by omega
  have hmR : nr ≤ maxLen := by unfold maxLen; omega
  have hMR : ∀ j, j < nr → MR j ≤ maxLen := fun j hj => by have := sumM_at (M := MR) hj; unfold maxLen; omega
  have HMR := Lib.hid hMR
  clear hMR
  have HTR := Lib.hid hTR
  clear hTR
  have b0 : Below w.heap.size w w := Below.refl _ _
  go_enter Try.func12, Try.ntmps12
  go_wp2_with fail
  refine (szBeds_c A n c M Y G Tn 1048576 _ HTn.out (by omega) (by omega) (Beds.below HY.out b0)).mono ?_
  rintro e w1 ⟨rfl, hb1⟩
  have z1 := hb1.size
  try simp at z1
  have s1 : Below w.heap.size w w1 := Below.trans (by go_grown) (hb1.mono (by first | omega | (simp; done) | (simp; omega)))
  have b1 : Below w.heap.size w w1 := b0.trans (s1.mono (by omega))
  clear hb1 s1
  go_wp2_with fail
  refine (toBedS_c A n c M Y G _ hnnn HMn.out (Beds.below HY.out b1)).mono ?_
  rintro e w2 ⟨Aw2, cw2, rfl, kc2, mc2, r2, hb2⟩
  have z2 := hb2.size
  try simp at z2
  have s2 : Below w1.heap.size w1 w2 := Below.trans (by go_grown) (hb2.mono (by first | omega | (simp; done) | (simp; omega)))
  have b2 : Below w.heap.size w w2 := b1.trans (s2.mono (by omega))
  have R1_2 := Lib.hid (r2.wide (lo' := w1.heap.size) (by first | omega | (simp; done) | (simp; omega)) (Nat.le_refl _))
  clear r2
  clear hb2 s2
  go_wp2_with fail
  refine (toInts_c A2 k c2 C _ hnk (Sl.below HC.out b2 (Nat.le_refl _))).mono ?_
  rintro e w3 ⟨Aw3, cw3, rfl, kc3, mc3, r3, hb3⟩
  have z3 := hb3.size
  try simp at z3
  have s3 : Below w2.heap.size w2 w3 := Below.trans (by go_grown) (hb3.mono (by first | omega | (simp; done) | (simp; omega)))
  have b3 : Below w.heap.size w w3 := b2.trans (s3.mono (by omega))
  have R1_3 := Lib.hid (R1_2.out.below s3 (by omega))
  clear R1_2
  have R2_3 := Lib.hid (r3.wide (lo' := w2.heap.size) (by first | omega | (simp; done) | (simp; omega)) (Nat.le_refl _))
  clear r3
  clear hb3 s3
  go_wp2_with fail
  refine (hspec.out _ _ _ _ _ (R1_3.out.beds) (R2_3.out.sl)).mono ?_
  rintro e w4 ⟨Aw4, cw4, rfl, kc4, mc4, r4, hb4⟩
  have z4 := hb4.size
  try simp at z4
  have s4 : Below w3.heap.size w3 w4 := Below.trans (by go_grown) (hb4.mono (by first | omega | (simp; done) | (simp; omega)))
  have b4 : Below w.heap.size w w4 := b3.trans (s4.mono (by omega))
  have R1_4 := Lib.hid (R1_3.out.below s4 (by omega))
  clear R1_3
  have R2_4 := Lib.hid (R2_3.out.below s4 (by omega))
  clear R2_3
  have R3_4 := Lib.hid (r4.wide (lo' := w3.heap.size) (by first | omega | (simp; done) | (simp; omega)) (Nat.le_refl _))
  clear r4
  clear hb4 s4
  clear R1_4
  clear R2_4
  go_wp2_with fail
  refine (toBedS_c A n c M Y G _ hnnn HMn.out (Beds.below HY.out b4)).mono ?_
  rintro e w5 ⟨Aw5, cw5, rfl, kc5, mc5, r5, hb5⟩
  have z5 := hb5.size
  try simp at z5
  have s5 : Below w4.heap.size w4 w5 := Below.trans (by go_grown) (hb5.mono (by first | omega | (simp; done) | (simp; omega)))
  have b5 : Below w.heap.size w w5 := b4.trans (s5.mono (by omega))
  have R3_5 := Lib.hid (R3_4.out.below s5 (by omega))
  clear R3_4
  have R4_5 := Lib.hid (r5.wide (lo' := w4.heap.size) (by first | omega | (simp; done) | (simp; omega)) (Nat.le_refl _))
  clear r5
  clear hb5 s5
  go_wp2_with fail
  refine (toInts_c A2 k c2 C _ hnk (Sl.below HC.out b5 (Nat.le_refl _))).mono ?_
  rintro e w6 ⟨Aw6, cw6, rfl, kc6, mc6, r6, hb6⟩
  have z6 := hb6.size
  try simp at z6
  have s6 : Below w5.heap.size w5 w6 := Below.trans (by go_grown) (hb6.mono (by first | omega | (simp; done) | (simp; omega)))
  have b6 : Below w.heap.size w w6 := b5.trans (s6.mono (by omega))
  have R3_6 := Lib.hid (R3_5.out.below s6 (by omega))
  clear R3_5
  have R4_6 := Lib.hid (R4_5.out.below s6 (by omega))
  clear R4_5
  have R5_6 := Lib.hid (r6.wide (lo' := w5.heap.size) (by first | omega | (simp; done) | (simp; omega)) (Nat.le_refl _))
  clear r6
  clear hb6 s6
  go_wp2_with fail
  refine (himpl.out _ _ _ _ _ (R4_6.out.beds) (R5_6.out.sl)).mono ?_
  rintro e w7 ⟨Aw7, cw7, rfl, kc7, mc7, r7, hb7⟩
  have z7 := hb7.size
  try simp at z7
  have s7 : Below w6.heap.size w6 w7 := Below.trans (by go_grown) (hb7.mono (by first | omega | (simp; done) | (simp; omega)))
  have b7 : Below w.heap.size w w7 := b6.trans (s7.mono (by omega))
  have R3_7 := Lib.hid (R3_6.out.below s7 (by omega))
  clear R3_6
  have R4_7 := Lib.hid (R4_6.out.below s7 (by omega))
  clear R4_6
  have R5_7 := Lib.hid (R5_6.out.below s7 (by omega))
  clear R5_6
  have R6_7 := Lib.hid (r7.wide (lo' := w6.heap.size) (by first | omega | (simp; done) | (simp; omega)) (Nat.le_refl _))
  clear r7
  clear hb7 s7
  go_wp2_with fail
  refine (eqBedS_same Aw7 Aw4 nr cw7 cw4 MR YR GR _ hmR HMR.out (R6_7.out.beds) (R3_7.out.beds)).mono ?_
  rintro e w8 ⟨rfl, hb8⟩
  have z8 := hb8.size
  try simp at z8
  have s8 : Below w7.heap.size w7 w8 := Below.trans (by go_grown) (hb8.mono (by first | omega | (simp; done) | (simp; omega)))
  have b8 : Below w.heap.size w w8 := b7.trans (s8.mono (by omega))
  have R3_8 := Lib.hid (R3_7.out.below s8 (by omega))
  clear R3_7
  have R4_8 := Lib.hid (R4_7.out.below s8 (by omega))
  clear R4_7
  have R5_8 := Lib.hid (R5_7.out.below s8 (by omega))
  clear R5_7
  have R6_8 := Lib.hid (R6_7.out.below s8 (by omega))
  clear R6_7
  clear hb8 s8
  go_wp2_with fail
  refine (toBedS_c A n c M Y G _ hnnn HMn.out (Beds.below HY.out b8)).mono ?_
  rintro e w9 ⟨Aw9, cw9, rfl, kc9, mc9, r9, hb9⟩
  have z9 := hb9.size
  try simp at z9
  have s9 : Below w8.heap.size w8 w9 := Below.trans (by go_grown) (hb9.mono (by first | omega | (simp; done) | (simp; omega)))
  have b9 : Below w.heap.size w w9 := b8.trans (s9.mono (by omega))
  have R3_9 := Lib.hid (R3_8.out.below s9 (by omega))
  clear R3_8
  have R4_9 := Lib.hid (R4_8.out.below s9 (by omega))
  clear R4_8
  have R5_9 := Lib.hid (R5_8.out.below s9 (by omega))
  clear R5_8
  have R6_9 := Lib.hid (R6_8.out.below s9 (by omega))
  clear R6_8
  have R7_9 := Lib.hid (r9.wide (lo' := w8.heap.size) (by first | omega | (simp; done) | (simp; omega)) (Nat.le_refl _))
  clear r9
  clear hb9 s9
  go_wp2_with fail
  refine (eqBedS_same Aw5 Aw9 n cw5 cw9 M Y G _ hmn (fun j hj => Nat.le_trans (HMn.out j hj) (by unfold maxLen; omega)) (R4_9.out.beds) (R7_9.out.beds)).mono ?_
  rintro e w10 ⟨rfl, hb10⟩
  have z10 := hb10.size
  try simp at z10
  have s10 : Below w9.heap.size w9 w10 := Below.trans (by go_grown) (hb10.mono (by first | omega | (simp; done) | (simp; omega)))
  have b10 : Below w.heap.size w w10 := b9.trans (s10.mono (by omega))
  have R3_10 := Lib.hid (R3_9.out.below s10 (by omega))
  clear R3_9
  have R4_10 := Lib.hid (R4_9.out.below s10 (by omega))
  clear R4_9
  have R5_10 := Lib.hid (R5_9.out.below s10 (by omega))
  clear R5_9
  have R6_10 := Lib.hid (R6_9.out.below s10 (by omega))
  clear R6_9
  have R7_10 := Lib.hid (R7_9.out.below s10 (by omega))
  clear R7_9
  clear hb10 s10
  clear R7_10
  go_wp2_with fail
  refine (toInts_c A2 k c2 C _ hnk (Sl.below HC.out b10 (Nat.le_refl _))).mono ?_
  rintro e w11 ⟨Aw11, cw11, rfl, kc11, mc11, r11, hb11⟩
  have z11 := hb11.size
  try simp at z11
  have s11 : Below w10.heap.size w10 w11 := Below.trans (by go_grown) (hb11.mono (by first | omega | (simp; done) | (simp; omega)))
  have b11 : Below w.heap.size w w11 := b10.trans (s11.mono (by omega))
  have R3_11 := Lib.hid (R3_10.out.below s11 (by omega))
  clear R3_10
  have R4_11 := Lib.hid (R4_10.out.below s11 (by omega))
  clear R4_10
  have R5_11 := Lib.hid (R5_10.out.below s11 (by omega))
  clear R5_10
  have R6_11 := Lib.hid (R6_10.out.below s11 (by omega))
  clear R6_10
  have R8_11 := Lib.hid (r11.wide (lo' := w10.heap.size) (by first | omega | (simp; done) | (simp; omega)) (Nat.le_refl _))
  clear r11
  clear hb11 s11
  go_wp2_with fail
  refine (eqInts_b Aw6 Aw11 k cw6 cw11 C _ hmk (R5_11.out.sl) (R8_11.out.sl)).mono ?_
  rintro e w12 ⟨rfl, hb12⟩
  have z12 := hb12.size
  try simp at z12
  have s12 : Below w11.heap.size w11 w12 := Below.trans (by go_grown) (hb12.mono (by first | omega | (simp; done) | (simp; omega)))
  have b12 : Below w.heap.size w w12 := b11.trans (s12.mono (by omega))
  have R3_12 := Lib.hid (R3_11.out.below s12 (by omega))
  clear R3_11
  have R4_12 := Lib.hid (R4_11.out.below s12 (by omega))
  clear R4_11
  have R5_12 := Lib.hid (R5_11.out.below s12 (by omega))
  clear R5_11
  have R6_12 := Lib.hid (R6_11.out.below s12 (by omega))
  clear R6_11
  have R8_12 := Lib.hid (R8_11.out.below s12 (by omega))
  clear R8_11
  clear hb12 s12
  clear R8_12
  go_wp2_with fail
  refine (markBedS_c Aw5 n cw5 M Y G Tn _ _ _ _ HTn.out hnn (by omega) (by omega) R4_12.out).mono ?_
  rintro e w13 ⟨rfl, r13, hw13⟩
  have z13 := hw13.size
  try simp at z13
  have b13 : Below w.heap.size w w13 := b12.trans (hw13.below (by omega) (by omega))
  have R3_13 := Lib.hid (R3_12.out.wrote hw13 (by omega))
  clear R3_12
  have R5_13 := Lib.hid (R5_12.out.wrote hw13 (by omega))
  clear R5_12
  have R6_13 := Lib.hid (R6_12.out.wrote hw13 (by omega))
  clear R6_12
  have R4_13 := Lib.hid r13
  clear r13 hw13 R4_12
  go_wp2_with fail
  refine (markInts_c Aw6 k cw6 _ _ _ _ _ hnk (by omega) (by omega) R5_13.out).mono ?_
  rintro e w14 ⟨rfl, r14, hw14⟩
  have z14 := hw14.size
  try simp at z14
  have b14 : Below w.heap.size w w14 := b13.trans (hw14.below (by omega) (by omega))
  have R3_14 := Lib.hid (R3_13.out.wrote hw14 (by omega))
  clear R3_13
  have R4_14 := Lib.hid (R4_13.out.wrote hw14 (by omega))
  clear R4_13
  have R6_14 := Lib.hid (R6_13.out.wrote hw14 (by omega))
  clear R6_13
  have R5_14 := Lib.hid r14
  clear r14 hw14 R5_13
  clear R4_14
  clear R5_14
  go_wp2_with fail
  refine (eqBedS_same Aw7 Aw4 nr cw7 cw4 MR YR GR _ hmR HMR.out (R6_14.out.beds) (R3_14.out.beds)).mono ?_
  rintro e w15 ⟨rfl, hb15⟩
  have z15 := hb15.size
  try simp at z15
  have s15 : Below w14.heap.size w14 w15 := Below.trans (by go_grown) (hb15.mono (by first | omega | (simp; done) | (simp; omega)))
  have b15 : Below w.heap.size w w15 := b14.trans (s15.mono (by omega))
  have R3_15 := Lib.hid (R3_14.out.below s15 (by omega))
  clear R3_14
  have R6_15 := Lib.hid (R6_14.out.below s15 (by omega))
  clear R6_14
  clear hb15 s15
  go_wp2_with fail
  refine (markBedS_c Aw7 nr cw7 MR YR GR TR _ _ 1 _ HTR.out hlR (by omega) (by omega) R6_15.out).mono ?_
  rintro e w16 ⟨rfl, r16, hw16⟩
  have z16 := hw16.size
  try simp at z16
  have b16 : Below w.heap.size w w16 := b15.trans (hw16.below (by omega) (by omega))
  have R3_16 := Lib.hid (R3_15.out.wrote hw16 (by omega))
  clear R3_15
  have R6_16 := Lib.hid r16
  clear r16 hw16 R6_15
  go_wp2_with fail
  refine (heldBedS_c Aw7 nr cw7 MR TR 1 _ HTR.out hlR (by omega) (by omega) R6_16.out.beds).mono ?_
  rintro e w17 ⟨rfl, hb17⟩
  have z17 := hb17.size
  try simp at z17
  have s17 : Below w16.heap.size w16 w17 := Below.trans (by go_grown) (hb17.mono (by first | omega | (simp; done) | (simp; omega)))
  have b17 : Below w.heap.size w w17 := b16.trans (s17.mono (by omega))
  have R3_17 := Lib.hid (R3_16.out.below s17 (by omega))
  clear R3_16
  have R6_17 := Lib.hid (R6_16.out.below s17 (by omega))
  clear R6_16
  clear hb17 s17
  go_wp2_with fail
  refine (toBedS_c A n c M Y G _ hnnn HMn.out (Beds.below HY.out b17)).mono ?_
  rintro e w18 ⟨Aw18, cw18, rfl, kc18, mc18, r18, hb18⟩
  have z18 := hb18.size
  try simp at z18
  have s18 : Below w17.heap.size w17 w18 := Below.trans (by go_grown) (hb18.mono (by first | omega | (simp; done) | (simp; omega)))
  have b18 : Below w.heap.size w w18 := b17.trans (s18.mono (by omega))
  have R3_18 := Lib.hid (R3_17.out.below s18 (by omega))
  clear R3_17
  have R6_18 := Lib.hid (R6_17.out.below s18 (by omega))
  clear R6_17
  have R9_18 := Lib.hid (r18.wide (lo' := w17.heap.size) (by first | omega | (simp; done) | (simp; omega)) (Nat.le_refl _))
  clear r18
  clear hb18 s18
  go_wp2_with fail
  refine (toInts_c A2 k c2 C _ hnk (Sl.below HC.out b18 (Nat.le_refl _))).mono ?_
  rintro e w19 ⟨Aw19, cw19, rfl, kc19, mc19, r19, hb19⟩
  have z19 := hb19.size
  try simp at z19
  have s19 : Below w18.heap.size w18 w19 := Below.trans (by go_grown) (hb19.mono (by first | omega | (simp; done) | (simp; omega)))
  have b19 : Below w.heap.size w w19 := b18.trans (s19.mono (by omega))
  have R3_19 := Lib.hid (R3_18.out.below s19 (by omega))
  clear R3_18
  have R6_19 := Lib.hid (R6_18.out.below s19 (by omega))
  clear R6_18
  have R9_19 := Lib.hid (R9_18.out.below s19 (by omega))
  clear R9_18
  have R10_19 := Lib.hid (r19.wide (lo' := w18.heap.size) (by first | omega | (simp; done) | (simp; omega)) (Nat.le_refl _))
  clear r19
  clear hb19 s19
  go_wp2_with fail
  refine (himpl.out _ _ _ _ _ (R9_19.out.beds) (R10_19.out.sl)).mono ?_
  rintro e w20 ⟨Aw20, cw20, rfl, kc20, mc20, r20, hb20⟩
  have z20 := hb20.size
  try simp at z20
  have s20 : Below w19.heap.size w19 w20 := Below.trans (by go_grown) (hb20.mono (by first | omega | (simp; done) | (simp; omega)))
  have b20 : Below w.heap.size w w20 := b19.trans (s20.mono (by omega))
  have R3_20 := Lib.hid (R3_19.out.below s20 (by omega))
  clear R3_19
  have R6_20 := Lib.hid (R6_19.out.below s20 (by omega))
  clear R6_19
  have R9_20 := Lib.hid (R9_19.out.below s20 (by omega))
  clear R9_19
  have R10_20 := Lib.hid (R10_19.out.below s20 (by omega))
  clear R10_19
  have R11_20 := Lib.hid (r20.wide (lo' := w19.heap.size) (by first | omega | (simp; done) | (simp; omega)) (Nat.le_refl _))
  clear r20
  clear hb20 s20
  clear R9_20
  clear R10_20
  go_wp2_with fail
  refine (eqBedS_same Aw20 Aw4 nr cw20 cw4 MR YR GR _ hmR HMR.out (R11_20.out.beds) (R3_20.out.beds)).mono ?_
  rintro e w21 ⟨rfl, hb21⟩
  have z21 := hb21.size
  try simp at z21
  have s21 : Below w20.heap.size w20 w21 := Below.trans (by go_grown) (hb21.mono (by first | omega | (simp; done) | (simp; omega)))
  have b21 : Below w.heap.size w w21 := b20.trans (s21.mono (by omega))
  have R3_21 := Lib.hid (R3_20.out.below s21 (by omega))
  clear R3_20
  have R6_21 := Lib.hid (R6_20.out.below s21 (by omega))
  clear R6_20
  have R11_21 := Lib.hid (R11_20.out.below s21 (by omega))
  clear R11_20
  clear hb21 s21
  go_wp2_with fail
  refine (heldBedS_c Aw7 nr cw7 MR TR 1 _ HTR.out hlR (by omega) (by omega) R6_21.out.beds).mono ?_
  rintro e w22 ⟨rfl, hb22⟩
  have z22 := hb22.size
  try simp at z22
  have s22 : Below w21.heap.size w21 w22 := Below.trans (by go_grown) (hb22.mono (by first | omega | (simp; done) | (simp; omega)))
  have b22 : Below w.heap.size w w22 := b21.trans (s22.mono (by omega))
  have R3_22 := Lib.hid (R3_21.out.below s22 (by omega))
  clear R3_21
  have R6_22 := Lib.hid (R6_21.out.below s22 (by omega))
  clear R6_21
  have R11_22 := Lib.hid (R11_21.out.below s22 (by omega))
  clear R11_21
  clear hb22 s22
  go_wp2
  go_ret
  exact ⟨rfl, b22⟩

set_option maxHeartbeats 1000000 in
theorem big (A : Option Addr) (n c : Nat) (M : Nat → Nat) (Y : Nat → Nat → Int) (G : Nat → Int) (A2 : Option Addr) (k c2 : Nat) (w : World) (hn : n ≤ maxLen) (hM : ∀ j, j < n → M j ≤ maxLen) (h : Beds w A n M Y G) (hk : k ≤ maxLen) (hb : 1048576 < n + sumM M n ∨ 1048576 < k) :
    Calls Try.prog 12 #[.slice A n c, .slice A2 k c2] w fun e w' => e = .returned (.bool true) ∧ Below w.heap.size w w' := by
  have H := Lib.hid h
  have HM := Lib.hid hM
  clear h hM
  by_cases h2 : 1048576 < k
  · have h2' : (1048576 : Int) < (k : Int) := by omega
    unfold maxLen at hk
    go_enter Try.func12, Try.ntmps12
    go_wp2
    go_ret
    exact ⟨rfl, by go_grown⟩
  · have h2' : ¬ (1048576 : Int) < (k : Int) := by omega
    have hT : 1048576 < n + sumM M n := by omega
    have HT := Lib.hid hT
    clear hT hb
    go_enter Try.func12, Try.ntmps12
    go_wp2_with fail
    refine (szBeds_big A n c M Y G 1048576 _ (by omega) (by omega) (by have := HT.out; omega) hn HM.out H.out).mono ?_
    rintro e w1 ⟨rfl, hb1⟩
    go_wp2
    go_ret
    exact ⟨rfl, hb1⟩

theorem sum0 (M : Nat → Nat) : 0 + sumM M 0 = 0 := rfl
theorem walk (A : Option Addr) (n c : Nat) (M : Nat → Nat) (Y : Nat → Nat → Int) (G : Nat → Int) (A2 : Option Addr) (k c2 : Nat) (C : Nat → Int) (w : World) (le : n ≤ c) (mx : c ≤ maxLen) (sl : Beds w A n M Y G) (hM : ∀ j, j < n → M j ≤ maxLen) (wf : ∀ j, j < n → (Lit.int .i64 (G j)).wf = true)
    (le2 : k ≤ c2) (mx2 : c2 ≤ maxLen) (sl2 : Sl w A2 k 1 C) (wf2 : ∀ j, j < k * 1 → (Lit.int .i64 (C j)).wf = true) :
    Calls Try.prog 12 #[.slice A n c, .slice A2 k c2] w fun e w' => e = .returned (.bool true) ∧ Below w.heap.size w w' := by
  by_cases hs : n + sumM M n ≤ 1048576 ∧ k ≤ 1048576
  · obtain ⟨hn, hk⟩ := hs
    cases hb : bedsB n M Y G
    · exact core A n c M Y G _ A2 k c2 C 0 M Y G 0 (sum0 M) (by omega) 1 w rfl hn sl hk sl2 (fun A' c' B' d' w h q => afterYear_s_no A' n c' M Y G B' k d' C 1 w (by omega) hM (by omega) h q (.inl ⟨hb, rfl⟩)) (fun A' c' B' d' w h q => afterYear_i_no A' n c' M Y G B' k d' C 1 w (by omega) hM (by omega) h q (.inl ⟨hb, rfl⟩))
    · cases hr : risL 0 ((n : Int) - 1) C k
      · exact core A n c M Y G _ A2 k c2 C 0 M Y G 0 (sum0 M) (by omega) 2 w rfl hn sl hk sl2 (fun A' c' B' d' w h q => afterYear_s_no A' n c' M Y G B' k d' C 2 w (by omega) hM (by omega) h q (.inr ⟨hb, hr, rfl⟩)) (fun A' c' B' d' w h q => afterYear_i_no A' n c' M Y G B' k d' C 2 w (by omega) hM (by omega) h q (.inr ⟨hb, hr, rfl⟩))
      · exact core A n c M Y G _ A2 k c2 C n M Y _ _ rfl hn 0 w rfl hn sl hk sl2 (fun A' c' B' d' w h q => afterYear_s A' n c' M Y G B' k d' C w (by omega) h q hb hr) (fun A' c' B' d' w h q => afterYear_i A' n c' M Y G B' k d' C w (by omega) h q hb hr)
  · exact big A n c M Y G A2 k c2 w (by omega) hM sl (by omega) (by omega)

theorem own : ownKnob Try.prog.godebug = none := by kernel_rfl
theorem laidOut : laidOutB Try.prog = true := by kernel_rfl

set_option maxRecDepth 100000 in
theorem lifted (os : Os) (started : os.Started) (H : Type) (enc : TypeId × Value → H) :
    ReturnsInHanded {} Try.checked os 12 .any (Rows.fnExactAfterYearSpec.pre6 enc Try.prog Try.f12 Rows.fnExactAfterYearRow.domain false) (Rows.fnExactAfterYearSpec.post enc Try.prog Try.f12 false true false false) := by
  refine returnsInHanded_of_change (C := Try.checked) own started (by kernel_rfl) Try.func12
    (ChangeSpec.witness6 (enc := enc) (C := Try.checked) false ⟨#[], #[.slice none 0 0, .slice none 0 0], []⟩ 8 (by kernel_rfl) (by kernel_rfl) (by kernel_rfl) (by kernel_rfl)) ?_
  intro W base args ds gs before hval0 hW hcnd hreach
  have hval : ∀ (j : Nat) t v, Try.f12.params[j]? = some t → args[j]? = some v → Value.okWide Try.prog W .any base t v := hval0
  have hW' := hW
  obtain ⟨p, q, hA0, hV, rfl, hfz, hnd⟩ := hW
  have hA : DataW.TrodAll enc Try.prog W 0 (fun _ => true) true Try.f12.params.toList args.toList ds p := hA0
  rw [Try.params12] at hA hval
  obtain ⟨v0, vs0, d0, ds0, p0, q0, hargs, rfl, rfl, h0, r0⟩ := trodAll_cons hA
  obtain ⟨v1, vs1, d1, ds1, p1, q1, hargs1, rfl, rfl, h1, r1⟩ := trodAll_cons r0
  obtain ⟨rfl, rfl, rfl⟩ := trodAll_nil r1
  obtain rfl : args = #[v0, v1] := by cases args; simp_all
  obtain ⟨rfl, rfl⟩ := trodVars_none hV
  have k0 := h0
  have lt0 : ∀ x ∈ p0, x.block < W.heap.size := by obtain ⟨m, hm⟩ := k0; exact DataW.trod_lt m _ _ _ hm
  obtain ⟨a0, len0, cap0, rfl⟩ := okWide_slice Try.underlying53 (hval 0 53 v0 rfl rfl)
  obtain ⟨le0, mx0, M0, Y0, G0, sl0, hM0, wf0⟩ : len0 ≤ cap0 ∧ cap0 ≤ maxLen ∧ ∃ (M : Nat → Nat) (Y : Nat → Nat → Int) (G : Nat → Int), Beds W a0 len0 M Y G ∧ (∀ j, j < len0 → M j ≤ maxLen) ∧ ∀ j, j < len0 → (Lit.int .i64 (G j)).wf = true := by
    obtain ⟨fuel, hf⟩ := h0
    exact open_beds Try.underlying53 Try.underlying61 (by kernel_rfl) (by kernel_rfl) Try.underlying29 Try.underlying2 (by kernel_rfl) Try.underlying2 hf
  have k1 := h1
  have lt1 : ∀ x ∈ p1, x.block < W.heap.size := by obtain ⟨m, hm⟩ := k1; exact DataW.trod_lt m _ _ _ hm
  obtain ⟨a1, len1, cap1, rfl⟩ := okWide_slice Try.underlying29 (hval 1 29 v1 rfl rfl)
  obtain ⟨le1, mx1, X1, sl1, wf1⟩ : len1 ≤ cap1 ∧ cap1 ≤ maxLen ∧ ∃ X : Nat → Int, Sl W a1 len1 1 X ∧ ∀ j, j < len1 * 1 → (Lit.int .i64 (X j)).wf = true := by
    obtain ⟨fuel, hf⟩ := h1
    exact open_nums Try.underlying29 Try.underlying2 (by kernel_rfl) hf
  clear hA0 hval0
  refine (walk a0 len0 cap0 M0 Y0 G0 a1 len1 cap1 X1 W le0 mx0 sl0 hM0 wf0 le1 mx1 sl1 wf1).mono fun e W' ⟨he, bel⟩ => ?_
  subst he
  exact ⟨_, rfl, _, _, _, [], _, [], hW', trodAll_mk1 (shut_bool Try.underlying4 _), (trodAll_cons_mk (Below.trod laidOut (by kernel_rfl) (of_decide_eq_true (by kernel_rfl)) k0 bel lt0) (trodAll_cons_mk (Below.trod laidOut (by kernel_rfl) (of_decide_eq_true (by kernel_rfl)) k1 bel lt1) trodAll_mk0)), rfl, bel.frame _, fun h => by cases h⟩

theorem over : Rows.fnExactAfterYearRow.holds Try.pinned (OpenSpec.ofChange Rows.fnExactAfterYearSpec) :=
  OpenClaim.holds_of_wide 12 Try.f12 rfl rfl rfl rfl rfl rfl rfl ⟨rfl, rfl, rfl, rfl, rfl⟩ rfl rfl rfl rfl rfl (by kernel_rfl) Try.func12 (by kernel_rfl)
    (of_decide_eq_true (by kernel_rfl)) (by unfold Func.isWrapper; first | (rw [if_pos (by decide +kernel)]; kernel_rfl) | (rw [if_neg (by decide +kernel)]; exact ⟨rfl, rfl⟩))
    (fun os started H enc _ => lifted os started H enc)

theorem proved : Rows.FnExactAfterYearSaid := over

end Go.Proofs.Ytcpaenmhnoagdab.fnExactAfterYear
