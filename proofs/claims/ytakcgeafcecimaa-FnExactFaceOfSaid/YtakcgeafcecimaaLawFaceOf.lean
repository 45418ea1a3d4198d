/-
  For every twill and any two numbers, FnExactFaceOf returns true: FaceOf of the program gives the texts and the code of the model, keeps the twill, and its answer is memory of its own. No condition.
-/
import Derived.Test.YtakcgeafcecimaaQw
import Derived.Test.YtakcgeafcecimaaQl
import Derived.Test.YtakcgeafcecimaaOpenBed
namespace Go.Proofs.Ytakcgeafcecimaa.fnExactFaceOf
open Go.ChangeShapes Go.WideShapes Go.ChangeAt Go.RowKit Go.Joins
open Go.ChangeMaps (open_string shut_string)
open Go.Proofs.Ytakcgeafcecimaa.twl Go.Proofs.Ytakcgeafcecimaa.wk Go.Proofs.Ytakcgeafcecimaa.rod Go.Proofs.Ytakcgeafcecimaa.mem Go.Proofs.Ytakcgeafcecimaa.nums
set_option linter.unusedVariables false

set_option maxHeartbeats 4000000 in
set_option maxRecDepth 100000 in
theorem core (A : Option Addr) (n c : Nat) (X : Nat → Int) (st : Int) (sa : Int) (ra : Int) (m : Nat) (Tx : Nat → ByteArray) (hlR : m ≤ 1048576) (code : Int) (w : World) (hnn : n ≤ 1048576) (hX : Sl w A n 1 X)
    (hspec : Hid (∀ (A' : Option Addr) (c' : Nat) (w : World), Sl w A' n 1 X → Calls Try.prog 21 #[.agg #[.slice A' n c', .int .i64 st], .int .i64 sa, .int .i64 ra] w (fun e w' => ∃ A c, e = .returned (.tuple #[.slice A m c, .int .i64 code]) ∧ m ≤ c ∧ c ≤ maxLen ∧ Go.Proofs.Ytakcgeafcecimaa.split.RowT w' w.heap.size w'.heap.size A m Tx ∧ Below w.heap.size w w')))
    (himpl : Hid (∀ (A' : Option Addr) (c' : Nat) (w : World), Sl w A' n 1 X → Calls Try.prog 22 #[.agg #[.slice A' n c', .int .i64 st], .int .i64 sa, .int .i64 ra] w (fun e w' => ∃ A c, e = .returned (.tuple #[.slice A m c, .int .i64 code]) ∧ m ≤ c ∧ c ≤ maxLen ∧ Go.Proofs.Ytakcgeafcecimaa.split.RowT w' w.heap.size w'.heap.size A m Tx ∧ Below w.heap.size w w'))) :
    Calls Try.prog 6 #[.agg #[.slice A n c, .int .i64 st], .int .i64 sa, .int .i64 ra] w fun e w' => e = .returned (.bool true) ∧ Below w.heap.size w w' := by
  have HX := Lib.hid hX
  clear hX
  have hmn : n ≤ maxLen := by unfold maxLen; omega
  have hqn : ¬ (1048576 : Int) < (n : Int) := by omega
  have hrn : ¬ (1048576 - (n : Int)) < 0 := by omega
  have hmR : m ≤ maxLen := by unfold maxLen; omega
  have hlt0 : ¬ ((1 + m : Nat) : Int) < 0 := by omega
  have b0 : Below w.heap.size w w := Below.refl _ _
  go_enter Try.func6, Try.ntmps6
  go_wp2_with fail
  refine (szTwill_c A n c st 1048576 _ (by omega) (by omega)).mono ?_
  rintro e w1 ⟨rfl, hb1⟩
  have z1 := hb1.size
  try simp at z1
  have s1 : Below w.heap.size w w1 := Below.trans (by go_grown) (hb1.mono (by first | omega | (simp; done) | (simp; omega)))
  have b1 : Below w.heap.size w w1 := b0.trans (s1.mono (by omega))
  have p1 : w1.cell? ⟨w.heap.size, 0, none⟩ = some (.slice A n c) := by rw [(bcell hb1).1 _ _ (by first | omega | (simp; done) | (simp; omega))]; go_simp
  have p2 : w1.cell? ⟨w.heap.size, 1, none⟩ = some (.int .i64 st) := by rw [(bcell hb1).1 _ _ (by first | omega | (simp; done) | (simp; omega))]; go_simp
  have y_w : w.heap.size < w1.heap.size := by omega
  clear hb1 s1
  go_wp2_with fail
  refine (toTwill_c A n c X st _ hnn (Sl.below HX.out b1 (Nat.le_refl _))).mono ?_
  rintro e w2 ⟨Aw2, cw2, rfl, kc2, mc2, r2, hb2⟩
  have z2 := hb2.size
  try simp at z2
  have s2 : Below w1.heap.size w1 w2 := Below.trans (by go_grown) (hb2.mono (by first | omega | (simp; done) | (simp; omega)))
  have b2 : Below w.heap.size w w2 := b1.trans (s2.mono (by omega))
  replace p1 : w2.cell? ⟨w.heap.size, 0, none⟩ = some (.slice A n c) := (s2.cell (p := ⟨w.heap.size, 0, none⟩) (show w.heap.size < w1.heap.size by omega)).trans p1
  replace p2 : w2.cell? ⟨w.heap.size, 1, none⟩ = some (.int .i64 st) := (s2.cell (p := ⟨w.heap.size, 1, none⟩) (show w.heap.size < w1.heap.size by omega)).trans p2
  replace y_w : w.heap.size < w2.heap.size := by omega
  have R1_2 := Lib.hid (r2.wide (lo' := w1.heap.size) (by first | omega | (simp; done) | (simp; omega)) (Nat.le_refl _))
  clear r2
  clear hb2 s2
  go_wp2_with fail
  refine (hspec.out _ _ _ (R1_2.out.sl)).mono ?_
  rintro e w3 ⟨Aw3, cw3, rfl, kc3, mc3, r3, hb3⟩
  have z3 := hb3.size
  try simp at z3
  have s3 : Below w2.heap.size w2 w3 := Below.trans (by go_grown) (hb3.mono (by first | omega | (simp; done) | (simp; omega)))
  have b3 : Below w.heap.size w w3 := b2.trans (s3.mono (by omega))
  replace p1 : w3.cell? ⟨w.heap.size, 0, none⟩ = some (.slice A n c) := (s3.cell (p := ⟨w.heap.size, 0, none⟩) (show w.heap.size < w2.heap.size by omega)).trans p1
  replace p2 : w3.cell? ⟨w.heap.size, 1, none⟩ = some (.int .i64 st) := (s3.cell (p := ⟨w.heap.size, 1, none⟩) (show w.heap.size < w2.heap.size by omega)).trans p2
  replace y_w : w.heap.size < w3.heap.size := by omega
  have R1_3 := Lib.hid (R1_2.out.below s3 (by omega))
  clear R1_2
  have R2_3 := Lib.hid (r3.wide (lo' := w2.heap.size) (by first | omega | (simp; done) | (simp; omega)) (Nat.le_refl _))
  clear r3
  clear hb3 s3
  clear R1_3
  go_wp2_with fail
  refine (toTwill_c A n c X st _ hnn (Sl.below HX.out b3 (Nat.le_refl _))).mono ?_
  rintro e w4 ⟨Aw4, cw4, rfl, kc4, mc4, r4, hb4⟩
  have z4 := hb4.size
  try simp at z4
  have s4 : Below w3.heap.size w3 w4 := Below.trans (by go_grown) (hb4.mono (by first | omega | (simp; done) | (simp; omega)))
  have b4 : Below w.heap.size w w4 := b3.trans (s4.mono (by omega))
  replace p1 : w4.cell? ⟨w.heap.size, 0, none⟩ = some (.slice A n c) := (s4.cell (p := ⟨w.heap.size, 0, none⟩) (show w.heap.size < w3.heap.size by omega)).trans p1
  replace p2 : w4.cell? ⟨w.heap.size, 1, none⟩ = some (.int .i64 st) := (s4.cell (p := ⟨w.heap.size, 1, none⟩) (show w.heap.size < w3.heap.size by omega)).trans p2
  replace y_w : w.heap.size < w4.heap.size := by omega
  have R2_4 := Lib.hid (R2_3.out.below s4 (by omega))
  clear R2_3
  have R3_4 := Lib.hid (r4.wide (lo' := w3.heap.size) (by first | omega | (simp; done) | (simp; omega)) (Nat.le_refl _))
  clear r4
  clear hb4 s4
  go_wp2_with fail
  refine (himpl.out _ _ _ (R3_4.out.sl.below (K := w4.heap.size) (by go_grown) (Nat.le_refl _))).mono ?_
  rintro e w5 ⟨Aw5, cw5, rfl, kc5, mc5, r5, hb5⟩
  have z5 := hb5.size
  try simp at z5
  have s5 : Below w4.heap.size w4 w5 := Below.trans (by go_grown) (hb5.mono (by first | omega | (simp; done) | (simp; omega)))
  have b5 : Below w.heap.size w w5 := b4.trans (s5.mono (by omega))
  replace p1 : w5.cell? ⟨w.heap.size, 0, none⟩ = some (.slice A n c) := (s5.cell (p := ⟨w.heap.size, 0, none⟩) (show w.heap.size < w4.heap.size by omega)).trans p1
  replace p2 : w5.cell? ⟨w.heap.size, 1, none⟩ = some (.int .i64 st) := (s5.cell (p := ⟨w.heap.size, 1, none⟩) (show w.heap.size < w4.heap.size by omega)).trans p2
  have p3 : w5.cell? ⟨w4.heap.size, 0, none⟩ = some (.slice Aw4 n cw4) := by rw [(bcell hb5).1 _ _ (by first | omega | (simp; done) | (simp; omega))]; go_simp
  have p4 : w5.cell? ⟨w4.heap.size, 1, none⟩ = some (.int .i64 st) := by rw [(bcell hb5).1 _ _ (by first | omega | (simp; done) | (simp; omega))]; go_simp
  replace y_w : w.heap.size < w5.heap.size := by omega
  have y_w4 : w4.heap.size < w5.heap.size := by omega
  have R2_5 := Lib.hid (R2_4.out.below s5 (by omega))
  clear R2_4
  have R3_5 := Lib.hid (R3_4.out.below s5 (by omega))
  clear R3_4
  have R4_5 := Lib.hid (r5.wide (lo' := w4.heap.size + 1) (by first | omega | (simp; done) | (simp; omega)) (Nat.le_refl _))
  clear r5
  clear hb5 s5
  go_wp2_with fail
  refine (Go.Proofs.Ytakcgeafcecimaa.split.eqStrs_same Aw5 Aw3 m cw5 cw3 Tx _ hmR (R4_5.out.sl) (R2_5.out.sl)).mono ?_
  rintro e w6 ⟨rfl, m6, hd6⟩
  have hb6 : Below w5.heap.size w5 w6 := by rw [hd6]; exact drewN_below (Below.refl _ _) m6
  clear hd6
  have z6 := hb6.size
  try simp at z6
  have s6 : Below w5.heap.size w5 w6 := Below.trans (by go_grown) (hb6.mono (by first | omega | (simp; done) | (simp; omega)))
  have b6 : Below w.heap.size w w6 := b5.trans (s6.mono (by omega))
  replace p1 : w6.cell? ⟨w.heap.size, 0, none⟩ = some (.slice A n c) := (s6.cell (p := ⟨w.heap.size, 0, none⟩) (show w.heap.size < w5.heap.size by omega)).trans p1
  replace p2 : w6.cell? ⟨w.heap.size, 1, none⟩ = some (.int .i64 st) := (s6.cell (p := ⟨w.heap.size, 1, none⟩) (show w.heap.size < w5.heap.size by omega)).trans p2
  replace p3 : w6.cell? ⟨w4.heap.size, 0, none⟩ = some (.slice Aw4 n cw4) := (s6.cell (p := ⟨w4.heap.size, 0, none⟩) (show w4.heap.size < w5.heap.size by omega)).trans p3
  replace p4 : w6.cell? ⟨w4.heap.size, 1, none⟩ = some (.int .i64 st) := (s6.cell (p := ⟨w4.heap.size, 1, none⟩) (show w4.heap.size < w5.heap.size by omega)).trans p4
  replace y_w : w.heap.size < w6.heap.size := by omega
  replace y_w4 : w4.heap.size < w6.heap.size := by omega
  have R2_6 := Lib.hid (R2_5.out.below s6 (by omega))
  clear R2_5
  have R3_6 := Lib.hid (R3_5.out.below s6 (by omega))
  clear R3_5
  have R4_6 := Lib.hid (R4_5.out.below s6 (by omega))
  clear R4_5
  clear hb6 s6
  go_wp2_with fail
  go_region_held3 (fun q => q.cell? ⟨w4.heap.size, 0, none⟩ = some (.slice Aw4 n cw4) ∧ q.cell? ⟨w4.heap.size, 1, none⟩ = some (.int .i64 st) ∧ q.cell? ⟨w.heap.size, 0, none⟩ = some (.slice A n c) ∧ q.cell? ⟨w.heap.size, 1, none⟩ = some (.int .i64 st)) (first | exact ⟨p3, p4, p1, p2⟩ | go_keep)
    (first
      | (go_at_call 14; refine (toTwill_c A n c X st _ hnn (Sl.below HX.out b6.drew (Nat.le_refl _))).mono ?_; rintro e w7 ⟨Aw7, cw7, rfl, kc7, mc7, r7, hb7⟩
         have z7 := hb7.size
         try simp at z7
         have s7 : Below w6.heap.size w6 w7 := Below.trans (Below.drew (Below.refl _ _)) (hb7.mono (by first | omega | (simp; done) | (simp; omega)))
         have b7 : Below w.heap.size w w7 := b6.trans (s7.mono (by omega))
         replace p1 : w7.cell? ⟨w.heap.size, 0, none⟩ = some (.slice A n c) := (s7.cell (p := ⟨w.heap.size, 0, none⟩) (show w.heap.size < w6.heap.size by omega)).trans p1
         replace p2 : w7.cell? ⟨w.heap.size, 1, none⟩ = some (.int .i64 st) := (s7.cell (p := ⟨w.heap.size, 1, none⟩) (show w.heap.size < w6.heap.size by omega)).trans p2
         replace p3 : w7.cell? ⟨w4.heap.size, 0, none⟩ = some (.slice Aw4 n cw4) := (s7.cell (p := ⟨w4.heap.size, 0, none⟩) (show w4.heap.size < w6.heap.size by omega)).trans p3
         replace p4 : w7.cell? ⟨w4.heap.size, 1, none⟩ = some (.int .i64 st) := (s7.cell (p := ⟨w4.heap.size, 1, none⟩) (show w4.heap.size < w6.heap.size by omega)).trans p4
         replace y_w : w.heap.size < w7.heap.size := by omega
         replace y_w4 : w4.heap.size < w7.heap.size := by omega
         have R2_7 := Lib.hid (R2_6.out.below s7 (by omega))
         clear R2_6
         have R3_7 := Lib.hid (R3_6.out.below s7 (by omega))
         clear R3_6
         have R4_7 := Lib.hid (R4_6.out.below s7 (by omega))
         clear R4_6
         have R5_7 := Lib.hid (r7.wide (lo' := w6.heap.size) (by first | omega | (simp; done) | (simp; omega)) (Nat.le_refl _))
         clear r7
         clear hb7 s7)
      | (go_at_call 16; refine (eqTwill_same Aw4 Aw7 n cw4 cw7 X st _ hmn (R3_7.out.sl) (R5_7.out.sl)).mono ?_; rintro e w8 ⟨rfl, hb8⟩
         have z8 := hb8.size
         try simp at z8
         have s8 : Below w7.heap.size w7 w8 := Below.trans (by go_grown) (hb8.mono (by first | omega | (simp; done) | (simp; omega)))
         have b8 : Below w.heap.size w w8 := b7.trans (s8.mono (by omega))
         replace p1 : w8.cell? ⟨w.heap.size, 0, none⟩ = some (.slice A n c) := (s8.cell (p := ⟨w.heap.size, 0, none⟩) (show w.heap.size < w7.heap.size by omega)).trans p1
         replace p2 : w8.cell? ⟨w.heap.size, 1, none⟩ = some (.int .i64 st) := (s8.cell (p := ⟨w.heap.size, 1, none⟩) (show w.heap.size < w7.heap.size by omega)).trans p2
         replace p3 : w8.cell? ⟨w4.heap.size, 0, none⟩ = some (.slice Aw4 n cw4) := (s8.cell (p := ⟨w4.heap.size, 0, none⟩) (show w4.heap.size < w7.heap.size by omega)).trans p3
         replace p4 : w8.cell? ⟨w4.heap.size, 1, none⟩ = some (.int .i64 st) := (s8.cell (p := ⟨w4.heap.size, 1, none⟩) (show w4.heap.size < w7.heap.size by omega)).trans p4
         replace y_w : w.heap.size < w8.heap.size := by omega
         replace y_w4 : w4.heap.size < w8.heap.size := by omega
         have R2_8 := Lib.hid (R2_7.out.below s8 (by omega))
         clear R2_7
         have R3_8 := Lib.hid (R3_7.out.below s8 (by omega))
         clear R3_7
         have R4_8 := Lib.hid (R4_7.out.below s8 (by omega))
         clear R4_7
         have R5_8 := Lib.hid (R5_7.out.below s8 (by omega))
         clear R5_7
         clear hb8 s8))
  clear R5_8
  go_wp2_with fail
  refine (markTwill_c Aw4 n cw4 _ _ _ _ st _ hnn (by omega) (by omega) R3_8.out).mono ?_
  rintro e w9 ⟨rfl, r9, hw9⟩
  have z9 := hw9.size
  try simp at z9
  have b9 : Below w.heap.size w w9 := b8.trans (hw9.below (by omega) (by omega))
  replace p1 : w9.cell? ⟨w.heap.size, 0, none⟩ = some (.slice A n c) := (hw9.cell (b := w.heap.size) (o := 0) (by omega) (by omega)).trans p1
  replace p2 : w9.cell? ⟨w.heap.size, 1, none⟩ = some (.int .i64 st) := (hw9.cell (b := w.heap.size) (o := 1) (by omega) (by omega)).trans p2
  replace p3 : w9.cell? ⟨w4.heap.size, 0, none⟩ = some (.slice Aw4 n cw4) := (hw9.cell (b := w4.heap.size) (o := 0) (by omega) (by omega)).trans p3
  replace p4 : w9.cell? ⟨w4.heap.size, 1, none⟩ = some (.int .i64 st) := (hw9.cell (b := w4.heap.size) (o := 1) (by omega) (by omega)).trans p4
  replace y_w : w.heap.size < w9.heap.size := by omega
  replace y_w4 : w4.heap.size < w9.heap.size := by omega
  have R2_9 := Lib.hid (R2_8.out.wrote hw9 (by omega))
  clear R2_8
  have R4_9 := Lib.hid (R4_8.out.wrote hw9 (by omega))
  clear R4_8
  have R3_9 := Lib.hid r9
  clear r9 hw9 R3_8
  clear R3_9
  go_wp2_with fail
  refine (Go.Proofs.Ytakcgeafcecimaa.split.eqStrs_same Aw5 Aw3 m cw5 cw3 Tx _ hmR (R4_9.out.sl) (R2_9.out.sl)).mono ?_
  rintro e w10 ⟨rfl, m10, hd10⟩
  have hb10 : Below w9.heap.size w9 w10 := by rw [hd10]; exact drewN_below (Below.refl _ _) m10
  clear hd10
  have z10 := hb10.size
  try simp at z10
  have s10 : Below w9.heap.size w9 w10 := Below.trans (by go_grown) (hb10.mono (by first | omega | (simp; done) | (simp; omega)))
  have b10 : Below w.heap.size w w10 := b9.trans (s10.mono (by omega))
  replace p1 : w10.cell? ⟨w.heap.size, 0, none⟩ = some (.slice A n c) := (s10.cell (p := ⟨w.heap.size, 0, none⟩) (show w.heap.size < w9.heap.size by omega)).trans p1
  replace p2 : w10.cell? ⟨w.heap.size, 1, none⟩ = some (.int .i64 st) := (s10.cell (p := ⟨w.heap.size, 1, none⟩) (show w.heap.size < w9.heap.size by omega)).trans p2
  replace p3 : w10.cell? ⟨w4.heap.size, 0, none⟩ = some (.slice Aw4 n cw4) := (s10.cell (p := ⟨w4.heap.size, 0, none⟩) (show w4.heap.size < w9.heap.size by omega)).trans p3
  replace p4 : w10.cell? ⟨w4.heap.size, 1, none⟩ = some (.int .i64 st) := (s10.cell (p := ⟨w4.heap.size, 1, none⟩) (show w4.heap.size < w9.heap.size by omega)).trans p4
  replace y_w : w.heap.size < w10.heap.size := by omega
  replace y_w4 : w4.heap.size < w10.heap.size := by omega
  have R2_10 := Lib.hid (R2_9.out.below s10 (by omega))
  clear R2_9
  have R4_10 := Lib.hid (R4_9.out.below s10 (by omega))
  clear R4_9
  clear hb10 s10
  go_wp2_with fail
  refine (Go.Proofs.Ytakcgeafcecimaa.split.markStrs_c Aw5 m cw5 _ _ Tx _ (by omega) R4_10.out (by omega)).mono ?_
  rintro e w11 ⟨rfl, r11, hw11⟩
  have z11 := hw11.size
  try simp at z11
  have b11 : Below w.heap.size w w11 := b10.trans (hw11.below (by omega) (by omega))
  replace p1 : w11.cell? ⟨w.heap.size, 0, none⟩ = some (.slice A n c) := (hw11.cell (b := w.heap.size) (o := 0) (by omega) (by omega)).trans p1
  replace p2 : w11.cell? ⟨w.heap.size, 1, none⟩ = some (.int .i64 st) := (hw11.cell (b := w.heap.size) (o := 1) (by omega) (by omega)).trans p2
  replace p3 : w11.cell? ⟨w4.heap.size, 0, none⟩ = some (.slice Aw4 n cw4) := (hw11.cell (b := w4.heap.size) (o := 0) (by omega) (by omega)).trans p3
  replace p4 : w11.cell? ⟨w4.heap.size, 1, none⟩ = some (.int .i64 st) := (hw11.cell (b := w4.heap.size) (o := 1) (by omega) (by omega)).trans p4
  replace y_w : w.heap.size < w11.heap.size := by omega
  replace y_w4 : w4.heap.size < w11.heap.size := by omega
  have R2_11 := Lib.hid (R2_10.out.wrote hw11 (by omega))
  clear R2_10
  have R4_11 := Lib.hid r11
  clear r11 hw11 R4_10
  go_wp2_with fail
  refine (Go.Proofs.Ytakcgeafcecimaa.split.heldStrs_c Aw5 m cw5 _ (by omega) R4_11.out.sl).mono ?_
  rintro e w12 ⟨rfl, hb12⟩
  have z12 := hb12.size
  try simp at z12
  have s12 : Below w11.heap.size w11 w12 := Below.trans (by go_grown) (hb12.mono (by first | omega | (simp; done) | (simp; omega)))
  have b12 : Below w.heap.size w w12 := b11.trans (s12.mono (by omega))
  replace p1 : w12.cell? ⟨w.heap.size, 0, none⟩ = some (.slice A n c) := (s12.cell (p := ⟨w.heap.size, 0, none⟩) (show w.heap.size < w11.heap.size by omega)).trans p1
  replace p2 : w12.cell? ⟨w.heap.size, 1, none⟩ = some (.int .i64 st) := (s12.cell (p := ⟨w.heap.size, 1, none⟩) (show w.heap.size < w11.heap.size by omega)).trans p2
  replace p3 : w12.cell? ⟨w4.heap.size, 0, none⟩ = some (.slice Aw4 n cw4) := (s12.cell (p := ⟨w4.heap.size, 0, none⟩) (show w4.heap.size < w11.heap.size by omega)).trans p3
  replace p4 : w12.cell? ⟨w4.heap.size, 1, none⟩ = some (.int .i64 st) := (s12.cell (p := ⟨w4.heap.size, 1, none⟩) (show w4.heap.size < w11.heap.size by omega)).trans p4
  replace y_w : w.heap.size < w12.heap.size := by omega
  replace y_w4 : w4.heap.size < w12.heap.size := by omega
  have R2_12 := Lib.hid (R2_11.out.below s12 (by omega))
  clear R2_11
  have R4_12 := Lib.hid (R4_11.out.below s12 (by omega))
  clear R4_11
  clear hb12 s12
  go_wp2_with fail
  refine (toTwill_c A n c X st _ hnn (Sl.below HX.out b12 (Nat.le_refl _))).mono ?_
  rintro e w13 ⟨Aw13, cw13, rfl, kc13, mc13, r13, hb13⟩
  have z13 := hb13.size
  try simp at z13
  have s13 : Below w12.heap.size w12 w13 := Below.trans (by go_grown) (hb13.mono (by first | omega | (simp; done) | (simp; omega)))
  have b13 : Below w.heap.size w w13 := b12.trans (s13.mono (by omega))
  replace p1 : w13.cell? ⟨w.heap.size, 0, none⟩ = some (.slice A n c) := (s13.cell (p := ⟨w.heap.size, 0, none⟩) (show w.heap.size < w12.heap.size by omega)).trans p1
  replace p2 : w13.cell? ⟨w.heap.size, 1, none⟩ = some (.int .i64 st) := (s13.cell (p := ⟨w.heap.size, 1, none⟩) (show w.heap.size < w12.heap.size by omega)).trans p2
  replace p3 : w13.cell? ⟨w4.heap.size, 0, none⟩ = some (.slice Aw4 n cw4) := (s13.cell (p := ⟨w4.heap.size, 0, none⟩) (show w4.heap.size < w12.heap.size by omega)).trans p3
  replace p4 : w13.cell? ⟨w4.heap.size, 1, none⟩ = some (.int .i64 st) := (s13.cell (p := ⟨w4.heap.size, 1, none⟩) (show w4.heap.size < w12.heap.size by omega)).trans p4
  replace y_w : w.heap.size < w13.heap.size := by omega
  replace y_w4 : w4.heap.size < w13.heap.size := by omega
  have R2_13 := Lib.hid (R2_12.out.below s13 (by omega))
  clear R2_12
  have R4_13 := Lib.hid (R4_12.out.below s13 (by omega))
  clear R4_12
  have R6_13 := Lib.hid (r13.wide (lo' := w12.heap.size) (by first | omega | (simp; done) | (simp; omega)) (Nat.le_refl _))
  clear r13
  clear hb13 s13
  go_wp2_with fail
  refine (himpl.out _ _ _ (R6_13.out.sl)).mono ?_
  rintro e w14 ⟨Aw14, cw14, rfl, kc14, mc14, r14, hb14⟩
  have z14 := hb14.size
  try simp at z14
  have s14 : Below w13.heap.size w13 w14 := Below.trans (by go_grown) (hb14.mono (by first | omega | (simp; done) | (simp; omega)))
  have b14 : Below w.heap.size w w14 := b13.trans (s14.mono (by omega))
  replace p1 : w14.cell? ⟨w.heap.size, 0, none⟩ = some (.slice A n c) := (s14.cell (p := ⟨w.heap.size, 0, none⟩) (show w.heap.size < w13.heap.size by omega)).trans p1
  replace p2 : w14.cell? ⟨w.heap.size, 1, none⟩ = some (.int .i64 st) := (s14.cell (p := ⟨w.heap.size, 1, none⟩) (show w.heap.size < w13.heap.size by omega)).trans p2
  replace p3 : w14.cell? ⟨w4.heap.size, 0, none⟩ = some (.slice Aw4 n cw4) := (s14.cell (p := ⟨w4.heap.size, 0, none⟩) (show w4.heap.size < w13.heap.size by omega)).trans p3
  replace p4 : w14.cell? ⟨w4.heap.size, 1, none⟩ = some (.int .i64 st) := (s14.cell (p := ⟨w4.heap.size, 1, none⟩) (show w4.heap.size < w13.heap.size by omega)).trans p4
  replace y_w : w.heap.size < w14.heap.size := by omega
  replace y_w4 : w4.heap.size < w14.heap.size := by omega
  have R2_14 := Lib.hid (R2_13.out.below s14 (by omega))
  clear R2_13
  have R4_14 := Lib.hid (R4_13.out.below s14 (by omega))
  clear R4_13
  have R6_14 := Lib.hid (R6_13.out.below s14 (by omega))
  clear R6_13
  have R7_14 := Lib.hid (r14.wide (lo' := w13.heap.size) (by first | omega | (simp; done) | (simp; omega)) (Nat.le_refl _))
  clear r14
  clear hb14 s14
  clear R6_14
  go_wp2_with fail
  refine (Go.Proofs.Ytakcgeafcecimaa.split.eqStrs_same Aw14 Aw3 m cw14 cw3 Tx _ hmR (R7_14.out.sl) (R2_14.out.sl)).mono ?_
  rintro e w15 ⟨rfl, m15, hd15⟩
  have hb15 : Below w14.heap.size w14 w15 := by rw [hd15]; exact drewN_below (Below.refl _ _) m15
  clear hd15
  have z15 := hb15.size
  try simp at z15
  have s15 : Below w14.heap.size w14 w15 := Below.trans (by go_grown) (hb15.mono (by first | omega | (simp; done) | (simp; omega)))
  have b15 : Below w.heap.size w w15 := b14.trans (s15.mono (by omega))
  replace p1 : w15.cell? ⟨w.heap.size, 0, none⟩ = some (.slice A n c) := (s15.cell (p := ⟨w.heap.size, 0, none⟩) (show w.heap.size < w14.heap.size by omega)).trans p1
  replace p2 : w15.cell? ⟨w.heap.size, 1, none⟩ = some (.int .i64 st) := (s15.cell (p := ⟨w.heap.size, 1, none⟩) (show w.heap.size < w14.heap.size by omega)).trans p2
  replace p3 : w15.cell? ⟨w4.heap.size, 0, none⟩ = some (.slice Aw4 n cw4) := (s15.cell (p := ⟨w4.heap.size, 0, none⟩) (show w4.heap.size < w14.heap.size by omega)).trans p3
  replace p4 : w15.cell? ⟨w4.heap.size, 1, none⟩ = some (.int .i64 st) := (s15.cell (p := ⟨w4.heap.size, 1, none⟩) (show w4.heap.size < w14.heap.size by omega)).trans p4
  replace y_w : w.heap.size < w15.heap.size := by omega
  replace y_w4 : w4.heap.size < w15.heap.size := by omega
  have R2_15 := Lib.hid (R2_14.out.below s15 (by omega))
  clear R2_14
  have R4_15 := Lib.hid (R4_14.out.below s15 (by omega))
  clear R4_14
  have R7_15 := Lib.hid (R7_14.out.below s15 (by omega))
  clear R7_14
  clear hb15 s15
  go_wp2_with fail
  refine (Go.Proofs.Ytakcgeafcecimaa.split.heldStrs_c Aw5 m cw5 _ (by omega) R4_15.out.sl).mono ?_
  rintro e w16 ⟨rfl, hb16⟩
  have z16 := hb16.size
  try simp at z16
  have s16 : Below w15.heap.size w15 w16 := Below.trans (by go_grown) (hb16.mono (by first | omega | (simp; done) | (simp; omega)))
  have b16 : Below w.heap.size w w16 := b15.trans (s16.mono (by omega))
  replace p1 : w16.cell? ⟨w.heap.size, 0, none⟩ = some (.slice A n c) := (s16.cell (p := ⟨w.heap.size, 0, none⟩) (show w.heap.size < w15.heap.size by omega)).trans p1
  replace p2 : w16.cell? ⟨w.heap.size, 1, none⟩ = some (.int .i64 st) := (s16.cell (p := ⟨w.heap.size, 1, none⟩) (show w.heap.size < w15.heap.size by omega)).trans p2
  replace p3 : w16.cell? ⟨w4.heap.size, 0, none⟩ = some (.slice Aw4 n cw4) := (s16.cell (p := ⟨w4.heap.size, 0, none⟩) (show w4.heap.size < w15.heap.size by omega)).trans p3
  replace p4 : w16.cell? ⟨w4.heap.size, 1, none⟩ = some (.int .i64 st) := (s16.cell (p := ⟨w4.heap.size, 1, none⟩) (show w4.heap.size < w15.heap.size by omega)).trans p4
  replace y_w : w.heap.size < w16.heap.size := by omega
  replace y_w4 : w4.heap.size < w16.heap.size := by omega
  have R2_16 := Lib.hid (R2_15.out.below s16 (by omega))
  clear R2_15
  have R4_16 := Lib.hid (R4_15.out.below s16 (by omega))
  clear R4_15
  have R7_16 := Lib.hid (R7_15.out.below s16 (by omega))
  clear R7_15
  clear hb16 s16
  go_wp2
  go_ret
  exact ⟨rfl, b16⟩

set_option maxHeartbeats 1000000 in
theorem big (A : Option Addr) (n c : Nat) (st : Int) (sa : Int) (ra : Int) (w : World) (hn : 1048576 < n) (hm : n ≤ maxLen) :
    Calls Try.prog 6 #[.agg #[.slice A n c, .int .i64 st], .int .i64 sa, .int .i64 ra] w fun e w' => e = .returned (.bool true) ∧ Below w.heap.size w w' := by
  go_enter Try.func6, Try.ntmps6
  go_wp2_with fail
  refine (szTwill_big A n c st _ _ (by omega) (by omega) (by omega) hm).mono ?_
  rintro e w1 ⟨rfl, hb1⟩
  have g1 : Below w.heap.size w w1 := Below.trans (by go_grown) (hb1.mono (by simp))
  clear hb1
  go_wp2
  go_ret
  exact ⟨rfl, g1⟩

theorem walk (A : Option Addr) (n c : Nat) (X : Nat → Int) (st : Int) (sa : Int) (ra : Int) (w : World) (le : n ≤ c) (mx : c ≤ maxLen) (sl : Sl w A n 1 X) (wf : ∀ j, j < n * 1 → (Lit.int .i64 (X j)).wf = true) (x0 : (Lit.int .i64 st).wf = true) (x1 : (Lit.int .i64 sa).wf = true) (x2 : (Lit.int .i64 ra).wf = true) :
    Calls Try.prog 6 #[.agg #[.slice A n c, .int .i64 st], .int .i64 sa, .int .i64 ra] w fun e w' => e = .returned (.bool true) ∧ Below w.heap.size w w' := by
  by_cases hn : n ≤ 1048576
  · have hm : n ≤ maxLen := by unfold maxLen; omega
    cases hv : twB n X st
    · exact core A n c X st sa ra 0 (fun _ => ByteArray.empty) (by omega) 1 w hn sl (fun A' c' w h => faceOf_s_no A' n c' X st sa ra _ w hm h hv) (fun A' c' w h => faceOf_i_no A' n c' X st sa ra _ w hm h hv)
    · have h1 := (twB_of hv).st1
      obtain ⟨t, rfl⟩ : ∃ t : Nat, st = (t : Int) := ⟨st.toNat, by omega⟩
      cases ho : (inB sa 1 40 && inB ra 1 40)
      · exact core A n c X t sa ra 0 (fun _ => ByteArray.empty) (by omega) 2 w hn sl (fun A' c' w h => faceOf_s_out A' n c' X t sa ra _ w hm h hv ho) (fun A' c' w h => faceOf_i_out A' n c' X t sa ra _ w hm h hv ho)
      · rw [Bool.and_eq_true] at ho
        obtain ⟨a0, a1⟩ := inB_of ho.1
        obtain ⟨b0, b1⟩ := inB_of ho.2
        obtain ⟨S, rfl⟩ : ∃ S : Nat, sa = (S : Int) := ⟨sa.toNat, by omega⟩
        obtain ⟨R, rfl⟩ : ∃ R : Nat, ra = (R : Int) := ⟨ra.toNat, by omega⟩
        exact core A n c X t S R R _ (by omega) 0 w hn sl (fun A' c' w h => faceOf_s A' n c' X t S R w h hv ho.1 ho.2) (fun A' c' w h => faceOf_i A' n c' X t S R w h hv ho.1 ho.2)
  · exact big A n c st sa ra w (by omega) (by omega)

theorem own : ownKnob Try.prog.godebug = none := by kernel_rfl
theorem laidOut : laidOutB Try.prog = true := by kernel_rfl

set_option maxRecDepth 100000 in
theorem lifted (os : Os) (started : os.Started) (H : Type) (enc : TypeId × Value → H) :
    ReturnsInHanded {} Try.checked os 6 .any (Rows.fnExactFaceOfSpec.pre6 enc Try.prog Try.f6 Rows.fnExactFaceOfRow.domain false) (Rows.fnExactFaceOfSpec.post enc Try.prog Try.f6 false true false false) := by
  refine returnsInHanded_of_change (C := Try.checked) own started (by kernel_rfl) Try.func6
    (ChangeSpec.witness6 (enc := enc) (C := Try.checked) false ⟨#[], #[.agg #[.slice none 0 0, .int .i64 0], .int .i64 0, .int .i64 0], []⟩ 8 (by kernel_rfl) (by kernel_rfl) (by kernel_rfl) (by kernel_rfl)) ?_
  intro W base args ds gs before hval0 hW hcnd hreach
  have hval : ∀ (j : Nat) t v, Try.f6.params[j]? = some t → args[j]? = some v → Value.okWide Try.prog W .any base t v := hval0
  have hW' := hW
  obtain ⟨p, q, hA0, hV, rfl, hfz, hnd⟩ := hW
  have hA : DataW.TrodAll enc Try.prog W 0 (fun _ => true) true Try.f6.params.toList args.toList ds p := hA0
  rw [Try.params6] at hA hval
  obtain ⟨v0, vs0, d0, ds0, p0, q0, hargs, rfl, rfl, h0, r0⟩ := trodAll_cons hA
  obtain ⟨v1, vs1, d1, ds1, p1, q1, hargs1, rfl, rfl, h1, r1⟩ := trodAll_cons r0
  obtain ⟨v2, vs2, d2, ds2, p2, q2, hargs2, rfl, rfl, h2, r2⟩ := trodAll_cons r1
  obtain ⟨rfl, rfl, rfl⟩ := trodAll_nil r2
  obtain rfl : args = #[v0, v1, v2] := by cases args; simp_all
  obtain ⟨rfl, rfl⟩ := trodVars_none hV
  have k0 := h0
  have lt0 : ∀ x ∈ p0, x.block < W.heap.size := by obtain ⟨m, hm⟩ := k0; exact DataW.trod_lt m _ _ _ hm
  obtain ⟨c0_0, c0_1, y0_0, y0_1, m0, rfl, rfl, rfl, hy0_0, hy0_1⟩ := open_agg2 Try.underlying24 (by kernel_rfl) (by kernel_rfl) (hval 0 24 v0 rfl rfl) h0
  obtain ⟨A0, len0, cap0, rfl, le0, mx0, X0, sl0, wf0⟩ := open_nums_v Try.underlying22 Try.underlying2 (by kernel_rfl) hy0_0
  obtain ⟨a0, e0_1, rfl, w0⟩ := DataW.trod_int Try.underlying2 hy0_1
  simp at e0_1
  subst e0_1
  have k1 := h1
  have lt1 : ∀ x ∈ p1, x.block < W.heap.size := by obtain ⟨m, hm⟩ := k1; exact DataW.trod_lt m _ _ _ hm
  obtain ⟨a1, rfl, rfl, rfl, w1⟩ := open_int Try.underlying2 (hval 1 2 v1 rfl rfl) h1
  have k2 := h2
  have lt2 : ∀ x ∈ p2, x.block < W.heap.size := by obtain ⟨m, hm⟩ := k2; exact DataW.trod_lt m _ _ _ hm
  obtain ⟨a2, rfl, rfl, rfl, w2⟩ := open_int Try.underlying2 (hval 2 2 v2 rfl rfl) h2
  clear hA0 hval0
  refine (walk A0 len0 cap0 X0 a0 a1 a2 W le0 mx0 sl0 wf0 w0 w1 w2).mono fun e W' ⟨he, bel⟩ => ?_
  subst he
  exact ⟨_, rfl, _, _, _, [], _, [], hW', trodAll_mk1 (shut_bool Try.underlying4 _), (trodAll_cons_mk (Below.trod laidOut (by kernel_rfl) (of_decide_eq_true (by kernel_rfl)) k0 bel lt0) (trodAll_cons_mk (Below.trod laidOut (by kernel_rfl) (of_decide_eq_true (by kernel_rfl)) k1 bel lt1) (trodAll_cons_mk (Below.trod laidOut (by kernel_rfl) (of_decide_eq_true (by kernel_rfl)) k2 bel lt2) trodAll_mk0))), rfl, bel.frame _, fun h => by cases h⟩

theorem over : Rows.fnExactFaceOfRow.holds Try.pinned (OpenSpec.ofChange Rows.fnExactFaceOfSpec) :=
  OpenClaim.holds_of_wide 6 Try.f6 rfl rfl rfl rfl rfl rfl rfl ⟨rfl, rfl, rfl, rfl, rfl⟩ rfl rfl rfl rfl rfl (by kernel_rfl) Try.func6 (by kernel_rfl)
    (of_decide_eq_true (by kernel_rfl)) (by unfold Func.isWrapper; first | (rw [if_pos (by decide +kernel)]; kernel_rfl) | (rw [if_neg (by decide +kernel)]; exact ⟨rfl, rfl⟩))
    (fun os started H enc _ => lifted os started H enc)

theorem proved : Rows.FnExactFaceOfSaid := over

end Go.Proofs.Ytakcgeafcecimaa.fnExactFaceOf
