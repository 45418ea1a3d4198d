/-
  For every bed and every number of years, FnExactBestCuts returns true: BestCuts of the program gives the years, the sum and the code of the model, keeps the bed, and its answer is memory of its own. No condition.
-/
import Derived.Test.YtcpaenmhnoagdabBestCuts
import Derived.Test.YtcpaenmhnoagdabOpenBed
namespace Go.Proofs.Ytcpaenmhnoagdab.fnExactBestCuts
open Go.ChangeShapes Go.WideShapes Go.ChangeAt Go.RowKit Go.Joins
open Go.ChangeMaps (open_string shut_string)
open Go.Proofs.Ytcpaenmhnoagdab.rod Go.Proofs.Ytcpaenmhnoagdab.mem Go.Proofs.Ytcpaenmhnoagdab.nums
set_option linter.unusedVariables false

set_option maxHeartbeats 4000000 in
set_option maxRecDepth 100000 in
theorem core (A : Option Addr) (m c : Nat) (Y : Nat → Int) (a : Int) (n : Int) (l : List Int) (hl : l.length ≤ 1048576) (v : Int) (code : Int) (w : World) (hnm : m ≤ 1048576) (hY : Sl w A m 1 Y)
    (hspec : Hid (∀ (A' : Option Addr) (c' : Nat) (w : World), Sl w A' m 1 Y → Calls Try.prog 48 #[.agg #[.slice A' m c', .int .i64 a], .int .i64 n] w (fun e w' => ∃ A c, e = .returned (.tuple #[.slice A l.length c, .int .i64 v, .int .i64 code]) ∧ l.length ≤ c ∧ c ≤ maxLen ∧ Row w' w.heap.size w'.heap.size A l.length 1 2 (fun j => l.getD j 0) ∧ Below w.heap.size w w')))
    (himpl : Hid (∀ (A' : Option Addr) (c' : Nat) (w : World), Sl w A' m 1 Y → Calls Try.prog 50 #[.agg #[.slice A' m c', .int .i64 a], .int .i64 n] w (fun e w' => ∃ A c, e = .returned (.tuple #[.slice A l.length c, .int .i64 v, .int .i64 code]) ∧ l.length ≤ c ∧ c ≤ maxLen ∧ Row w' w.heap.size w'.heap.size A l.length 1 2 (fun j => l.getD j 0) ∧ Below w.heap.size w w'))) :
    Calls Try.prog 10 #[.agg #[.slice A m c, .int .i64 a], .int .i64 n] w fun e w' => e = .returned (.bool true) ∧ Below w.heap.size w w' := by
  have HY := Lib.hid hY
  clear hY
  have hmm : m ≤ maxLen := by unfold maxLen; omega
  have hqm : ¬ (1048576 : Int) < (m : Int) := by omega
  have hrm : ¬ (1048576 - (m : Int)) < 0 := by omega
  have hml : l.length ≤ maxLen := by unfold maxLen; omega
  generalize hL : l.length = L at *
  have HL := Lib.hid hL
  clear hL
  have b0 : Below w.heap.size w w := Below.refl _ _
  go_enter Try.func10, Try.ntmps10
  go_wp2_with fail
  refine (szBed_c A m c a 1048576 _ (by omega) (by omega)).mono ?_
  rintro e w1 ⟨rfl, hb1⟩
  have z1 := hb1.size
  try simp at z1
  have s1 : Below w.heap.size w w1 := Below.trans (by go_grown) (hb1.mono (by first | omega | (simp; done) | (simp; omega)))
  have b1 : Below w.heap.size w w1 := b0.trans (s1.mono (by omega))
  have p1 : w1.cell? ⟨w.heap.size, 0, none⟩ = some (.slice A m c) := by rw [(bcell hb1).1 _ _ (by first | omega | (simp; done) | (simp; omega))]; go_simp
  have p2 : w1.cell? ⟨w.heap.size, 1, none⟩ = some (.int .i64 a) := by rw [(bcell hb1).1 _ _ (by first | omega | (simp; done) | (simp; omega))]; go_simp
  have y_w : w.heap.size < w1.heap.size := by omega
  clear hb1 s1
  go_wp2_with fail
  refine (toBed_c A m c Y a _ hnm (Sl.below HY.out b1 (Nat.le_refl _))).mono ?_
  rintro e w2 ⟨Aw2, cw2, rfl, kc2, mc2, r2, hb2⟩
  have z2 := hb2.size
  try simp at z2
  have s2 : Below w1.heap.size w1 w2 := Below.trans (by go_grown) (hb2.mono (by first | omega | (simp; done) | (simp; omega)))
  have b2 : Below w.heap.size w w2 := b1.trans (s2.mono (by omega))
  replace p1 : w2.cell? ⟨w.heap.size, 0, none⟩ = some (.slice A m c) := (s2.cell (p := ⟨w.heap.size, 0, none⟩) (show w.heap.size < w1.heap.size by omega)).trans p1
  replace p2 : w2.cell? ⟨w.heap.size, 1, none⟩ = some (.int .i64 a) := (s2.cell (p := ⟨w.heap.size, 1, none⟩) (show w.heap.size < w1.heap.size by omega)).trans p2
  replace y_w : w.heap.size < w2.heap.size := by omega
  have R1_2 := Lib.hid (r2.wide (lo' := w1.heap.size) (by first | omega | (simp; done) | (simp; omega)) (Nat.le_refl _))
  clear r2
  clear hb2 s2
  go_wp2_with fail
  refine (hspec.out _ _ _ (R1_2.out.sl)).mono ?_
  rintro e w3 ⟨Aw3, cw3, he3, kc3, mc3, r3, hb3⟩
  try rw [HL.out] at he3 kc3 r3
  subst he3
  have z3 := hb3.size
  try simp at z3
  have s3 : Below w2.heap.size w2 w3 := Below.trans (by go_grown) (hb3.mono (by first | omega | (simp; done) | (simp; omega)))
  have b3 : Below w.heap.size w w3 := b2.trans (s3.mono (by omega))
  replace p1 : w3.cell? ⟨w.heap.size, 0, none⟩ = some (.slice A m c) := (s3.cell (p := ⟨w.heap.size, 0, none⟩) (show w.heap.size < w2.heap.size by omega)).trans p1
  replace p2 : w3.cell? ⟨w.heap.size, 1, none⟩ = some (.int .i64 a) := (s3.cell (p := ⟨w.heap.size, 1, none⟩) (show w.heap.size < w2.heap.size by omega)).trans p2
  replace y_w : w.heap.size < w3.heap.size := by omega
  have R1_3 := Lib.hid (R1_2.out.below s3 (by omega))
  clear R1_2
  have R2_3 := Lib.hid (r3.wide (lo' := w2.heap.size) (by first | omega | (simp; done) | (simp; omega)) (Nat.le_refl _))
  clear r3
  clear hb3 s3
  clear R1_3
  go_wp2_with fail
  refine (toBed_c A m c Y a _ hnm (Sl.below HY.out b3 (Nat.le_refl _))).mono ?_
  rintro e w4 ⟨Aw4, cw4, rfl, kc4, mc4, r4, hb4⟩
  have z4 := hb4.size
  try simp at z4
  have s4 : Below w3.heap.size w3 w4 := Below.trans (by go_grown) (hb4.mono (by first | omega | (simp; done) | (simp; omega)))
  have b4 : Below w.heap.size w w4 := b3.trans (s4.mono (by omega))
  replace p1 : w4.cell? ⟨w.heap.size, 0, none⟩ = some (.slice A m c) := (s4.cell (p := ⟨w.heap.size, 0, none⟩) (show w.heap.size < w3.heap.size by omega)).trans p1
  replace p2 : w4.cell? ⟨w.heap.size, 1, none⟩ = some (.int .i64 a) := (s4.cell (p := ⟨w.heap.size, 1, none⟩) (show w.heap.size < w3.heap.size by omega)).trans p2
  replace y_w : w.heap.size < w4.heap.size := by omega
  have R2_4 := Lib.hid (R2_3.out.below s4 (by omega))
  clear R2_3
  have R3_4 := Lib.hid (r4.wide (lo' := w3.heap.size) (by first | omega | (simp; done) | (simp; omega)) (Nat.le_refl _))
  clear r4
  clear hb4 s4
  go_wp2_with fail
  refine (himpl.out _ _ _ (R3_4.out.sl.below (K := w4.heap.size) (by go_grown) (Nat.le_refl _))).mono ?_
  rintro e w5 ⟨Aw5, cw5, he5, kc5, mc5, r5, hb5⟩
  try rw [HL.out] at he5 kc5 r5
  subst he5
  have z5 := hb5.size
  try simp at z5
  have s5 : Below w4.heap.size w4 w5 := Below.trans (by go_grown) (hb5.mono (by first | omega | (simp; done) | (simp; omega)))
  have b5 : Below w.heap.size w w5 := b4.trans (s5.mono (by omega))
  replace p1 : w5.cell? ⟨w.heap.size, 0, none⟩ = some (.slice A m c) := (s5.cell (p := ⟨w.heap.size, 0, none⟩) (show w.heap.size < w4.heap.size by omega)).trans p1
  replace p2 : w5.cell? ⟨w.heap.size, 1, none⟩ = some (.int .i64 a) := (s5.cell (p := ⟨w.heap.size, 1, none⟩) (show w.heap.size < w4.heap.size by omega)).trans p2
  have p3 : w5.cell? ⟨w4.heap.size, 0, none⟩ = some (.slice Aw4 m cw4) := by rw [(bcell hb5).1 _ _ (by first | omega | (simp; done) | (simp; omega))]; go_simp
  have p4 : w5.cell? ⟨w4.heap.size, 1, none⟩ = some (.int .i64 a) := by rw [(bcell hb5).1 _ _ (by first | omega | (simp; done) | (simp; omega))]; go_simp
  replace y_w : w.heap.size < w5.heap.size := by omega
  have y_w4 : w4.heap.size < w5.heap.size := by omega
  have R2_5 := Lib.hid (R2_4.out.below s5 (by omega))
  clear R2_4
  have R3_5 := Lib.hid (R3_4.out.below s5 (by omega))
  clear R3_4
  have R4_5 := Lib.hid (r5.wide (lo' := w4.heap.size + 1) (by first | omega | (simp; done) | (simp; omega)) (Nat.le_refl _))
  clear r5
  clear hb5 s5
  go_wp2_with fail
  refine (eqInts_b Aw5 Aw3 L cw5 cw3 (fun j => l.getD j 0) _ hml (R4_5.out.sl) (R2_5.out.sl)).mono ?_
  rintro e w6 ⟨rfl, hb6⟩
  have z6 := hb6.size
  try simp at z6
  have s6 : Below w5.heap.size w5 w6 := Below.trans (by go_grown) (hb6.mono (by first | omega | (simp; done) | (simp; omega)))
  have b6 : Below w.heap.size w w6 := b5.trans (s6.mono (by omega))
  replace p1 : w6.cell? ⟨w.heap.size, 0, none⟩ = some (.slice A m c) := (s6.cell (p := ⟨w.heap.size, 0, none⟩) (show w.heap.size < w5.heap.size by omega)).trans p1
  replace p2 : w6.cell? ⟨w.heap.size, 1, none⟩ = some (.int .i64 a) := (s6.cell (p := ⟨w.heap.size, 1, none⟩) (show w.heap.size < w5.heap.size by omega)).trans p2
  replace p3 : w6.cell? ⟨w4.heap.size, 0, none⟩ = some (.slice Aw4 m cw4) := (s6.cell (p := ⟨w4.heap.size, 0, none⟩) (show w4.heap.size < w5.heap.size by omega)).trans p3
  replace p4 : w6.cell? ⟨w4.heap.size, 1, none⟩ = some (.int .i64 a) := (s6.cell (p := ⟨w4.heap.size, 1, none⟩) (show w4.heap.size < w5.heap.size by omega)).trans p4
  replace y_w : w.heap.size < w6.heap.size := by omega
  replace y_w4 : w4.heap.size < w6.heap.size := by omega
  have R2_6 := Lib.hid (R2_5.out.below s6 (by omega))
  clear R2_5
  have R3_6 := Lib.hid (R3_5.out.below s6 (by omega))
  clear R3_5
  have R4_6 := Lib.hid (R4_5.out.below s6 (by omega))
  clear R4_5
  clear hb6 s6
  go_wp2_with fail
  go_region_held3 (fun q => q.cell? ⟨w4.heap.size, 0, none⟩ = some (.slice Aw4 m cw4) ∧ q.cell? ⟨w4.heap.size, 1, none⟩ = some (.int .i64 a) ∧ q.cell? ⟨w.heap.size, 0, none⟩ = some (.slice A m c) ∧ q.cell? ⟨w.heap.size, 1, none⟩ = some (.int .i64 a)) (first | exact ⟨p3, p4, p1, p2⟩ | go_keep)
    (first
      | (go_at_call 49; refine (toBed_c A m c Y a _ hnm (Sl.below HY.out b6.drew (Nat.le_refl _))).mono ?_; rintro e w7 ⟨Aw7, cw7, rfl, kc7, mc7, r7, hb7⟩
         have z7 := hb7.size
         try simp at z7
         have s7 : Below w6.heap.size w6 w7 := Below.trans (Below.drew (Below.refl _ _)) (hb7.mono (by first | omega | (simp; done) | (simp; omega)))
         have b7 : Below w.heap.size w w7 := b6.trans (s7.mono (by omega))
         replace p1 : w7.cell? ⟨w.heap.size, 0, none⟩ = some (.slice A m c) := (s7.cell (p := ⟨w.heap.size, 0, none⟩) (show w.heap.size < w6.heap.size by omega)).trans p1
         replace p2 : w7.cell? ⟨w.heap.size, 1, none⟩ = some (.int .i64 a) := (s7.cell (p := ⟨w.heap.size, 1, none⟩) (show w.heap.size < w6.heap.size by omega)).trans p2
         replace p3 : w7.cell? ⟨w4.heap.size, 0, none⟩ = some (.slice Aw4 m cw4) := (s7.cell (p := ⟨w4.heap.size, 0, none⟩) (show w4.heap.size < w6.heap.size by omega)).trans p3
         replace p4 : w7.cell? ⟨w4.heap.size, 1, none⟩ = some (.int .i64 a) := (s7.cell (p := ⟨w4.heap.size, 1, none⟩) (show w4.heap.size < w6.heap.size by omega)).trans p4
         replace y_w : w.heap.size < w7.heap.size := by omega
         replace y_w4 : w4.heap.size < w7.heap.size := by omega
         have R2_7 := Lib.hid (R2_6.out.below s7 (by omega))
         clear R2_6
         have R3_7 := Lib.hid (R3_6.out.below s7 (by omega))
         clear R3_6
         have R4_7 := Lib.hid (R4_6.out.below s7 (by omega))
         clear R4_6
         have R5_7 := Lib.hid (r7.wide (lo' := w6.heap.size) (by first | omega | (simp; done) | (simp; omega)) (Nat.le_refl _))
         clear r7
         clear hb7 s7)
      | (go_at_call 51; refine (eqBed_same Aw4 Aw7 m cw4 cw7 Y a _ hmm (R3_7.out.sl) (R5_7.out.sl)).mono ?_; rintro e w8 ⟨rfl, hb8⟩
         have z8 := hb8.size
         try simp at z8
         have s8 : Below w7.heap.size w7 w8 := Below.trans (by go_grown) (hb8.mono (by first | omega | (simp; done) | (simp; omega)))
         have b8 : Below w.heap.size w w8 := b7.trans (s8.mono (by omega))
         replace p1 : w8.cell? ⟨w.heap.size, 0, none⟩ = some (.slice A m c) := (s8.cell (p := ⟨w.heap.size, 0, none⟩) (show w.heap.size < w7.heap.size by omega)).trans p1
         replace p2 : w8.cell? ⟨w.heap.size, 1, none⟩ = some (.int .i64 a) := (s8.cell (p := ⟨w.heap.size, 1, none⟩) (show w.heap.size < w7.heap.size by omega)).trans p2
         replace p3 : w8.cell? ⟨w4.heap.size, 0, none⟩ = some (.slice Aw4 m cw4) := (s8.cell (p := ⟨w4.heap.size, 0, none⟩) (show w4.heap.size < w7.heap.size by omega)).trans p3
         replace p4 : w8.cell? ⟨w4.heap.size, 1, none⟩ = some (.int .i64 a) := (s8.cell (p := ⟨w4.heap.size, 1, none⟩) (show w4.heap.size < w7.heap.size by omega)).trans p4
         replace y_w : w.heap.size < w8.heap.size := by omega
         replace y_w4 : w4.heap.size < w8.heap.size := by omega
         have R2_8 := Lib.hid (R2_7.out.below s8 (by omega))
         clear R2_7
         have R3_8 := Lib.hid (R3_7.out.below s8 (by omega))
         clear R3_7
         have R4_8 := Lib.hid (R4_7.out.below s8 (by omega))
         clear R4_7
         have R5_8 := Lib.hid (R5_7.out.below s8 (by omega))
         clear R5_7
         clear hb8 s8))
  clear R5_8
  go_wp2_with fail
  refine (markBed_c Aw4 m cw4 _ _ _ _ a _ hnm (by omega) (by omega) R3_8.out).mono ?_
  rintro e w9 ⟨rfl, r9, hw9⟩
  have z9 := hw9.size
  try simp at z9
  have b9 : Below w.heap.size w w9 := b8.trans (hw9.below (by omega) (by omega))
  replace p1 : w9.cell? ⟨w.heap.size, 0, none⟩ = some (.slice A m c) := (hw9.cell (b := w.heap.size) (o := 0) (by omega) (by omega)).trans p1
  replace p2 : w9.cell? ⟨w.heap.size, 1, none⟩ = some (.int .i64 a) := (hw9.cell (b := w.heap.size) (o := 1) (by omega) (by omega)).trans p2
  replace p3 : w9.cell? ⟨w4.heap.size, 0, none⟩ = some (.slice Aw4 m cw4) := (hw9.cell (b := w4.heap.size) (o := 0) (by omega) (by omega)).trans p3
  replace p4 : w9.cell? ⟨w4.heap.size, 1, none⟩ = some (.int .i64 a) := (hw9.cell (b := w4.heap.size) (o := 1) (by omega) (by omega)).trans p4
  replace y_w : w.heap.size < w9.heap.size := by omega
  replace y_w4 : w4.heap.size < w9.heap.size := by omega
  have R2_9 := Lib.hid (R2_8.out.wrote hw9 (by omega))
  clear R2_8
  have R4_9 := Lib.hid (R4_8.out.wrote hw9 (by omega))
  clear R4_8
  have R3_9 := Lib.hid r9
  clear r9 hw9 R3_8
  clear R3_9
  go_wp2_with fail
  refine (eqInts_b Aw5 Aw3 L cw5 cw3 (fun j => l.getD j 0) _ hml (R4_9.out.sl) (R2_9.out.sl)).mono ?_
  rintro e w10 ⟨rfl, hb10⟩
  have z10 := hb10.size
  try simp at z10
  have s10 : Below w9.heap.size w9 w10 := Below.trans (by go_grown) (hb10.mono (by first | omega | (simp; done) | (simp; omega)))
  have b10 : Below w.heap.size w w10 := b9.trans (s10.mono (by omega))
  replace p1 : w10.cell? ⟨w.heap.size, 0, none⟩ = some (.slice A m c) := (s10.cell (p := ⟨w.heap.size, 0, none⟩) (show w.heap.size < w9.heap.size by omega)).trans p1
  replace p2 : w10.cell? ⟨w.heap.size, 1, none⟩ = some (.int .i64 a) := (s10.cell (p := ⟨w.heap.size, 1, none⟩) (show w.heap.size < w9.heap.size by omega)).trans p2
  replace p3 : w10.cell? ⟨w4.heap.size, 0, none⟩ = some (.slice Aw4 m cw4) := (s10.cell (p := ⟨w4.heap.size, 0, none⟩) (show w4.heap.size < w9.heap.size by omega)).trans p3
  replace p4 : w10.cell? ⟨w4.heap.size, 1, none⟩ = some (.int .i64 a) := (s10.cell (p := ⟨w4.heap.size, 1, none⟩) (show w4.heap.size < w9.heap.size by omega)).trans p4
  replace y_w : w.heap.size < w10.heap.size := by omega
  replace y_w4 : w4.heap.size < w10.heap.size := by omega
  have R2_10 := Lib.hid (R2_9.out.below s10 (by omega))
  clear R2_9
  have R4_10 := Lib.hid (R4_9.out.below s10 (by omega))
  clear R4_9
  clear hb10 s10
  go_wp2_with fail
  refine (markInts_c Aw5 L cw5 _ _ 1 _ _ hl (by omega) (by omega) R4_10.out).mono ?_
  rintro e w11 ⟨rfl, r11, hw11⟩
  have z11 := hw11.size
  try simp at z11
  have b11 : Below w.heap.size w w11 := b10.trans (hw11.below (by omega) (by omega))
  replace p1 : w11.cell? ⟨w.heap.size, 0, none⟩ = some (.slice A m c) := (hw11.cell (b := w.heap.size) (o := 0) (by omega) (by omega)).trans p1
  replace p2 : w11.cell? ⟨w.heap.size, 1, none⟩ = some (.int .i64 a) := (hw11.cell (b := w.heap.size) (o := 1) (by omega) (by omega)).trans p2
  replace p3 : w11.cell? ⟨w4.heap.size, 0, none⟩ = some (.slice Aw4 m cw4) := (hw11.cell (b := w4.heap.size) (o := 0) (by omega) (by omega)).trans p3
  replace p4 : w11.cell? ⟨w4.heap.size, 1, none⟩ = some (.int .i64 a) := (hw11.cell (b := w4.heap.size) (o := 1) (by omega) (by omega)).trans p4
  replace y_w : w.heap.size < w11.heap.size := by omega
  replace y_w4 : w4.heap.size < w11.heap.size := by omega
  have R2_11 := Lib.hid (R2_10.out.wrote hw11 (by omega))
  clear R2_10
  have R4_11 := Lib.hid r11
  clear r11 hw11 R4_10
  go_wp2_with fail
  refine (heldInts_b Aw5 L cw5 1 _ hl (by omega) (by omega) R4_11.out.sl).mono ?_
  rintro e w12 ⟨rfl, hb12⟩
  have z12 := hb12.size
  try simp at z12
  have s12 : Below w11.heap.size w11 w12 := Below.trans (by go_grown) (hb12.mono (by first | omega | (simp; done) | (simp; omega)))
  have b12 : Below w.heap.size w w12 := b11.trans (s12.mono (by omega))
  replace p1 : w12.cell? ⟨w.heap.size, 0, none⟩ = some (.slice A m c) := (s12.cell (p := ⟨w.heap.size, 0, none⟩) (show w.heap.size < w11.heap.size by omega)).trans p1
  replace p2 : w12.cell? ⟨w.heap.size, 1, none⟩ = some (.int .i64 a) := (s12.cell (p := ⟨w.heap.size, 1, none⟩) (show w.heap.size < w11.heap.size by omega)).trans p2
  replace p3 : w12.cell? ⟨w4.heap.size, 0, none⟩ = some (.slice Aw4 m cw4) := (s12.cell (p := ⟨w4.heap.size, 0, none⟩) (show w4.heap.size < w11.heap.size by omega)).trans p3
  replace p4 : w12.cell? ⟨w4.heap.size, 1, none⟩ = some (.int .i64 a) := (s12.cell (p := ⟨w4.heap.size, 1, none⟩) (show w4.heap.size < w11.heap.size by omega)).trans p4
  replace y_w : w.heap.size < w12.heap.size := by omega
  replace y_w4 : w4.heap.size < w12.heap.size := by omega
  have R2_12 := Lib.hid (R2_11.out.below s12 (by omega))
  clear R2_11
  have R4_12 := Lib.hid (R4_11.out.below s12 (by omega))
  clear R4_11
  clear hb12 s12
  go_wp2_with fail
  refine (toBed_c A m c Y a _ hnm (Sl.below HY.out b12 (Nat.le_refl _))).mono ?_
  rintro e w13 ⟨Aw13, cw13, rfl, kc13, mc13, r13, hb13⟩
  have z13 := hb13.size
  try simp at z13
  have s13 : Below w12.heap.size w12 w13 := Below.trans (by go_grown) (hb13.mono (by first | omega | (simp; done) | (simp; omega)))
  have b13 : Below w.heap.size w w13 := b12.trans (s13.mono (by omega))
  replace p1 : w13.cell? ⟨w.heap.size, 0, none⟩ = some (.slice A m c) := (s13.cell (p := ⟨w.heap.size, 0, none⟩) (show w.heap.size < w12.heap.size by omega)).trans p1
  replace p2 : w13.cell? ⟨w.heap.size, 1, none⟩ = some (.int .i64 a) := (s13.cell (p := ⟨w.heap.size, 1, none⟩) (show w.heap.size < w12.heap.size by omega)).trans p2
  replace p3 : w13.cell? ⟨w4.heap.size, 0, none⟩ = some (.slice Aw4 m cw4) := (s13.cell (p := ⟨w4.heap.size, 0, none⟩) (show w4.heap.size < w12.heap.size by omega)).trans p3
  replace p4 : w13.cell? ⟨w4.heap.size, 1, none⟩ = some (.int .i64 a) := (s13.cell (p := ⟨w4.heap.size, 1, none⟩) (show w4.heap.size < w12.heap.size by omega)).trans p4
  replace y_w : w.heap.size < w13.heap.size := by omega
  replace y_w4 : w4.heap.size < w13.heap.size := by omega
  have R2_13 := Lib.hid (R2_12.out.below s13 (by omega))
  clear R2_12
  have R4_13 := Lib.hid (R4_12.out.below s13 (by omega))
  clear R4_12
  have R6_13 := Lib.hid (r13.wide (lo' := w12.heap.size) (by first | omega | (simp; done) | (simp; omega)) (Nat.le_refl _))
  clear r13
  clear hb13 s13
  go_wp2_with fail
  refine (himpl.out _ _ _ (R6_13.out.sl)).mono ?_
  rintro e w14 ⟨Aw14, cw14, he14, kc14, mc14, r14, hb14⟩
  try rw [HL.out] at he14 kc14 r14
  subst he14
  have z14 := hb14.size
  try simp at z14
  have s14 : Below w13.heap.size w13 w14 := Below.trans (by go_grown) (hb14.mono (by first | omega | (simp; done) | (simp; omega)))
  have b14 : Below w.heap.size w w14 := b13.trans (s14.mono (by omega))
  replace p1 : w14.cell? ⟨w.heap.size, 0, none⟩ = some (.slice A m c) := (s14.cell (p := ⟨w.heap.size, 0, none⟩) (show w.heap.size < w13.heap.size by omega)).trans p1
  replace p2 : w14.cell? ⟨w.heap.size, 1, none⟩ = some (.int .i64 a) := (s14.cell (p := ⟨w.heap.size, 1, none⟩) (show w.heap.size < w13.heap.size by omega)).trans p2
  replace p3 : w14.cell? ⟨w4.heap.size, 0, none⟩ = some (.slice Aw4 m cw4) := (s14.cell (p := ⟨w4.heap.size, 0, none⟩) (show w4.heap.size < w13.heap.size by omega)).trans p3
  replace p4 : w14.cell? ⟨w4.heap.size, 1, none⟩ = some (.int .i64 a) := (s14.cell (p := ⟨w4.heap.size, 1, none⟩) (show w4.heap.size < w13.heap.size by omega)).trans p4
  replace y_w : w.heap.size < w14.heap.size := by omega
  replace y_w4 : w4.heap.size < w14.heap.size := by omega
  have R2_14 := Lib.hid (R2_13.out.below s14 (by omega))
  clear R2_13
  have R4_14 := Lib.hid (R4_13.out.below s14 (by omega))
  clear R4_13
  have R6_14 := Lib.hid (R6_13.out.below s14 (by omega))
  clear R6_13
  have R7_14 := Lib.hid (r14.wide (lo' := w13.heap.size) (by first | omega | (simp; done) | (simp; omega)) (Nat.le_refl _))
  clear r14
  clear hb14 s14
  clear R6_14
  go_wp2_with fail
  refine (eqInts_b Aw14 Aw3 L cw14 cw3 (fun j => l.getD j 0) _ hml (R7_14.out.sl) (R2_14.out.sl)).mono ?_
  rintro e w15 ⟨rfl, hb15⟩
  have z15 := hb15.size
  try simp at z15
  have s15 : Below w14.heap.size w14 w15 := Below.trans (by go_grown) (hb15.mono (by first | omega | (simp; done) | (simp; omega)))
  have b15 : Below w.heap.size w w15 := b14.trans (s15.mono (by omega))
  replace p1 : w15.cell? ⟨w.heap.size, 0, none⟩ = some (.slice A m c) := (s15.cell (p := ⟨w.heap.size, 0, none⟩) (show w.heap.size < w14.heap.size by omega)).trans p1
  replace p2 : w15.cell? ⟨w.heap.size, 1, none⟩ = some (.int .i64 a) := (s15.cell (p := ⟨w.heap.size, 1, none⟩) (show w.heap.size < w14.heap.size by omega)).trans p2
  replace p3 : w15.cell? ⟨w4.heap.size, 0, none⟩ = some (.slice Aw4 m cw4) := (s15.cell (p := ⟨w4.heap.size, 0, none⟩) (show w4.heap.size < w14.heap.size by omega)).trans p3
  replace p4 : w15.cell? ⟨w4.heap.size, 1, none⟩ = some (.int .i64 a) := (s15.cell (p := ⟨w4.heap.size, 1, none⟩) (show w4.heap.size < w14.heap.size by omega)).trans p4
  replace y_w : w.heap.size < w15.heap.size := by omega
  replace y_w4 : w4.heap.size < w15.heap.size := by omega
  have R2_15 := Lib.hid (R2_14.out.below s15 (by omega))
  clear R2_14
  have R4_15 := Lib.hid (R4_14.out.below s15 (by omega))
  clear R4_14
  have R7_15 := Lib.hid (R7_14.out.below s15 (by omega))
  clear R7_14
  clear hb15 s15
  go_wp2_with fail
  refine (heldInts_b Aw5 L cw5 1 _ hl (by omega) (by omega) R4_15.out.sl).mono ?_
  rintro e w16 ⟨rfl, hb16⟩
  have z16 := hb16.size
  try simp at z16
  have s16 : Below w15.heap.size w15 w16 := Below.trans (by go_grown) (hb16.mono (by first | omega | (simp; done) | (simp; omega)))
  have b16 : Below w.heap.size w w16 := b15.trans (s16.mono (by omega))
  replace p1 : w16.cell? ⟨w.heap.size, 0, none⟩ = some (.slice A m c) := (s16.cell (p := ⟨w.heap.size, 0, none⟩) (show w.heap.size < w15.heap.size by omega)).trans p1
  replace p2 : w16.cell? ⟨w.heap.size, 1, none⟩ = some (.int .i64 a) := (s16.cell (p := ⟨w.heap.size, 1, none⟩) (show w.heap.size < w15.heap.size by omega)).trans p2
  replace p3 : w16.cell? ⟨w4.heap.size, 0, none⟩ = some (.slice Aw4 m cw4) := (s16.cell (p := ⟨w4.heap.size, 0, none⟩) (show w4.heap.size < w15.heap.size by omega)).trans p3
  replace p4 : w16.cell? ⟨w4.heap.size, 1, none⟩ = some (.int .i64 a) := (s16.cell (p := ⟨w4.heap.size, 1, none⟩) (show w4.heap.size < w15.heap.size by omega)).trans p4
  replace y_w : w.heap.size < w16.heap.size := by omega
  replace y_w4 : w4.heap.size < w16.heap.size := by omega
  have R2_16 := Lib.hid (R2_15.out.below s16 (by omega))
  clear R2_15
  have R4_16 := Lib.hid (R4_15.out.below s16 (by omega))
  clear R4_15
  have R7_16 := Lib.hid (R7_15.out.below s16 (by omega))
  clear R7_15
  clear hb16 s16
  go_wp2
  go_ret
  exact ⟨rfl, b16⟩

set_option maxHeartbeats 1000000 in
theorem big (A : Option Addr) (m c : Nat) (a n : Int) (w : World) (hn : 1048576 < m) (hm : m ≤ maxLen) :
    Calls Try.prog 10 #[.agg #[.slice A m c, .int .i64 a], .int .i64 n] w fun e w' => e = .returned (.bool true) ∧ Below w.heap.size w w' := by
  go_enter Try.func10, Try.ntmps10
  go_wp2_with fail
  refine (szBed_big A m c a _ _ (by omega) (by omega) (by omega) hm).mono ?_
  rintro e w1 ⟨rfl, hb1⟩
  have g1 : Below w.heap.size w w1 := Below.trans (by go_grown) (hb1.mono (by simp))
  clear hb1
  go_wp2
  go_ret
  exact ⟨rfl, g1⟩

theorem walk (A : Option Addr) (m c : Nat) (Y : Nat → Int) (a n : Int) (w : World) (le : m ≤ c) (mx : c ≤ maxLen) (sl : Sl w A m 1 Y) (wf : ∀ j, j < m * 1 → (Lit.int .i64 (Y j)).wf = true) (x0 : (Lit.int .i64 a).wf = true) (x1 : (Lit.int .i64 n).wf = true) :
    Calls Try.prog 10 #[.agg #[.slice A m c, .int .i64 a], .int .i64 n] w fun e w' => e = .returned (.bool true) ∧ Below w.heap.size w w' := by
  by_cases hn : m ≤ 1048576
  · have no : ∀ code, BestNo m Y a n code → Calls Try.prog 10 #[.agg #[.slice A m c, .int .i64 a], .int .i64 n] w fun e w' => e = .returned (.bool true) ∧ Below w.heap.size w w' := fun code hno =>
      core A m c Y a n [] (by simp) 0 code w hn sl (fun A' c' w h => bestCuts_s_no A' m c' Y a n code w (by unfold maxLen; omega) h hno) (fun A' c' w h => bestCuts_i_no A' m c' Y a n code w (by unfold maxLen; omega) h hno)
    cases hb : bedB m Y a
    · exact no 1 (.inl ⟨hb, rfl⟩)
    · cases hy : inB n 1 12
      · exact no 2 (.inr ⟨hb, hy, rfl⟩)
      · obtain ⟨h1, h2⟩ := inB_of hy
        obtain ⟨N, rfl⟩ : ∃ N : Nat, n = (N : Int) := ⟨n.toNat, by omega⟩
        obtain ⟨_, m2, _⟩ := bedB_of hb
        obtain ⟨b, rfl⟩ : ∃ b : Nat, a = (b : Int) := ⟨a.toNat, by omega⟩
        exact core A m c Y b N _ (Nat.le_trans (idxs_len _ _) (by omega)) _ _ w hn sl (fun A' c' w h => bestCuts_s A' m c' Y b N w (by omega) (by omega) h hb) (fun A' c' w h => bestCuts_i A' m c' Y b N w (by omega) (by omega) h hb)
  · exact big A m c a n w (by omega) (by omega)

theorem own : ownKnob Try.prog.godebug = none := by kernel_rfl
theorem laidOut : laidOutB Try.prog = true := by kernel_rfl

set_option maxRecDepth 100000 in
theorem lifted (os : Os) (started : os.Started) (H : Type) (enc : TypeId × Value → H) :
    ReturnsInHanded {} Try.checked os 10 .any (Rows.fnExactBestCutsSpec.pre6 enc Try.prog Try.f10 Rows.fnExactBestCutsRow.domain false) (Rows.fnExactBestCutsSpec.post enc Try.prog Try.f10 false true false false) := by
  refine returnsInHanded_of_change (C := Try.checked) own started (by kernel_rfl) Try.func10
    (ChangeSpec.witness6 (enc := enc) (C := Try.checked) false ⟨#[], #[.agg #[.slice none 0 0, .int .i64 0], .int .i64 0], []⟩ 8 (by kernel_rfl) (by kernel_rfl) (by kernel_rfl) (by kernel_rfl)) ?_
  intro W base args ds gs before hval0 hW hcnd hreach
  have hval : ∀ (j : Nat) t v, Try.f10.params[j]? = some t → args[j]? = some v → Value.okWide Try.prog W .any base t v := hval0
  have hW' := hW
  obtain ⟨p, q, hA0, hV, rfl, hfz, hnd⟩ := hW
  have hA : DataW.TrodAll enc Try.prog W 0 (fun _ => true) true Try.f10.params.toList args.toList ds p := hA0
  rw [Try.params10] at hA hval
  obtain ⟨v0, vs0, d0, ds0, p0, q0, hargs, rfl, rfl, h0, r0⟩ := trodAll_cons hA
  obtain ⟨v1, vs1, d1, ds1, p1, q1, hargs1, rfl, rfl, h1, r1⟩ := trodAll_cons r0
  obtain ⟨rfl, rfl, rfl⟩ := trodAll_nil r1
  obtain rfl : args = #[v0, v1] := by cases args; simp_all
  obtain ⟨rfl, rfl⟩ := trodVars_none hV
  have k0 := h0
  have lt0 : ∀ x ∈ p0, x.block < W.heap.size := by obtain ⟨m, hm⟩ := k0; exact DataW.trod_lt m _ _ _ hm
  obtain ⟨c0_0, c0_1, y0_0, y0_1, m0, rfl, rfl, rfl, hy0_0, hy0_1⟩ := open_agg2 Try.underlying61 (by kernel_rfl) (by kernel_rfl) (hval 0 61 v0 rfl rfl) h0
  obtain ⟨A0, len0, cap0, rfl, le0, mx0, X0, sl0, wf0⟩ := open_nums_v Try.underlying29 Try.underlying2 (by kernel_rfl) hy0_0
  obtain ⟨a0, e0_1, rfl, w0⟩ := DataW.trod_int Try.underlying2 hy0_1
  simp at e0_1
  subst e0_1
  have k1 := h1
  have lt1 : ∀ x ∈ p1, x.block < W.heap.size := by obtain ⟨m, hm⟩ := k1; exact DataW.trod_lt m _ _ _ hm
  obtain ⟨a1, rfl, rfl, rfl, w1⟩ := open_int Try.underlying2 (hval 1 2 v1 rfl rfl) h1
  clear hA0 hval0
  refine (walk A0 len0 cap0 X0 a0 a1 W le0 mx0 sl0 wf0 w0 w1).mono fun e W' ⟨he, bel⟩ => ?_
  subst he
  exact ⟨_, rfl, _, _, _, [], _, [], hW', trodAll_mk1 (shut_bool Try.underlying4 _), (trodAll_cons_mk (Below.trod laidOut (by kernel_rfl) (of_decide_eq_true (by kernel_rfl)) k0 bel lt0) (trodAll_cons_mk (Below.trod laidOut (by kernel_rfl) (of_decide_eq_true (by kernel_rfl)) k1 bel lt1) trodAll_mk0)), rfl, bel.frame _, fun h => by cases h⟩

theorem over : Rows.fnExactBestCutsRow.holds Try.pinned (OpenSpec.ofChange Rows.fnExactBestCutsSpec) :=
  OpenClaim.holds_of_wide 10 Try.f10 rfl rfl rfl rfl rfl rfl rfl ⟨rfl, rfl, rfl, rfl, rfl⟩ rfl rfl rfl rfl rfl (by kernel_rfl) Try.func10 (by kernel_rfl)
    (of_decide_eq_true (by kernel_rfl)) (by unfold Func.isWrapper; first | (rw [if_pos (by decide +kernel)]; kernel_rfl) | (rw [if_neg (by decide +kernel)]; exact ⟨rfl, rfl⟩))
    (fun os started H enc _ => lifted os started H enc)

theorem proved : Rows.FnExactBestCutsSaid := over

end Go.Proofs.Ytcpaenmhnoagdab.fnExactBestCuts
