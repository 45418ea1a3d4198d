/-
  For every twill, FnExactBackOf returns true: BackOf of the program gives the draft and the code of the model, keeps the twill, and its answer is memory of its own. No condition.
-/
import Derived.Test.YtakcgeafcecimaaQm
import Derived.Test.YtakcgeafcecimaaQl
import Derived.Test.YtakcgeafcecimaaOpenBed
namespace Go.Proofs.Ytakcgeafcecimaa.fnExactBackOf
open Go.ChangeShapes Go.WideShapes Go.ChangeAt Go.RowKit Go.Joins
open Go.ChangeMaps (open_string shut_string)
open Go.Proofs.Ytakcgeafcecimaa.twl Go.Proofs.Ytakcgeafcecimaa.wk Go.Proofs.Ytakcgeafcecimaa.rod Go.Proofs.Ytakcgeafcecimaa.mem Go.Proofs.Ytakcgeafcecimaa.nums
set_option linter.unusedVariables false

set_option maxHeartbeats 4000000 in
set_option maxRecDepth 100000 in
theorem core (A : Option Addr) (n c : Nat) (X : Nat → Int) (st : Int) (l : List Int) (hl : l.length ≤ 1048576) (sr : Int) (code : Int) (w : World) (hnn : n ≤ 1048576) (hX : Sl w A n 1 X)
    (hspec : Hid (∀ (A' : Option Addr) (c' : Nat) (w : World), Sl w A' n 1 X → Calls Try.prog 32 #[.agg #[.slice A' n c', .int .i64 st]] w (fun e w' => ∃ A c, e = .returned (.tuple #[.agg #[.slice A l.length c, .int .i64 sr], .int .i64 code]) ∧ l.length ≤ c ∧ c ≤ maxLen ∧ Row w' w.heap.size w'.heap.size A l.length 1 2 (fun j => l.getD j 0) ∧ Below w.heap.size w w')))
    (himpl : Hid (∀ (A' : Option Addr) (c' : Nat) (w : World), Sl w A' n 1 X → Calls Try.prog 33 #[.agg #[.slice A' n c', .int .i64 st]] w (fun e w' => ∃ A c, e = .returned (.tuple #[.agg #[.slice A l.length c, .int .i64 sr], .int .i64 code]) ∧ l.length ≤ c ∧ c ≤ maxLen ∧ Row w' w.heap.size w'.heap.size A l.length 1 2 (fun j => l.getD j 0) ∧ Below w.heap.size w w'))) :
    Calls Try.prog 9 #[.agg #[.slice A n c, .int .i64 st]] w fun e w' => e = .returned (.bool true) ∧ Below w.heap.size w w' := by
  have HX := Lib.hid hX
  clear hX
  have hmn : n ≤ maxLen := by unfold maxLen; omega
  have hqn : ¬ (1048576 : Int) < (n : Int) := by omega
  have hrn : ¬ (1048576 - (n : Int)) < 0 := by omega
  have hml : l.length ≤ maxLen := by unfold maxLen; omega
  generalize hL : l.length = L at *
  have HL := Lib.hid hL
  clear hL
  have b0 : Below w.heap.size w w := Below.refl _ _
  go_enter Try.func9, Try.ntmps9
  go_wp2_with fail
  refine (szTwill_c A n c st 1048576 _ (by omega) (by omega)).mono ?_
  rintro e w1 ⟨rfl, hb1⟩
  have z1 := hb1.size
  try simp at z1
  have s1 : Below w.heap.size w w1 := Below.trans (by go_grown) (hb1.mono (by first | omega | (simp; done) | (simp; omega)))
  have b1 : Below w.heap.size w w1 := b0.trans (s1.mono (by omega))
  have p1 : w1.cell? ⟨w.heap.size, 0, none⟩ = some (.slice A n c) := by rw [(bcell hb1).1 _ _ (by first | omega | (simp; done) | (simp; omega))]; go_simp
  have p2 : w1.cell? ⟨w.heap.size, 1, none⟩ = some (.int .i64 st) := by rw [(bcell hb1).1 _ _ (by first | omega | (simp; done) | (simp; omega))]; go_simp
  have y_w : w.heap.size < w1.heap.size := by omega
  clear hb1 s1
  go_wp2_with fail
  refine (toTwill_c A n c X st _ hnn (Sl.below HX.out b1 (Nat.le_refl _))).mono ?_
  rintro e w2 ⟨Aw2, cw2, rfl, kc2, mc2, r2, hb2⟩
  have z2 := hb2.size
  try simp at z2
  have s2 : Below w1.heap.size w1 w2 := Below.trans (by go_grown) (hb2.mono (by first | omega | (simp; done) | (simp; omega)))
  have b2 : Below w.heap.size w w2 := b1.trans (s2.mono (by omega))
  replace p1 : w2.cell? ⟨w.heap.size, 0, none⟩ = some (.slice A n c) := (s2.cell (p := ⟨w.heap.size, 0, none⟩) (show w.heap.size < w1.heap.size by omega)).trans p1
  replace p2 : w2.cell? ⟨w.heap.size, 1, none⟩ = some (.int .i64 st) := (s2.cell (p := ⟨w.heap.size, 1, none⟩) (show w.heap.size < w1.heap.size by omega)).trans p2
  replace y_w : w.heap.size < w2.heap.size := by omega
  have R1_2 := Lib.hid (r2.wide (lo' := w1.heap.size) (by first | omega | (simp; done) | (simp; omega)) (Nat.le_refl _))
  clear r2
  clear hb2 s2
  go_wp2_with fail
  refine (hspec.out _ _ _ (R1_2.out.sl)).mono ?_
  rintro e w3 ⟨Aw3, cw3, he3, kc3, mc3, r3, hb3⟩
  try rw [HL.out] at he3 kc3 r3
  subst he3
  have z3 := hb3.size
  try simp at z3
  have s3 : Below w2.heap.size w2 w3 := Below.trans (by go_grown) (hb3.mono (by first | omega | (simp; done) | (simp; omega)))
  have b3 : Below w.heap.size w w3 := b2.trans (s3.mono (by omega))
  replace p1 : w3.cell? ⟨w.heap.size, 0, none⟩ = some (.slice A n c) := (s3.cell (p := ⟨w.heap.size, 0, none⟩) (show w.heap.size < w2.heap.size by omega)).trans p1
  replace p2 : w3.cell? ⟨w.heap.size, 1, none⟩ = some (.int .i64 st) := (s3.cell (p := ⟨w.heap.size, 1, none⟩) (show w.heap.size < w2.heap.size by omega)).trans p2
  replace y_w : w.heap.size < w3.heap.size := by omega
  have R1_3 := Lib.hid (R1_2.out.below s3 (by omega))
  clear R1_2
  have R2_3 := Lib.hid (r3.wide (lo' := w2.heap.size) (by first | omega | (simp; done) | (simp; omega)) (Nat.le_refl _))
  clear r3
  clear hb3 s3
  clear R1_3
  go_wp2_with fail
  refine (toTwill_c A n c X st _ hnn (Sl.below HX.out (w' := _) (K := w.heap.size) (by first | exact b3 | go_grown) (Nat.le_refl _))).mono ?_
  rintro e w4 ⟨Aw4, cw4, rfl, kc4, mc4, r4, hb4⟩
  have z4 := hb4.size
  try simp at z4
  have s4 : Below w3.heap.size w3 w4 := Below.trans (by go_grown) (hb4.mono (by first | omega | (simp; done) | (simp; omega)))
  have b4 : Below w.heap.size w w4 := b3.trans (s4.mono (by omega))
  replace p1 : w4.cell? ⟨w.heap.size, 0, none⟩ = some (.slice A n c) := (s4.cell (p := ⟨w.heap.size, 0, none⟩) (show w.heap.size < w3.heap.size by omega)).trans p1
  replace p2 : w4.cell? ⟨w.heap.size, 1, none⟩ = some (.int .i64 st) := (s4.cell (p := ⟨w.heap.size, 1, none⟩) (show w.heap.size < w3.heap.size by omega)).trans p2
  have p3 : w4.cell? ⟨w3.heap.size, 0, none⟩ = some (.slice Aw3 L cw3) := by rw [(bcell hb4).1 _ _ (by first | omega | (simp; done) | (simp; omega))]; go_simp
  have p4 : w4.cell? ⟨w3.heap.size, 1, none⟩ = some (.int .i64 sr) := by rw [(bcell hb4).1 _ _ (by first | omega | (simp; done) | (simp; omega))]; go_simp
  replace y_w : w.heap.size < w4.heap.size := by omega
  have y_w3 : w3.heap.size < w4.heap.size := by omega
  have R2_4 := Lib.hid (R2_3.out.below s4 (by omega))
  clear R2_3
  have R3_4 := Lib.hid (r4.wide (lo' := w3.heap.size + 1) (by first | omega | (simp; done) | (simp; omega)) (Nat.le_refl _))
  clear r4
  clear hb4 s4
  go_wp2_with fail
  refine (himpl.out _ _ _ (R3_4.out.sl.below (K := w4.heap.size) (by go_grown) (Nat.le_refl _))).mono ?_
  rintro e w5 ⟨Aw5, cw5, he5, kc5, mc5, r5, hb5⟩
  try rw [HL.out] at he5 kc5 r5
  subst he5
  have z5 := hb5.size
  try simp at z5
  have s5 : Below w4.heap.size w4 w5 := Below.trans (by go_grown) (hb5.mono (by first | omega | (simp; done) | (simp; omega)))
  have b5 : Below w.heap.size w w5 := b4.trans (s5.mono (by omega))
  replace p1 : w5.cell? ⟨w.heap.size, 0, none⟩ = some (.slice A n c) := (s5.cell (p := ⟨w.heap.size, 0, none⟩) (show w.heap.size < w4.heap.size by omega)).trans p1
  replace p2 : w5.cell? ⟨w.heap.size, 1, none⟩ = some (.int .i64 st) := (s5.cell (p := ⟨w.heap.size, 1, none⟩) (show w.heap.size < w4.heap.size by omega)).trans p2
  replace p3 : w5.cell? ⟨w3.heap.size, 0, none⟩ = some (.slice Aw3 L cw3) := (s5.cell (p := ⟨w3.heap.size, 0, none⟩) (show w3.heap.size < w4.heap.size by omega)).trans p3
  replace p4 : w5.cell? ⟨w3.heap.size, 1, none⟩ = some (.int .i64 sr) := (s5.cell (p := ⟨w3.heap.size, 1, none⟩) (show w3.heap.size < w4.heap.size by omega)).trans p4
  have p5 : w5.cell? ⟨w4.heap.size, 0, none⟩ = some (.slice Aw4 n cw4) := by rw [(bcell hb5).1 _ _ (by first | omega | (simp; done) | (simp; omega))]; go_simp
  have p6 : w5.cell? ⟨w4.heap.size, 1, none⟩ = some (.int .i64 st) := by rw [(bcell hb5).1 _ _ (by first | omega | (simp; done) | (simp; omega))]; go_simp
  replace y_w : w.heap.size < w5.heap.size := by omega
  replace y_w3 : w3.heap.size < w5.heap.size := by omega
  have y_w4 : w4.heap.size < w5.heap.size := by omega
  have R2_5 := Lib.hid (R2_4.out.below s5 (by omega))
  clear R2_4
  have R3_5 := Lib.hid (R3_4.out.below s5 (by omega))
  clear R3_4
  have R4_5 := Lib.hid (r5.wide (lo' := w4.heap.size + 1) (by first | omega | (simp; done) | (simp; omega)) (Nat.le_refl _))
  clear r5
  clear hb5 s5
  go_wp2_with fail
  refine (eqTwill_same Aw5 Aw3 L cw5 cw3 (fun j => l.getD j 0) sr _ hml (R4_5.out.sl.below (K := w5.heap.size) (by go_grown) (Nat.le_refl _)) (R2_5.out.sl.below (K := w5.heap.size) (by go_grown) (Nat.le_refl _))).mono ?_
  rintro e w6 ⟨rfl, hb6⟩
  have z6 := hb6.size
  try simp at z6
  have s6 : Below w5.heap.size w5 w6 := Below.trans (by go_grown) (hb6.mono (by first | omega | (simp; done) | (simp; omega)))
  have b6 : Below w.heap.size w w6 := b5.trans (s6.mono (by omega))
  replace p1 : w6.cell? ⟨w.heap.size, 0, none⟩ = some (.slice A n c) := (s6.cell (p := ⟨w.heap.size, 0, none⟩) (show w.heap.size < w5.heap.size by omega)).trans p1
  replace p2 : w6.cell? ⟨w.heap.size, 1, none⟩ = some (.int .i64 st) := (s6.cell (p := ⟨w.heap.size, 1, none⟩) (show w.heap.size < w5.heap.size by omega)).trans p2
  replace p3 : w6.cell? ⟨w3.heap.size, 0, none⟩ = some (.slice Aw3 L cw3) := (s6.cell (p := ⟨w3.heap.size, 0, none⟩) (show w3.heap.size < w5.heap.size by omega)).trans p3
  replace p4 : w6.cell? ⟨w3.heap.size, 1, none⟩ = some (.int .i64 sr) := (s6.cell (p := ⟨w3.heap.size, 1, none⟩) (show w3.heap.size < w5.heap.size by omega)).trans p4
  replace p5 : w6.cell? ⟨w4.heap.size, 0, none⟩ = some (.slice Aw4 n cw4) := (s6.cell (p := ⟨w4.heap.size, 0, none⟩) (show w4.heap.size < w5.heap.size by omega)).trans p5
  replace p6 : w6.cell? ⟨w4.heap.size, 1, none⟩ = some (.int .i64 st) := (s6.cell (p := ⟨w4.heap.size, 1, none⟩) (show w4.heap.size < w5.heap.size by omega)).trans p6
  have p7 : w6.cell? ⟨w5.heap.size, 0, none⟩ = some (.slice Aw5 L cw5) := by rw [(bcell hb6).1 _ _ (by first | omega | (simp; done) | (simp; omega))]; go_simp
  have p8 : w6.cell? ⟨w5.heap.size, 1, none⟩ = some (.int .i64 sr) := by rw [(bcell hb6).1 _ _ (by first | omega | (simp; done) | (simp; omega))]; go_simp
  replace y_w : w.heap.size < w6.heap.size := by omega
  replace y_w3 : w3.heap.size < w6.heap.size := by omega
  replace y_w4 : w4.heap.size < w6.heap.size := by omega
  have y_w5 : w5.heap.size < w6.heap.size := by omega
  have R2_6 := Lib.hid (R2_5.out.below s6 (by omega))
  clear R2_5
  have R3_6 := Lib.hid (R3_5.out.below s6 (by omega))
  clear R3_5
  have R4_6 := Lib.hid (R4_5.out.below s6 (by omega))
  clear R4_5
  clear hb6 s6
  go_wp2_with fail
  go_region_held3 (fun q => q.cell? ⟨w4.heap.size, 0, none⟩ = some (.slice Aw4 n cw4) ∧ q.cell? ⟨w4.heap.size, 1, none⟩ = some (.int .i64 st) ∧ q.cell? ⟨w.heap.size, 0, none⟩ = some (.slice A n c) ∧ q.cell? ⟨w.heap.size, 1, none⟩ = some (.int .i64 st)) (first | exact ⟨p5, p6, p1, p2⟩ | go_keep)
    (first
      | (go_at_call 14; refine (toTwill_c A n c X st _ hnn (Sl.below HX.out b6.drew (Nat.le_refl _))).mono ?_; rintro e w7 ⟨Aw7, cw7, rfl, kc7, mc7, r7, hb7⟩
         have z7 := hb7.size
         try simp at z7
         have s7 : Below w6.heap.size w6 w7 := Below.trans (Below.drew (Below.refl _ _)) (hb7.mono (by first | omega | (simp; done) | (simp; omega)))
         have b7 : Below w.heap.size w w7 := b6.trans (s7.mono (by omega))
         replace p1 : w7.cell? ⟨w.heap.size, 0, none⟩ = some (.slice A n c) := (s7.cell (p := ⟨w.heap.size, 0, none⟩) (show w.heap.size < w6.heap.size by omega)).trans p1
         replace p2 : w7.cell? ⟨w.heap.size, 1, none⟩ = some (.int .i64 st) := (s7.cell (p := ⟨w.heap.size, 1, none⟩) (show w.heap.size < w6.heap.size by omega)).trans p2
         replace p3 : w7.cell? ⟨w3.heap.size, 0, none⟩ = some (.slice Aw3 L cw3) := (s7.cell (p := ⟨w3.heap.size, 0, none⟩) (show w3.heap.size < w6.heap.size by omega)).trans p3
         replace p4 : w7.cell? ⟨w3.heap.size, 1, none⟩ = some (.int .i64 sr) := (s7.cell (p := ⟨w3.heap.size, 1, none⟩) (show w3.heap.size < w6.heap.size by omega)).trans p4
         replace p5 : w7.cell? ⟨w4.heap.size, 0, none⟩ = some (.slice Aw4 n cw4) := (s7.cell (p := ⟨w4.heap.size, 0, none⟩) (show w4.heap.size < w6.heap.size by omega)).trans p5
         replace p6 : w7.cell? ⟨w4.heap.size, 1, none⟩ = some (.int .i64 st) := (s7.cell (p := ⟨w4.heap.size, 1, none⟩) (show w4.heap.size < w6.heap.size by omega)).trans p6
         replace p7 : w7.cell? ⟨w5.heap.size, 0, none⟩ = some (.slice Aw5 L cw5) := (s7.cell (p := ⟨w5.heap.size, 0, none⟩) (show w5.heap.size < w6.heap.size by omega)).trans p7
         replace p8 : w7.cell? ⟨w5.heap.size, 1, none⟩ = some (.int .i64 sr) := (s7.cell (p := ⟨w5.heap.size, 1, none⟩) (show w5.heap.size < w6.heap.size by omega)).trans p8
         replace y_w : w.heap.size < w7.heap.size := by omega
         replace y_w3 : w3.heap.size < w7.heap.size := by omega
         replace y_w4 : w4.heap.size < w7.heap.size := by omega
         replace y_w5 : w5.heap.size < w7.heap.size := by omega
         have R2_7 := Lib.hid (R2_6.out.below s7 (by omega))
         clear R2_6
         have R3_7 := Lib.hid (R3_6.out.below s7 (by omega))
         clear R3_6
         have R4_7 := Lib.hid (R4_6.out.below s7 (by omega))
         clear R4_6
         have R5_7 := Lib.hid (r7.wide (lo' := w6.heap.size) (by first | omega | (simp; done) | (simp; omega)) (Nat.le_refl _))
         clear r7
         clear hb7 s7)
      | (go_at_call 16; refine (eqTwill_same Aw4 Aw7 n cw4 cw7 X st _ hmn (R3_7.out.sl) (R5_7.out.sl)).mono ?_; rintro e w8 ⟨rfl, hb8⟩
         have z8 := hb8.size
         try simp at z8
         have s8 : Below w7.heap.size w7 w8 := Below.trans (by go_grown) (hb8.mono (by first | omega | (simp; done) | (simp; omega)))
         have b8 : Below w.heap.size w w8 := b7.trans (s8.mono (by omega))
         replace p1 : w8.cell? ⟨w.heap.size, 0, none⟩ = some (.slice A n c) := (s8.cell (p := ⟨w.heap.size, 0, none⟩) (show w.heap.size < w7.heap.size by omega)).trans p1
         replace p2 : w8.cell? ⟨w.heap.size, 1, none⟩ = some (.int .i64 st) := (s8.cell (p := ⟨w.heap.size, 1, none⟩) (show w.heap.size < w7.heap.size by omega)).trans p2
         replace p3 : w8.cell? ⟨w3.heap.size, 0, none⟩ = some (.slice Aw3 L cw3) := (s8.cell (p := ⟨w3.heap.size, 0, none⟩) (show w3.heap.size < w7.heap.size by omega)).trans p3
         replace p4 : w8.cell? ⟨w3.heap.size, 1, none⟩ = some (.int .i64 sr) := (s8.cell (p := ⟨w3.heap.size, 1, none⟩) (show w3.heap.size < w7.heap.size by omega)).trans p4
         replace p5 : w8.cell? ⟨w4.heap.size, 0, none⟩ = some (.slice Aw4 n cw4) := (s8.cell (p := ⟨w4.heap.size, 0, none⟩) (show w4.heap.size < w7.heap.size by omega)).trans p5
         replace p6 : w8.cell? ⟨w4.heap.size, 1, none⟩ = some (.int .i64 st) := (s8.cell (p := ⟨w4.heap.size, 1, none⟩) (show w4.heap.size < w7.heap.size by omega)).trans p6
         replace p7 : w8.cell? ⟨w5.heap.size, 0, none⟩ = some (.slice Aw5 L cw5) := (s8.cell (p := ⟨w5.heap.size, 0, none⟩) (show w5.heap.size < w7.heap.size by omega)).trans p7
         replace p8 : w8.cell? ⟨w5.heap.size, 1, none⟩ = some (.int .i64 sr) := (s8.cell (p := ⟨w5.heap.size, 1, none⟩) (show w5.heap.size < w7.heap.size by omega)).trans p8
         replace y_w : w.heap.size < w8.heap.size := by omega
         replace y_w3 : w3.heap.size < w8.heap.size := by omega
         replace y_w4 : w4.heap.size < w8.heap.size := by omega
         replace y_w5 : w5.heap.size < w8.heap.size := by omega
         have R2_8 := Lib.hid (R2_7.out.below s8 (by omega))
         clear R2_7
         have R3_8 := Lib.hid (R3_7.out.below s8 (by omega))
         clear R3_7
         have R4_8 := Lib.hid (R4_7.out.below s8 (by omega))
         clear R4_7
         have R5_8 := Lib.hid (R5_7.out.below s8 (by omega))
         clear R5_7
         clear hb8 s8))
  clear R5_8
  go_wp2_with fail
  refine (markTwill_c Aw4 n cw4 _ _ _ _ st _ hnn (by omega) (by omega) R3_8.out).mono ?_
  rintro e w9 ⟨rfl, r9, hw9⟩
  have z9 := hw9.size
  try simp at z9
  have b9 : Below w.heap.size w w9 := b8.trans (hw9.below (by omega) (by omega))
  replace p1 : w9.cell? ⟨w.heap.size, 0, none⟩ = some (.slice A n c) := (hw9.cell (b := w.heap.size) (o := 0) (by omega) (by omega)).trans p1
  replace p2 : w9.cell? ⟨w.heap.size, 1, none⟩ = some (.int .i64 st) := (hw9.cell (b := w.heap.size) (o := 1) (by omega) (by omega)).trans p2
  replace p3 : w9.cell? ⟨w3.heap.size, 0, none⟩ = some (.slice Aw3 L cw3) := (hw9.cell (b := w3.heap.size) (o := 0) (by omega) (by omega)).trans p3
  replace p4 : w9.cell? ⟨w3.heap.size, 1, none⟩ = some (.int .i64 sr) := (hw9.cell (b := w3.heap.size) (o := 1) (by omega) (by omega)).trans p4
  replace p5 : w9.cell? ⟨w4.heap.size, 0, none⟩ = some (.slice Aw4 n cw4) := (hw9.cell (b := w4.heap.size) (o := 0) (by omega) (by omega)).trans p5
  replace p6 : w9.cell? ⟨w4.heap.size, 1, none⟩ = some (.int .i64 st) := (hw9.cell (b := w4.heap.size) (o := 1) (by omega) (by omega)).trans p6
  replace p7 : w9.cell? ⟨w5.heap.size, 0, none⟩ = some (.slice Aw5 L cw5) := (hw9.cell (b := w5.heap.size) (o := 0) (by omega) (by omega)).trans p7
  replace p8 : w9.cell? ⟨w5.heap.size, 1, none⟩ = some (.int .i64 sr) := (hw9.cell (b := w5.heap.size) (o := 1) (by omega) (by omega)).trans p8
  replace y_w : w.heap.size < w9.heap.size := by omega
  replace y_w3 : w3.heap.size < w9.heap.size := by omega
  replace y_w4 : w4.heap.size < w9.heap.size := by omega
  replace y_w5 : w5.heap.size < w9.heap.size := by omega
  have R2_9 := Lib.hid (R2_8.out.wrote hw9 (by omega))
  clear R2_8
  have R4_9 := Lib.hid (R4_8.out.wrote hw9 (by omega))
  clear R4_8
  have R3_9 := Lib.hid r9
  clear r9 hw9 R3_8
  clear R3_9
  go_wp2_with fail
  refine (eqTwill_same Aw5 Aw3 L cw5 cw3 (fun j => l.getD j 0) sr _ hml (R4_9.out.sl) (R2_9.out.sl)).mono ?_
  rintro e w10 ⟨rfl, hb10⟩
  have z10 := hb10.size
  try simp at z10
  have s10 : Below w9.heap.size w9 w10 := Below.trans (by go_grown) (hb10.mono (by first | omega | (simp; done) | (simp; omega)))
  have b10 : Below w.heap.size w w10 := b9.trans (s10.mono (by omega))
  replace p1 : w10.cell? ⟨w.heap.size, 0, none⟩ = some (.slice A n c) := (s10.cell (p := ⟨w.heap.size, 0, none⟩) (show w.heap.size < w9.heap.size by omega)).trans p1
  replace p2 : w10.cell? ⟨w.heap.size, 1, none⟩ = some (.int .i64 st) := (s10.cell (p := ⟨w.heap.size, 1, none⟩) (show w.heap.size < w9.heap.size by omega)).trans p2
  replace p3 : w10.cell? ⟨w3.heap.size, 0, none⟩ = some (.slice Aw3 L cw3) := (s10.cell (p := ⟨w3.heap.size, 0, none⟩) (show w3.heap.size < w9.heap.size by omega)).trans p3
  replace p4 : w10.cell? ⟨w3.heap.size, 1, none⟩ = some (.int .i64 sr) := (s10.cell (p := ⟨w3.heap.size, 1, none⟩) (show w3.heap.size < w9.heap.size by omega)).trans p4
  replace p5 : w10.cell? ⟨w4.heap.size, 0, none⟩ = some (.slice Aw4 n cw4) := (s10.cell (p := ⟨w4.heap.size, 0, none⟩) (show w4.heap.size < w9.heap.size by omega)).trans p5
  replace p6 : w10.cell? ⟨w4.heap.size, 1, none⟩ = some (.int .i64 st) := (s10.cell (p := ⟨w4.heap.size, 1, none⟩) (show w4.heap.size < w9.heap.size by omega)).trans p6
  replace p7 : w10.cell? ⟨w5.heap.size, 0, none⟩ = some (.slice Aw5 L cw5) := (s10.cell (p := ⟨w5.heap.size, 0, none⟩) (show w5.heap.size < w9.heap.size by omega)).trans p7
  replace p8 : w10.cell? ⟨w5.heap.size, 1, none⟩ = some (.int .i64 sr) := (s10.cell (p := ⟨w5.heap.size, 1, none⟩) (show w5.heap.size < w9.heap.size by omega)).trans p8
  replace y_w : w.heap.size < w10.heap.size := by omega
  replace y_w3 : w3.heap.size < w10.heap.size := by omega
  replace y_w4 : w4.heap.size < w10.heap.size := by omega
  replace y_w5 : w5.heap.size < w10.heap.size := by omega
  have R2_10 := Lib.hid (R2_9.out.below s10 (by omega))
  clear R2_9
  have R4_10 := Lib.hid (R4_9.out.below s10 (by omega))
  clear R4_9
  clear hb10 s10
  go_wp2_with fail
  refine (markTwill_c Aw5 L cw5 _ _ 1 _ sr _ hl (by omega) (by omega) R4_10.out).mono ?_
  rintro e w11 ⟨rfl, r11, hw11⟩
  have z11 := hw11.size
  try simp at z11
  have b11 : Below w.heap.size w w11 := b10.trans (hw11.below (by omega) (by omega))
  replace p1 : w11.cell? ⟨w.heap.size, 0, none⟩ = some (.slice A n c) := (hw11.cell (b := w.heap.size) (o := 0) (by omega) (by omega)).trans p1
  replace p2 : w11.cell? ⟨w.heap.size, 1, none⟩ = some (.int .i64 st) := (hw11.cell (b := w.heap.size) (o := 1) (by omega) (by omega)).trans p2
  replace p3 : w11.cell? ⟨w3.heap.size, 0, none⟩ = some (.slice Aw3 L cw3) := (hw11.cell (b := w3.heap.size) (o := 0) (by omega) (by omega)).trans p3
  replace p4 : w11.cell? ⟨w3.heap.size, 1, none⟩ = some (.int .i64 sr) := (hw11.cell (b := w3.heap.size) (o := 1) (by omega) (by omega)).trans p4
  replace p5 : w11.cell? ⟨w4.heap.size, 0, none⟩ = some (.slice Aw4 n cw4) := (hw11.cell (b := w4.heap.size) (o := 0) (by omega) (by omega)).trans p5
  replace p6 : w11.cell? ⟨w4.heap.size, 1, none⟩ = some (.int .i64 st) := (hw11.cell (b := w4.heap.size) (o := 1) (by omega) (by omega)).trans p6
  replace p7 : w11.cell? ⟨w5.heap.size, 0, none⟩ = some (.slice Aw5 L cw5) := (hw11.cell (b := w5.heap.size) (o := 0) (by omega) (by omega)).trans p7
  replace p8 : w11.cell? ⟨w5.heap.size, 1, none⟩ = some (.int .i64 sr) := (hw11.cell (b := w5.heap.size) (o := 1) (by omega) (by omega)).trans p8
  replace y_w : w.heap.size < w11.heap.size := by omega
  replace y_w3 : w3.heap.size < w11.heap.size := by omega
  replace y_w4 : w4.heap.size < w11.heap.size := by omega
  replace y_w5 : w5.heap.size < w11.heap.size := by omega
  have R2_11 := Lib.hid (R2_10.out.wrote hw11 (by omega))
  clear R2_10
  have R4_11 := Lib.hid r11
  clear r11 hw11 R4_10
  go_wp2_with fail
  refine (heldTwill_c Aw5 L cw5 1 sr _ hl (by omega) (by omega) R4_11.out.sl).mono ?_
  rintro e w12 ⟨rfl, hb12⟩
  have z12 := hb12.size
  try simp at z12
  have s12 : Below w11.heap.size w11 w12 := Below.trans (by go_grown) (hb12.mono (by first | omega | (simp; done) | (simp; omega)))
  have b12 : Below w.heap.size w w12 := b11.trans (s12.mono (by omega))
  replace p1 : w12.cell? ⟨w.heap.size, 0, none⟩ = some (.slice A n c) := (s12.cell (p := ⟨w.heap.size, 0, none⟩) (show w.heap.size < w11.heap.size by omega)).trans p1
  replace p2 : w12.cell? ⟨w.heap.size, 1, none⟩ = some (.int .i64 st) := (s12.cell (p := ⟨w.heap.size, 1, none⟩) (show w.heap.size < w11.heap.size by omega)).trans p2
  replace p3 : w12.cell? ⟨w3.heap.size, 0, none⟩ = some (.slice Aw3 L cw3) := (s12.cell (p := ⟨w3.heap.size, 0, none⟩) (show w3.heap.size < w11.heap.size by omega)).trans p3
  replace p4 : w12.cell? ⟨w3.heap.size, 1, none⟩ = some (.int .i64 sr) := (s12.cell (p := ⟨w3.heap.size, 1, none⟩) (show w3.heap.size < w11.heap.size by omega)).trans p4
  replace p5 : w12.cell? ⟨w4.heap.size, 0, none⟩ = some (.slice Aw4 n cw4) := (s12.cell (p := ⟨w4.heap.size, 0, none⟩) (show w4.heap.size < w11.heap.size by omega)).trans p5
  replace p6 : w12.cell? ⟨w4.heap.size, 1, none⟩ = some (.int .i64 st) := (s12.cell (p := ⟨w4.heap.size, 1, none⟩) (show w4.heap.size < w11.heap.size by omega)).trans p6
  replace p7 : w12.cell? ⟨w5.heap.size, 0, none⟩ = some (.slice Aw5 L cw5) := (s12.cell (p := ⟨w5.heap.size, 0, none⟩) (show w5.heap.size < w11.heap.size by omega)).trans p7
  replace p8 : w12.cell? ⟨w5.heap.size, 1, none⟩ = some (.int .i64 sr) := (s12.cell (p := ⟨w5.heap.size, 1, none⟩) (show w5.heap.size < w11.heap.size by omega)).trans p8
  replace y_w : w.heap.size < w12.heap.size := by omega
  replace y_w3 : w3.heap.size < w12.heap.size := by omega
  replace y_w4 : w4.heap.size < w12.heap.size := by omega
  replace y_w5 : w5.heap.size < w12.heap.size := by omega
  have R2_12 := Lib.hid (R2_11.out.below s12 (by omega))
  clear R2_11
  have R4_12 := Lib.hid (R4_11.out.below s12 (by omega))
  clear R4_11
  clear hb12 s12
  go_wp2_with fail
  refine (toTwill_c A n c X st _ hnn (Sl.below HX.out b12 (Nat.le_refl _))).mono ?_
  rintro e w13 ⟨Aw13, cw13, rfl, kc13, mc13, r13, hb13⟩
  have z13 := hb13.size
  try simp at z13
  have s13 : Below w12.heap.size w12 w13 := Below.trans (by go_grown) (hb13.mono (by first | omega | (simp; done) | (simp; omega)))
  have b13 : Below w.heap.size w w13 := b12.trans (s13.mono (by omega))
  replace p1 : w13.cell? ⟨w.heap.size, 0, none⟩ = some (.slice A n c) := (s13.cell (p := ⟨w.heap.size, 0, none⟩) (show w.heap.size < w12.heap.size by omega)).trans p1
  replace p2 : w13.cell? ⟨w.heap.size, 1, none⟩ = some (.int .i64 st) := (s13.cell (p := ⟨w.heap.size, 1, none⟩) (show w.heap.size < w12.heap.size by omega)).trans p2
  replace p3 : w13.cell? ⟨w3.heap.size, 0, none⟩ = some (.slice Aw3 L cw3) := (s13.cell (p := ⟨w3.heap.size, 0, none⟩) (show w3.heap.size < w12.heap.size by omega)).trans p3
  replace p4 : w13.cell? ⟨w3.heap.size, 1, none⟩ = some (.int .i64 sr) := (s13.cell (p := ⟨w3.heap.size, 1, none⟩) (show w3.heap.size < w12.heap.size by omega)).trans p4
  replace p5 : w13.cell? ⟨w4.heap.size, 0, none⟩ = some (.slice Aw4 n cw4) := (s13.cell (p := ⟨w4.heap.size, 0, none⟩) (show w4.heap.size < w12.heap.size by omega)).trans p5
  replace p6 : w13.cell? ⟨w4.heap.size, 1, none⟩ = some (.int .i64 st) := (s13.cell (p := ⟨w4.heap.size, 1, none⟩) (show w4.heap.size < w12.heap.size by omega)).trans p6
  replace p7 : w13.cell? ⟨w5.heap.size, 0, none⟩ = some (.slice Aw5 L cw5) := (s13.cell (p := ⟨w5.heap.size, 0, none⟩) (show w5.heap.size < w12.heap.size by omega)).trans p7
  replace p8 : w13.cell? ⟨w5.heap.size, 1, none⟩ = some (.int .i64 sr) := (s13.cell (p := ⟨w5.heap.size, 1, none⟩) (show w5.heap.size < w12.heap.size by omega)).trans p8
  replace y_w : w.heap.size < w13.heap.size := by omega
  replace y_w3 : w3.heap.size < w13.heap.size := by omega
  replace y_w4 : w4.heap.size < w13.heap.size := by omega
  replace y_w5 : w5.heap.size < w13.heap.size := by omega
  have R2_13 := Lib.hid (R2_12.out.below s13 (by omega))
  clear R2_12
  have R4_13 := Lib.hid (R4_12.out.below s13 (by omega))
  clear R4_12
  have R6_13 := Lib.hid (r13.wide (lo' := w12.heap.size) (by first | omega | (simp; done) | (simp; omega)) (Nat.le_refl _))
  clear r13
  clear hb13 s13
  go_wp2_with fail
  refine (himpl.out _ _ _ (R6_13.out.sl)).mono ?_
  rintro e w14 ⟨Aw14, cw14, he14, kc14, mc14, r14, hb14⟩
  try rw [HL.out] at he14 kc14 r14
  subst he14
  have z14 := hb14.size
  try simp at z14
  have s14 : Below w13.heap.size w13 w14 := Below.trans (by go_grown) (hb14.mono (by first | omega | (simp; done) | (simp; omega)))
  have b14 : Below w.heap.size w w14 := b13.trans (s14.mono (by omega))
  replace p1 : w14.cell? ⟨w.heap.size, 0, none⟩ = some (.slice A n c) := (s14.cell (p := ⟨w.heap.size, 0, none⟩) (show w.heap.size < w13.heap.size by omega)).trans p1
  replace p2 : w14.cell? ⟨w.heap.size, 1, none⟩ = some (.int .i64 st) := (s14.cell (p := ⟨w.heap.size, 1, none⟩) (show w.heap.size < w13.heap.size by omega)).trans p2
  replace p3 : w14.cell? ⟨w3.heap.size, 0, none⟩ = some (.slice Aw3 L cw3) := (s14.cell (p := ⟨w3.heap.size, 0, none⟩) (show w3.heap.size < w13.heap.size by omega)).trans p3
  replace p4 : w14.cell? ⟨w3.heap.size, 1, none⟩ = some (.int .i64 sr) := (s14.cell (p := ⟨w3.heap.size, 1, none⟩) (show w3.heap.size < w13.heap.size by omega)).trans p4
  replace p5 : w14.cell? ⟨w4.heap.size, 0, none⟩ = some (.slice Aw4 n cw4) := (s14.cell (p := ⟨w4.heap.size, 0, none⟩) (show w4.heap.size < w13.heap.size by omega)).trans p5
  replace p6 : w14.cell? ⟨w4.heap.size, 1, none⟩ = some (.int .i64 st) := (s14.cell (p := ⟨w4.heap.size, 1, none⟩) (show w4.heap.size < w13.heap.size by omega)).trans p6
  replace p7 : w14.cell? ⟨w5.heap.size, 0, none⟩ = some (.slice Aw5 L cw5) := (s14.cell (p := ⟨w5.heap.size, 0, none⟩) (show w5.heap.size < w13.heap.size by omega)).trans p7
  replace p8 : w14.cell? ⟨w5.heap.size, 1, none⟩ = some (.int .i64 sr) := (s14.cell (p := ⟨w5.heap.size, 1, none⟩) (show w5.heap.size < w13.heap.size by omega)).trans p8
  replace y_w : w.heap.size < w14.heap.size := by omega
  replace y_w3 : w3.heap.size < w14.heap.size := by omega
  replace y_w4 : w4.heap.size < w14.heap.size := by omega
  replace y_w5 : w5.heap.size < w14.heap.size := by omega
  have R2_14 := Lib.hid (R2_13.out.below s14 (by omega))
  clear R2_13
  have R4_14 := Lib.hid (R4_13.out.below s14 (by omega))
  clear R4_13
  have R6_14 := Lib.hid (R6_13.out.below s14 (by omega))
  clear R6_13
  have R7_14 := Lib.hid (r14.wide (lo' := w13.heap.size) (by first | omega | (simp; done) | (simp; omega)) (Nat.le_refl _))
  clear r14
  clear hb14 s14
  clear R6_14
  go_wp2_with fail
  refine (eqTwill_same Aw14 Aw3 L cw14 cw3 (fun j => l.getD j 0) sr _ hml (R7_14.out.sl.below (K := w14.heap.size) (by go_grown) (Nat.le_refl _)) (R2_14.out.sl.below (K := w14.heap.size) (by go_grown) (Nat.le_refl _))).mono ?_
  rintro e w15 ⟨rfl, hb15⟩
  have z15 := hb15.size
  try simp at z15
  have s15 : Below w14.heap.size w14 w15 := Below.trans (by go_grown) (hb15.mono (by first | omega | (simp; done) | (simp; omega)))
  have b15 : Below w.heap.size w w15 := b14.trans (s15.mono (by omega))
  replace p1 : w15.cell? ⟨w.heap.size, 0, none⟩ = some (.slice A n c) := (s15.cell (p := ⟨w.heap.size, 0, none⟩) (show w.heap.size < w14.heap.size by omega)).trans p1
  replace p2 : w15.cell? ⟨w.heap.size, 1, none⟩ = some (.int .i64 st) := (s15.cell (p := ⟨w.heap.size, 1, none⟩) (show w.heap.size < w14.heap.size by omega)).trans p2
  replace p3 : w15.cell? ⟨w3.heap.size, 0, none⟩ = some (.slice Aw3 L cw3) := (s15.cell (p := ⟨w3.heap.size, 0, none⟩) (show w3.heap.size < w14.heap.size by omega)).trans p3
  replace p4 : w15.cell? ⟨w3.heap.size, 1, none⟩ = some (.int .i64 sr) := (s15.cell (p := ⟨w3.heap.size, 1, none⟩) (show w3.heap.size < w14.heap.size by omega)).trans p4
  replace p5 : w15.cell? ⟨w4.heap.size, 0, none⟩ = some (.slice Aw4 n cw4) := (s15.cell (p := ⟨w4.heap.size, 0, none⟩) (show w4.heap.size < w14.heap.size by omega)).trans p5
  replace p6 : w15.cell? ⟨w4.heap.size, 1, none⟩ = some (.int .i64 st) := (s15.cell (p := ⟨w4.heap.size, 1, none⟩) (show w4.heap.size < w14.heap.size by omega)).trans p6
  replace p7 : w15.cell? ⟨w5.heap.size, 0, none⟩ = some (.slice Aw5 L cw5) := (s15.cell (p := ⟨w5.heap.size, 0, none⟩) (show w5.heap.size < w14.heap.size by omega)).trans p7
  replace p8 : w15.cell? ⟨w5.heap.size, 1, none⟩ = some (.int .i64 sr) := (s15.cell (p := ⟨w5.heap.size, 1, none⟩) (show w5.heap.size < w14.heap.size by omega)).trans p8
  have p9 : w15.cell? ⟨w14.heap.size, 0, none⟩ = some (.slice Aw14 L cw14) := by rw [(bcell hb15).1 _ _ (by first | omega | (simp; done) | (simp; omega))]; go_simp
  have p10 : w15.cell? ⟨w14.heap.size, 1, none⟩ = some (.int .i64 sr) := by rw [(bcell hb15).1 _ _ (by first | omega | (simp; done) | (simp; omega))]; go_simp
  replace y_w : w.heap.size < w15.heap.size := by omega
  replace y_w3 : w3.heap.size < w15.heap.size := by omega
  replace y_w4 : w4.heap.size < w15.heap.size := by omega
  replace y_w5 : w5.heap.size < w15.heap.size := by omega
  have y_w14 : w14.heap.size < w15.heap.size := by omega
  have R2_15 := Lib.hid (R2_14.out.below s15 (by omega))
  clear R2_14
  have R4_15 := Lib.hid (R4_14.out.below s15 (by omega))
  clear R4_14
  have R7_15 := Lib.hid (R7_14.out.below s15 (by omega))
  clear R7_14
  clear hb15 s15
  go_wp2_with fail
  refine (heldTwill_c Aw5 L cw5 1 sr _ hl (by omega) (by omega) R4_15.out.sl).mono ?_
  rintro e w16 ⟨rfl, hb16⟩
  have z16 := hb16.size
  try simp at z16
  have s16 : Below w15.heap.size w15 w16 := Below.trans (by go_grown) (hb16.mono (by first | omega | (simp; done) | (simp; omega)))
  have b16 : Below w.heap.size w w16 := b15.trans (s16.mono (by omega))
  replace p1 : w16.cell? ⟨w.heap.size, 0, none⟩ = some (.slice A n c) := (s16.cell (p := ⟨w.heap.size, 0, none⟩) (show w.heap.size < w15.heap.size by omega)).trans p1
  replace p2 : w16.cell? ⟨w.heap.size, 1, none⟩ = some (.int .i64 st) := (s16.cell (p := ⟨w.heap.size, 1, none⟩) (show w.heap.size < w15.heap.size by omega)).trans p2
  replace p3 : w16.cell? ⟨w3.heap.size, 0, none⟩ = some (.slice Aw3 L cw3) := (s16.cell (p := ⟨w3.heap.size, 0, none⟩) (show w3.heap.size < w15.heap.size by omega)).trans p3
  replace p4 : w16.cell? ⟨w3.heap.size, 1, none⟩ = some (.int .i64 sr) := (s16.cell (p := ⟨w3.heap.size, 1, none⟩) (show w3.heap.size < w15.heap.size by omega)).trans p4
  replace p5 : w16.cell? ⟨w4.heap.size, 0, none⟩ = some (.slice Aw4 n cw4) := (s16.cell (p := ⟨w4.heap.size, 0, none⟩) (show w4.heap.size < w15.heap.size by omega)).trans p5
  replace p6 : w16.cell? ⟨w4.heap.size, 1, none⟩ = some (.int .i64 st) := (s16.cell (p := ⟨w4.heap.size, 1, none⟩) (show w4.heap.size < w15.heap.size by omega)).trans p6
  replace p7 : w16.cell? ⟨w5.heap.size, 0, none⟩ = some (.slice Aw5 L cw5) := (s16.cell (p := ⟨w5.heap.size, 0, none⟩) (show w5.heap.size < w15.heap.size by omega)).trans p7
  replace p8 : w16.cell? ⟨w5.heap.size, 1, none⟩ = some (.int .i64 sr) := (s16.cell (p := ⟨w5.heap.size, 1, none⟩) (show w5.heap.size < w15.heap.size by omega)).trans p8
  replace p9 : w16.cell? ⟨w14.heap.size, 0, none⟩ = some (.slice Aw14 L cw14) := (s16.cell (p := ⟨w14.heap.size, 0, none⟩) (show w14.heap.size < w15.heap.size by omega)).trans p9
  replace p10 : w16.cell? ⟨w14.heap.size, 1, none⟩ = some (.int .i64 sr) := (s16.cell (p := ⟨w14.heap.size, 1, none⟩) (show w14.heap.size < w15.heap.size by omega)).trans p10
  replace y_w : w.heap.size < w16.heap.size := by omega
  replace y_w3 : w3.heap.size < w16.heap.size := by omega
  replace y_w4 : w4.heap.size < w16.heap.size := by omega
  replace y_w5 : w5.heap.size < w16.heap.size := by omega
  replace y_w14 : w14.heap.size < w16.heap.size := by omega
  have R2_16 := Lib.hid (R2_15.out.below s16 (by omega))
  clear R2_15
  have R4_16 := Lib.hid (R4_15.out.below s16 (by omega))
  clear R4_15
  have R7_16 := Lib.hid (R7_15.out.below s16 (by omega))
  clear R7_15
  clear hb16 s16
  go_wp2
  go_ret
  exact ⟨rfl, b16⟩

set_option maxHeartbeats 1000000 in
theorem big (A : Option Addr) (n c : Nat) (st : Int) (w : World) (hn : 1048576 < n) (hm : n ≤ maxLen) :
    Calls Try.prog 9 #[.agg #[.slice A n c, .int .i64 st]] w fun e w' => e = .returned (.bool true) ∧ Below w.heap.size w w' := by
  go_enter Try.func9, Try.ntmps9
  go_wp2_with fail
  refine (szTwill_big A n c st _ _ (by omega) (by omega) (by omega) hm).mono ?_
  rintro e w1 ⟨rfl, hb1⟩
  have g1 : Below w.heap.size w w1 := Below.trans (by go_grown) (hb1.mono (by simp))
  clear hb1
  go_wp2
  go_ret
  exact ⟨rfl, g1⟩

theorem walk (A : Option Addr) (n c : Nat) (X : Nat → Int) (st : Int) (w : World) (le : n ≤ c) (mx : c ≤ maxLen) (sl : Sl w A n 1 X) (wf : ∀ j, j < n * 1 → (Lit.int .i64 (X j)).wf = true) (x0 : (Lit.int .i64 st).wf = true) :
    Calls Try.prog 9 #[.agg #[.slice A n c, .int .i64 st]] w fun e w' => e = .returned (.bool true) ∧ Below w.heap.size w w' := by
  by_cases hn : n ≤ 1048576
  · have hm : n ≤ maxLen := by unfold maxLen; omega
    cases hv : twB n X st
    · exact core A n c X st [] (by simp) 0 1 w hn sl (fun A' c' w h => back_s_no A' n c' X st w hm h hv) (fun A' c' w h => back_i_no A' n c' X st w hm h hv)
    · exact core A n c X st (overL X n) (by rw [overL_len]; exact hn) _ 0 w hn sl (fun A' c' w h => back_s A' n c' X st w h hv) (fun A' c' w h => back_i A' n c' X st w h hv)
  · exact big A n c st w (by omega) (by omega)

theorem own : ownKnob Try.prog.godebug = none := by kernel_rfl
theorem laidOut : laidOutB Try.prog = true := by kernel_rfl

set_option maxRecDepth 100000 in
theorem lifted (os : Os) (started : os.Started) (H : Type) (enc : TypeId × Value → H) :
    ReturnsInHanded {} Try.checked os 9 .any (Rows.fnExactBackOfSpec.pre6 enc Try.prog Try.f9 Rows.fnExactBackOfRow.domain false) (Rows.fnExactBackOfSpec.post enc Try.prog Try.f9 false true false false) := by
  refine returnsInHanded_of_change (C := Try.checked) own started (by kernel_rfl) Try.func9
    (ChangeSpec.witness6 (enc := enc) (C := Try.checked) false ⟨#[], #[.agg #[.slice none 0 0, .int .i64 0]], []⟩ 8 (by kernel_rfl) (by kernel_rfl) (by kernel_rfl) (by kernel_rfl)) ?_
  intro W base args ds gs before hval0 hW hcnd hreach
  have hval : ∀ (j : Nat) t v, Try.f9.params[j]? = some t → args[j]? = some v → Value.okWide Try.prog W .any base t v := hval0
  have hW' := hW
  obtain ⟨p, q, hA0, hV, rfl, hfz, hnd⟩ := hW
  have hA : DataW.TrodAll enc Try.prog W 0 (fun _ => true) true Try.f9.params.toList args.toList ds p := hA0
  rw [Try.params9] at hA hval
  obtain ⟨v0, vs0, d0, ds0, p0, q0, hargs, rfl, rfl, h0, r0⟩ := trodAll_cons hA
  obtain ⟨rfl, rfl, rfl⟩ := trodAll_nil r0
  obtain rfl : args = #[v0] := by cases args; simp_all
  obtain ⟨rfl, rfl⟩ := trodVars_none hV
  have k0 := h0
  have lt0 : ∀ x ∈ p0, x.block < W.heap.size := by obtain ⟨m, hm⟩ := k0; exact DataW.trod_lt m _ _ _ hm
  obtain ⟨c0_0, c0_1, y0_0, y0_1, m0, rfl, rfl, rfl, hy0_0, hy0_1⟩ := open_agg2 Try.underlying24 (by kernel_rfl) (by kernel_rfl) (hval 0 24 v0 rfl rfl) h0
  obtain ⟨A0, len0, cap0, rfl, le0, mx0, X0, sl0, wf0⟩ := open_nums_v Try.underlying22 Try.underlying2 (by kernel_rfl) hy0_0
  obtain ⟨a0, e0_1, rfl, w0⟩ := DataW.trod_int Try.underlying2 hy0_1
  simp at e0_1
  subst e0_1
  clear hA0 hval0
  refine (walk A0 len0 cap0 X0 a0 W le0 mx0 sl0 wf0 w0).mono fun e W' ⟨he, bel⟩ => ?_
  subst he
  exact ⟨_, rfl, _, _, _, [], _, [], hW', trodAll_mk1 (shut_bool Try.underlying4 _), (trodAll_cons_mk (Below.trod laidOut (by kernel_rfl) (of_decide_eq_true (by kernel_rfl)) k0 bel lt0) trodAll_mk0), rfl, bel.frame _, fun h => by cases h⟩

theorem over : Rows.fnExactBackOfRow.holds Try.pinned (OpenSpec.ofChange Rows.fnExactBackOfSpec) :=
  OpenClaim.holds_of_wide 9 Try.f9 rfl rfl rfl rfl rfl rfl rfl ⟨rfl, rfl, rfl, rfl, rfl⟩ rfl rfl rfl rfl rfl (by kernel_rfl) Try.func9 (by kernel_rfl)
    (of_decide_eq_true (by kernel_rfl)) (by unfold Func.isWrapper; first | (rw [if_pos (by decide +kernel)]; kernel_rfl) | (rw [if_neg (by decide +kernel)]; exact ⟨rfl, rfl⟩))
    (fun os started H enc _ => lifted os started H enc)

theorem proved : Rows.FnExactBackOfSaid := over

end Go.Proofs.Ytakcgeafcecimaa.fnExactBackOf
