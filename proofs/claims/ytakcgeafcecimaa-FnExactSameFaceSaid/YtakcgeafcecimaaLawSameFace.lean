/-
  For any two twills, FnExactSameFace returns true: SameFace of the program gives the answer and the code of the model, and keeps both. No condition.
-/
import Derived.Test.YtakcgeafcecimaaQn
import Derived.Test.YtakcgeafcecimaaQl
import Derived.Test.YtakcgeafcecimaaOpenBed
namespace Go.Proofs.Ytakcgeafcecimaa.fnExactSameFace
open Go.ChangeShapes Go.WideShapes Go.ChangeAt Go.RowKit Go.Joins
open Go.ChangeMaps (open_string shut_string)
open Go.Proofs.Ytakcgeafcecimaa.twl Go.Proofs.Ytakcgeafcecimaa.wk Go.Proofs.Ytakcgeafcecimaa.rod Go.Proofs.Ytakcgeafcecimaa.mem Go.Proofs.Ytakcgeafcecimaa.nums
set_option linter.unusedVariables false

set_option maxHeartbeats 4000000 in
set_option maxRecDepth 100000 in
theorem core (A : Option Addr) (n c : Nat) (X : Nat → Int) (st : Int) (A2 : Option Addr) (n2 c2 : Nat) (X2 : Nat → Int) (st2 : Int) (v : Bool) (code : Int) (w : World) (hnn : n ≤ 1048576) (hX : Sl w A n 1 X) (hnn2 : n2 ≤ 1048576) (hX2 : Sl w A2 n2 1 X2) (hsum : n + n2 ≤ 1048576)
    (hspec : Hid (∀ (A' : Option Addr) (c' : Nat) (A2' : Option Addr) (c2' : Nat) (w : World), Sl w A' n 1 X → Sl w A2' n2 1 X2 → Calls Try.prog 37 #[.agg #[.slice A' n c', .int .i64 st], .agg #[.slice A2' n2 c2', .int .i64 st2]] w (fun e w' => e = .returned (.tuple #[.bool v, .int .i64 code]) ∧ Below w.heap.size w w')))
    (himpl : Hid (∀ (A' : Option Addr) (c' : Nat) (A2' : Option Addr) (c2' : Nat) (w : World), Sl w A' n 1 X → Sl w A2' n2 1 X2 → Calls Try.prog 38 #[.agg #[.slice A' n c', .int .i64 st], .agg #[.slice A2' n2 c2', .int .i64 st2]] w (fun e w' => e = .returned (.tuple #[.bool v, .int .i64 code]) ∧ Below w.heap.size w w'))) :
    Calls Try.prog 11 #[.agg #[.slice A n c, .int .i64 st], .agg #[.slice A2 n2 c2, .int .i64 st2]] w fun e w' => e = .returned (.bool true) ∧ Below w.heap.size w w' := by
  have HX := Lib.hid hX
  clear hX
  have hmn : n ≤ maxLen := by unfold maxLen; omega
  have hqn : ¬ (1048576 : Int) < (n : Int) := by omega
  have HX2 := Lib.hid hX2
  clear hX2
  have hmn2 : n2 ≤ maxLen := by unfold maxLen; omega
  have hqn2 : ¬ (1048576 : Int) < (n2 : Int) := by omega
  have hrn : ¬ (1048576 - (n : Int)) < 0 := by omega
  have hrn2 : ¬ ((1048576 - n) - (n2 : Int)) < 0 := by omega
  have b0 : Below w.heap.size w w := Below.refl _ _
  go_enter Try.func11, Try.ntmps11
  go_wp2_with fail
  refine (szTwill_c A n c st 1048576 _ (by omega) (by omega)).mono ?_
  rintro e w1 ⟨rfl, hb1⟩
  have z1 := hb1.size
  try simp at z1
  have s1 : Below w.heap.size w w1 := Below.trans (by go_grown) (hb1.mono (by first | omega | (simp; done) | (simp; omega)))
  have b1 : Below w.heap.size w w1 := b0.trans (s1.mono (by omega))
  have p1 : w1.cell? ⟨w.heap.size, 0, none⟩ = some (.slice A n c) := by rw [(bcell hb1).1 _ _ (by first | omega | (simp; done) | (simp; omega))]; go_simp
  have p2 : w1.cell? ⟨w.heap.size, 1, none⟩ = some (.int .i64 st) := by rw [(bcell hb1).1 _ _ (by first | omega | (simp; done) | (simp; omega))]; go_simp
  have p3 : w1.cell? ⟨w.heap.size + 1, 0, none⟩ = some (.slice A2 n2 c2) := by rw [(bcell hb1).1 _ _ (by first | omega | (simp; done) | (simp; omega))]; go_simp
  have p4 : w1.cell? ⟨w.heap.size + 1, 1, none⟩ = some (.int .i64 st2) := by rw [(bcell hb1).1 _ _ (by first | omega | (simp; done) | (simp; omega))]; go_simp
  have y_w : w.heap.size < w1.heap.size := by omega
  have y_w_ : w.heap.size + 1 < w1.heap.size := by omega
  clear hb1 s1
  go_wp2_with fail
  refine (szTwill_c A2 n2 c2 st2 (1048576 - n) _ (by omega) (by omega)).mono ?_
  rintro e w2 ⟨rfl, hb2⟩
  have z2 := hb2.size
  try simp at z2
  have s2 : Below w1.heap.size w1 w2 := Below.trans (by go_grown) (hb2.mono (by first | omega | (simp; done) | (simp; omega)))
  have b2 : Below w.heap.size w w2 := b1.trans (s2.mono (by omega))
  replace p1 : w2.cell? ⟨w.heap.size, 0, none⟩ = some (.slice A n c) := (s2.cell (p := ⟨w.heap.size, 0, none⟩) (show w.heap.size < w1.heap.size by omega)).trans p1
  replace p2 : w2.cell? ⟨w.heap.size, 1, none⟩ = some (.int .i64 st) := (s2.cell (p := ⟨w.heap.size, 1, none⟩) (show w.heap.size < w1.heap.size by omega)).trans p2
  replace p3 : w2.cell? ⟨w.heap.size + 1, 0, none⟩ = some (.slice A2 n2 c2) := (s2.cell (p := ⟨w.heap.size + 1, 0, none⟩) (show w.heap.size + 1 < w1.heap.size by omega)).trans p3
  replace p4 : w2.cell? ⟨w.heap.size + 1, 1, none⟩ = some (.int .i64 st2) := (s2.cell (p := ⟨w.heap.size + 1, 1, none⟩) (show w.heap.size + 1 < w1.heap.size by omega)).trans p4
  replace y_w : w.heap.size < w2.heap.size := by omega
  replace y_w_ : w.heap.size + 1 < w2.heap.size := by omega
  clear hb2 s2
  go_wp2_with fail
  go_region_held3 (fun q => q.cell? ⟨w.heap.size, 0, none⟩ = some (.slice A n c) ∧ q.cell? ⟨w.heap.size, 1, none⟩ = some (.int .i64 st) ∧ q.cell? ⟨w.heap.size + 1, 0, none⟩ = some (.slice A2 n2 c2) ∧ q.cell? ⟨w.heap.size + 1, 1, none⟩ = some (.int .i64 st2)) (first | exact ⟨p1, p2, p3, p4⟩ | go_keep)
    (first
      | (go_at_call_of 14 (Value.agg #[Value.slice A n c, Value.int IntKind.i64 st]); refine (toTwill_c A n c X st _ hnn (Sl.below HX.out b2.drew (Nat.le_refl _))).mono ?_; rintro e w3 ⟨Aw3, cw3, rfl, kc3, mc3, r3, hb3⟩
         have z3 := hb3.size
         try simp at z3
         have s3 : Below w2.heap.size w2 w3 := Below.trans (Below.drew (Below.refl _ _)) (hb3.mono (by first | omega | (simp; done) | (simp; omega)))
         have b3 : Below w.heap.size w w3 := b2.trans (s3.mono (by omega))
         replace p1 : w3.cell? ⟨w.heap.size, 0, none⟩ = some (.slice A n c) := (s3.cell (p := ⟨w.heap.size, 0, none⟩) (show w.heap.size < w2.heap.size by omega)).trans p1
         replace p2 : w3.cell? ⟨w.heap.size, 1, none⟩ = some (.int .i64 st) := (s3.cell (p := ⟨w.heap.size, 1, none⟩) (show w.heap.size < w2.heap.size by omega)).trans p2
         replace p3 : w3.cell? ⟨w.heap.size + 1, 0, none⟩ = some (.slice A2 n2 c2) := (s3.cell (p := ⟨w.heap.size + 1, 0, none⟩) (show w.heap.size + 1 < w2.heap.size by omega)).trans p3
         replace p4 : w3.cell? ⟨w.heap.size + 1, 1, none⟩ = some (.int .i64 st2) := (s3.cell (p := ⟨w.heap.size + 1, 1, none⟩) (show w.heap.size + 1 < w2.heap.size by omega)).trans p4
         replace y_w : w.heap.size < w3.heap.size := by omega
         replace y_w_ : w.heap.size + 1 < w3.heap.size := by omega
         have R1_3 := Lib.hid (r3.wide (lo' := w2.heap.size) (by first | omega | (simp; done) | (simp; omega)) (Nat.le_refl _))
         clear r3
         clear hb3 s3)
      | (go_at_call_of 14 (Value.agg #[Value.slice A2 n2 c2, Value.int IntKind.i64 st2]); refine (toTwill_c A2 n2 c2 X2 st2 _ hnn2 (Sl.below HX2.out b3 (Nat.le_refl _))).mono ?_; rintro e w4 ⟨Aw4, cw4, rfl, kc4, mc4, r4, hb4⟩
         have z4 := hb4.size
         try simp at z4
         have s4 : Below w3.heap.size w3 w4 := Below.trans (by go_grown) (hb4.mono (by first | omega | (simp; done) | (simp; omega)))
         have b4 : Below w.heap.size w w4 := b3.trans (s4.mono (by omega))
         replace p1 : w4.cell? ⟨w.heap.size, 0, none⟩ = some (.slice A n c) := (s4.cell (p := ⟨w.heap.size, 0, none⟩) (show w.heap.size < w3.heap.size by omega)).trans p1
         replace p2 : w4.cell? ⟨w.heap.size, 1, none⟩ = some (.int .i64 st) := (s4.cell (p := ⟨w.heap.size, 1, none⟩) (show w.heap.size < w3.heap.size by omega)).trans p2
         replace p3 : w4.cell? ⟨w.heap.size + 1, 0, none⟩ = some (.slice A2 n2 c2) := (s4.cell (p := ⟨w.heap.size + 1, 0, none⟩) (show w.heap.size + 1 < w3.heap.size by omega)).trans p3
         replace p4 : w4.cell? ⟨w.heap.size + 1, 1, none⟩ = some (.int .i64 st2) := (s4.cell (p := ⟨w.heap.size + 1, 1, none⟩) (show w.heap.size + 1 < w3.heap.size by omega)).trans p4
         replace y_w : w.heap.size < w4.heap.size := by omega
         replace y_w_ : w.heap.size + 1 < w4.heap.size := by omega
         have R1_4 := Lib.hid (R1_3.out.below s4 (by omega))
         clear R1_3
         have R2_4 := Lib.hid (r4.wide (lo' := w3.heap.size) (by first | omega | (simp; done) | (simp; omega)) (Nat.le_refl _))
         clear r4
         clear hb4 s4)
      | (go_at_call 37; refine (hspec.out _ _ _ _ _ (R1_4.out.sl) (R2_4.out.sl)).mono ?_; rintro e w5 ⟨rfl, hb5⟩
         have z5 := hb5.size
         try simp at z5
         have s5 : Below w4.heap.size w4 w5 := Below.trans (by go_grown) (hb5.mono (by first | omega | (simp; done) | (simp; omega)))
         have b5 : Below w.heap.size w w5 := b4.trans (s5.mono (by omega))
         replace p1 : w5.cell? ⟨w.heap.size, 0, none⟩ = some (.slice A n c) := (s5.cell (p := ⟨w.heap.size, 0, none⟩) (show w.heap.size < w4.heap.size by omega)).trans p1
         replace p2 : w5.cell? ⟨w.heap.size, 1, none⟩ = some (.int .i64 st) := (s5.cell (p := ⟨w.heap.size, 1, none⟩) (show w.heap.size < w4.heap.size by omega)).trans p2
         replace p3 : w5.cell? ⟨w.heap.size + 1, 0, none⟩ = some (.slice A2 n2 c2) := (s5.cell (p := ⟨w.heap.size + 1, 0, none⟩) (show w.heap.size + 1 < w4.heap.size by omega)).trans p3
         replace p4 : w5.cell? ⟨w.heap.size + 1, 1, none⟩ = some (.int .i64 st2) := (s5.cell (p := ⟨w.heap.size + 1, 1, none⟩) (show w.heap.size + 1 < w4.heap.size by omega)).trans p4
         replace y_w : w.heap.size < w5.heap.size := by omega
         replace y_w_ : w.heap.size + 1 < w5.heap.size := by omega
         have R1_5 := Lib.hid (R1_4.out.below s5 (by omega))
         clear R1_4
         have R2_5 := Lib.hid (R2_4.out.below s5 (by omega))
         clear R2_4
         clear hb5 s5))
  clear R1_5
  clear R2_5
  go_wp2_with fail
  refine (toTwill_c A n c X st _ hnn (Sl.below HX.out b5 (Nat.le_refl _))).mono ?_
  rintro e w6 ⟨Aw6, cw6, rfl, kc6, mc6, r6, hb6⟩
  have z6 := hb6.size
  try simp at z6
  have s6 : Below w5.heap.size w5 w6 := Below.trans (by go_grown) (hb6.mono (by first | omega | (simp; done) | (simp; omega)))
  have b6 : Below w.heap.size w w6 := b5.trans (s6.mono (by omega))
  replace p1 : w6.cell? ⟨w.heap.size, 0, none⟩ = some (.slice A n c) := (s6.cell (p := ⟨w.heap.size, 0, none⟩) (show w.heap.size < w5.heap.size by omega)).trans p1
  replace p2 : w6.cell? ⟨w.heap.size, 1, none⟩ = some (.int .i64 st) := (s6.cell (p := ⟨w.heap.size, 1, none⟩) (show w.heap.size < w5.heap.size by omega)).trans p2
  replace p3 : w6.cell? ⟨w.heap.size + 1, 0, none⟩ = some (.slice A2 n2 c2) := (s6.cell (p := ⟨w.heap.size + 1, 0, none⟩) (show w.heap.size + 1 < w5.heap.size by omega)).trans p3
  replace p4 : w6.cell? ⟨w.heap.size + 1, 1, none⟩ = some (.int .i64 st2) := (s6.cell (p := ⟨w.heap.size + 1, 1, none⟩) (show w.heap.size + 1 < w5.heap.size by omega)).trans p4
  replace y_w : w.heap.size < w6.heap.size := by omega
  replace y_w_ : w.heap.size + 1 < w6.heap.size := by omega
  have R3_6 := Lib.hid (r6.wide (lo' := w5.heap.size) (by first | omega | (simp; done) | (simp; omega)) (Nat.le_refl _))
  clear r6
  clear hb6 s6
  go_wp2_with fail
  refine (toTwill_c A2 n2 c2 X2 st2 _ hnn2 (Sl.below HX2.out (w' := _) (K := w.heap.size) (by first | exact b6 | go_grown) (Nat.le_refl _))).mono ?_
  rintro e w7 ⟨Aw7, cw7, rfl, kc7, mc7, r7, hb7⟩
  have z7 := hb7.size
  try simp at z7
  have s7 : Below w6.heap.size w6 w7 := Below.trans (by go_grown) (hb7.mono (by first | omega | (simp; done) | (simp; omega)))
  have b7 : Below w.heap.size w w7 := b6.trans (s7.mono (by omega))
  replace p1 : w7.cell? ⟨w.heap.size, 0, none⟩ = some (.slice A n c) := (s7.cell (p := ⟨w.heap.size, 0, none⟩) (show w.heap.size < w6.heap.size by omega)).trans p1
  replace p2 : w7.cell? ⟨w.heap.size, 1, none⟩ = some (.int .i64 st) := (s7.cell (p := ⟨w.heap.size, 1, none⟩) (show w.heap.size < w6.heap.size by omega)).trans p2
  replace p3 : w7.cell? ⟨w.heap.size + 1, 0, none⟩ = some (.slice A2 n2 c2) := (s7.cell (p := ⟨w.heap.size + 1, 0, none⟩) (show w.heap.size + 1 < w6.heap.size by omega)).trans p3
  replace p4 : w7.cell? ⟨w.heap.size + 1, 1, none⟩ = some (.int .i64 st2) := (s7.cell (p := ⟨w.heap.size + 1, 1, none⟩) (show w.heap.size + 1 < w6.heap.size by omega)).trans p4
  have p5 : w7.cell? ⟨w6.heap.size, 0, none⟩ = some (.slice Aw6 n cw6) := by rw [(bcell hb7).1 _ _ (by first | omega | (simp; done) | (simp; omega))]; go_simp
  have p6 : w7.cell? ⟨w6.heap.size, 1, none⟩ = some (.int .i64 st) := by rw [(bcell hb7).1 _ _ (by first | omega | (simp; done) | (simp; omega))]; go_simp
  replace y_w : w.heap.size < w7.heap.size := by omega
  replace y_w_ : w.heap.size + 1 < w7.heap.size := by omega
  have y_w6 : w6.heap.size < w7.heap.size := by omega
  have R3_7 := Lib.hid (R3_6.out.below s7 (by omega))
  clear R3_6
  have R4_7 := Lib.hid (r7.wide (lo' := w6.heap.size + 1) (by first | omega | (simp; done) | (simp; omega)) (Nat.le_refl _))
  clear r7
  clear hb7 s7
  go_wp2_with fail
  refine (himpl.out _ _ _ _ _ (R3_7.out.sl.below (K := w7.heap.size) (by go_grown) (Nat.le_refl _)) (R4_7.out.sl.below (K := w7.heap.size) (by go_grown) (Nat.le_refl _))).mono ?_
  rintro e w8 ⟨rfl, hb8⟩
  have z8 := hb8.size
  try simp at z8
  have s8 : Below w7.heap.size w7 w8 := Below.trans (by go_grown) (hb8.mono (by first | omega | (simp; done) | (simp; omega)))
  have b8 : Below w.heap.size w w8 := b7.trans (s8.mono (by omega))
  replace p1 : w8.cell? ⟨w.heap.size, 0, none⟩ = some (.slice A n c) := (s8.cell (p := ⟨w.heap.size, 0, none⟩) (show w.heap.size < w7.heap.size by omega)).trans p1
  replace p2 : w8.cell? ⟨w.heap.size, 1, none⟩ = some (.int .i64 st) := (s8.cell (p := ⟨w.heap.size, 1, none⟩) (show w.heap.size < w7.heap.size by omega)).trans p2
  replace p3 : w8.cell? ⟨w.heap.size + 1, 0, none⟩ = some (.slice A2 n2 c2) := (s8.cell (p := ⟨w.heap.size + 1, 0, none⟩) (show w.heap.size + 1 < w7.heap.size by omega)).trans p3
  replace p4 : w8.cell? ⟨w.heap.size + 1, 1, none⟩ = some (.int .i64 st2) := (s8.cell (p := ⟨w.heap.size + 1, 1, none⟩) (show w.heap.size + 1 < w7.heap.size by omega)).trans p4
  replace p5 : w8.cell? ⟨w6.heap.size, 0, none⟩ = some (.slice Aw6 n cw6) := (s8.cell (p := ⟨w6.heap.size, 0, none⟩) (show w6.heap.size < w7.heap.size by omega)).trans p5
  replace p6 : w8.cell? ⟨w6.heap.size, 1, none⟩ = some (.int .i64 st) := (s8.cell (p := ⟨w6.heap.size, 1, none⟩) (show w6.heap.size < w7.heap.size by omega)).trans p6
  have p7 : w8.cell? ⟨w7.heap.size, 0, none⟩ = some (.slice Aw7 n2 cw7) := by rw [(bcell hb8).1 _ _ (by first | omega | (simp; done) | (simp; omega))]; go_simp
  have p8 : w8.cell? ⟨w7.heap.size, 1, none⟩ = some (.int .i64 st2) := by rw [(bcell hb8).1 _ _ (by first | omega | (simp; done) | (simp; omega))]; go_simp
  replace y_w : w.heap.size < w8.heap.size := by omega
  replace y_w_ : w.heap.size + 1 < w8.heap.size := by omega
  replace y_w6 : w6.heap.size < w8.heap.size := by omega
  have y_w7 : w7.heap.size < w8.heap.size := by omega
  have R3_8 := Lib.hid (R3_7.out.below s8 (by omega))
  clear R3_7
  have R4_8 := Lib.hid (R4_7.out.below s8 (by omega))
  clear R4_7
  clear hb8 s8
  go_wp2_with fail
  go_region_held3 (fun q => q.cell? ⟨w6.heap.size, 0, none⟩ = some (.slice Aw6 n cw6) ∧ q.cell? ⟨w6.heap.size, 1, none⟩ = some (.int .i64 st) ∧ q.cell? ⟨w.heap.size, 0, none⟩ = some (.slice A n c) ∧ q.cell? ⟨w.heap.size, 1, none⟩ = some (.int .i64 st)) (first | exact ⟨p5, p6, p1, p2⟩ | go_keep)
    (first
      | (go_at_call 14; refine (toTwill_c A n c X st _ hnn (Sl.below HX.out b8.drew (Nat.le_refl _))).mono ?_; rintro e w9 ⟨Aw9, cw9, rfl, kc9, mc9, r9, hb9⟩
         have z9 := hb9.size
         try simp at z9
         have s9 : Below w8.heap.size w8 w9 := Below.trans (Below.drew (Below.refl _ _)) (hb9.mono (by first | omega | (simp; done) | (simp; omega)))
         have b9 : Below w.heap.size w w9 := b8.trans (s9.mono (by omega))
         replace p1 : w9.cell? ⟨w.heap.size, 0, none⟩ = some (.slice A n c) := (s9.cell (p := ⟨w.heap.size, 0, none⟩) (show w.heap.size < w8.heap.size by omega)).trans p1
         replace p2 : w9.cell? ⟨w.heap.size, 1, none⟩ = some (.int .i64 st) := (s9.cell (p := ⟨w.heap.size, 1, none⟩) (show w.heap.size < w8.heap.size by omega)).trans p2
         replace p3 : w9.cell? ⟨w.heap.size + 1, 0, none⟩ = some (.slice A2 n2 c2) := (s9.cell (p := ⟨w.heap.size + 1, 0, none⟩) (show w.heap.size + 1 < w8.heap.size by omega)).trans p3
         replace p4 : w9.cell? ⟨w.heap.size + 1, 1, none⟩ = some (.int .i64 st2) := (s9.cell (p := ⟨w.heap.size + 1, 1, none⟩) (show w.heap.size + 1 < w8.heap.size by omega)).trans p4
         replace p5 : w9.cell? ⟨w6.heap.size, 0, none⟩ = some (.slice Aw6 n cw6) := (s9.cell (p := ⟨w6.heap.size, 0, none⟩) (show w6.heap.size < w8.heap.size by omega)).trans p5
         replace p6 : w9.cell? ⟨w6.heap.size, 1, none⟩ = some (.int .i64 st) := (s9.cell (p := ⟨w6.heap.size, 1, none⟩) (show w6.heap.size < w8.heap.size by omega)).trans p6
         replace p7 : w9.cell? ⟨w7.heap.size, 0, none⟩ = some (.slice Aw7 n2 cw7) := (s9.cell (p := ⟨w7.heap.size, 0, none⟩) (show w7.heap.size < w8.heap.size by omega)).trans p7
         replace p8 : w9.cell? ⟨w7.heap.size, 1, none⟩ = some (.int .i64 st2) := (s9.cell (p := ⟨w7.heap.size, 1, none⟩) (show w7.heap.size < w8.heap.size by omega)).trans p8
         replace y_w : w.heap.size < w9.heap.size := by omega
         replace y_w_ : w.heap.size + 1 < w9.heap.size := by omega
         replace y_w6 : w6.heap.size < w9.heap.size := by omega
         replace y_w7 : w7.heap.size < w9.heap.size := by omega
         have R3_9 := Lib.hid (R3_8.out.below s9 (by omega))
         clear R3_8
         have R4_9 := Lib.hid (R4_8.out.below s9 (by omega))
         clear R4_8
         have R5_9 := Lib.hid (r9.wide (lo' := w8.heap.size) (by first | omega | (simp; done) | (simp; omega)) (Nat.le_refl _))
         clear r9
         clear hb9 s9)
      | (go_at_call 16; refine (eqTwill_same Aw6 Aw9 n cw6 cw9 X st _ hmn (R3_9.out.sl) (R5_9.out.sl)).mono ?_; rintro e w10 ⟨rfl, hb10⟩
         have z10 := hb10.size
         try simp at z10
         have s10 : Below w9.heap.size w9 w10 := Below.trans (by go_grown) (hb10.mono (by first | omega | (simp; done) | (simp; omega)))
         have b10 : Below w.heap.size w w10 := b9.trans (s10.mono (by omega))
         replace p1 : w10.cell? ⟨w.heap.size, 0, none⟩ = some (.slice A n c) := (s10.cell (p := ⟨w.heap.size, 0, none⟩) (show w.heap.size < w9.heap.size by omega)).trans p1
         replace p2 : w10.cell? ⟨w.heap.size, 1, none⟩ = some (.int .i64 st) := (s10.cell (p := ⟨w.heap.size, 1, none⟩) (show w.heap.size < w9.heap.size by omega)).trans p2
         replace p3 : w10.cell? ⟨w.heap.size + 1, 0, none⟩ = some (.slice A2 n2 c2) := (s10.cell (p := ⟨w.heap.size + 1, 0, none⟩) (show w.heap.size + 1 < w9.heap.size by omega)).trans p3
         replace p4 : w10.cell? ⟨w.heap.size + 1, 1, none⟩ = some (.int .i64 st2) := (s10.cell (p := ⟨w.heap.size + 1, 1, none⟩) (show w.heap.size + 1 < w9.heap.size by omega)).trans p4
         replace p5 : w10.cell? ⟨w6.heap.size, 0, none⟩ = some (.slice Aw6 n cw6) := (s10.cell (p := ⟨w6.heap.size, 0, none⟩) (show w6.heap.size < w9.heap.size by omega)).trans p5
         replace p6 : w10.cell? ⟨w6.heap.size, 1, none⟩ = some (.int .i64 st) := (s10.cell (p := ⟨w6.heap.size, 1, none⟩) (show w6.heap.size < w9.heap.size by omega)).trans p6
         replace p7 : w10.cell? ⟨w7.heap.size, 0, none⟩ = some (.slice Aw7 n2 cw7) := (s10.cell (p := ⟨w7.heap.size, 0, none⟩) (show w7.heap.size < w9.heap.size by omega)).trans p7
         replace p8 : w10.cell? ⟨w7.heap.size, 1, none⟩ = some (.int .i64 st2) := (s10.cell (p := ⟨w7.heap.size, 1, none⟩) (show w7.heap.size < w9.heap.size by omega)).trans p8
         replace y_w : w.heap.size < w10.heap.size := by omega
         replace y_w_ : w.heap.size + 1 < w10.heap.size := by omega
         replace y_w6 : w6.heap.size < w10.heap.size := by omega
         replace y_w7 : w7.heap.size < w10.heap.size := by omega
         have R3_10 := Lib.hid (R3_9.out.below s10 (by omega))
         clear R3_9
         have R4_10 := Lib.hid (R4_9.out.below s10 (by omega))
         clear R4_9
         have R5_10 := Lib.hid (R5_9.out.below s10 (by omega))
         clear R5_9
         clear hb10 s10))
  clear R5_10
  go_wp2_with fail
  go_region_held3 (fun q => q.cell? ⟨w7.heap.size, 0, none⟩ = some (.slice Aw7 n2 cw7) ∧ q.cell? ⟨w7.heap.size, 1, none⟩ = some (.int .i64 st2) ∧ q.cell? ⟨w.heap.size + 1, 0, none⟩ = some (.slice A2 n2 c2) ∧ q.cell? ⟨w.heap.size + 1, 1, none⟩ = some (.int .i64 st2)) (first | exact ⟨p7, p8, p3, p4⟩ | go_keep)
    (first
      | (go_at_call 14; refine (toTwill_c A2 n2 c2 X2 st2 _ hnn2 (Sl.below HX2.out b10.drew (Nat.le_refl _))).mono ?_; rintro e w11 ⟨Aw11, cw11, rfl, kc11, mc11, r11, hb11⟩
         have z11 := hb11.size
         try simp at z11
         have s11 : Below w10.heap.size w10 w11 := Below.trans (Below.drew (Below.refl _ _)) (hb11.mono (by first | omega | (simp; done) | (simp; omega)))
         have b11 : Below w.heap.size w w11 := b10.trans (s11.mono (by omega))
         replace p1 : w11.cell? ⟨w.heap.size, 0, none⟩ = some (.slice A n c) := (s11.cell (p := ⟨w.heap.size, 0, none⟩) (show w.heap.size < w10.heap.size by omega)).trans p1
         replace p2 : w11.cell? ⟨w.heap.size, 1, none⟩ = some (.int .i64 st) := (s11.cell (p := ⟨w.heap.size, 1, none⟩) (show w.heap.size < w10.heap.size by omega)).trans p2
         replace p3 : w11.cell? ⟨w.heap.size + 1, 0, none⟩ = some (.slice A2 n2 c2) := (s11.cell (p := ⟨w.heap.size + 1, 0, none⟩) (show w.heap.size + 1 < w10.heap.size by omega)).trans p3
         replace p4 : w11.cell? ⟨w.heap.size + 1, 1, none⟩ = some (.int .i64 st2) := (s11.cell (p := ⟨w.heap.size + 1, 1, none⟩) (show w.heap.size + 1 < w10.heap.size by omega)).trans p4
         replace p5 : w11.cell? ⟨w6.heap.size, 0, none⟩ = some (.slice Aw6 n cw6) := (s11.cell (p := ⟨w6.heap.size, 0, none⟩) (show w6.heap.size < w10.heap.size by omega)).trans p5
         replace p6 : w11.cell? ⟨w6.heap.size, 1, none⟩ = some (.int .i64 st) := (s11.cell (p := ⟨w6.heap.size, 1, none⟩) (show w6.heap.size < w10.heap.size by omega)).trans p6
         replace p7 : w11.cell? ⟨w7.heap.size, 0, none⟩ = some (.slice Aw7 n2 cw7) := (s11.cell (p := ⟨w7.heap.size, 0, none⟩) (show w7.heap.size < w10.heap.size by omega)).trans p7
         replace p8 : w11.cell? ⟨w7.heap.size, 1, none⟩ = some (.int .i64 st2) := (s11.cell (p := ⟨w7.heap.size, 1, none⟩) (show w7.heap.size < w10.heap.size by omega)).trans p8
         replace y_w : w.heap.size < w11.heap.size := by omega
         replace y_w_ : w.heap.size + 1 < w11.heap.size := by omega
         replace y_w6 : w6.heap.size < w11.heap.size := by omega
         replace y_w7 : w7.heap.size < w11.heap.size := by omega
         have R3_11 := Lib.hid (R3_10.out.below s11 (by omega))
         clear R3_10
         have R4_11 := Lib.hid (R4_10.out.below s11 (by omega))
         clear R4_10
         have R6_11 := Lib.hid (r11.wide (lo' := w10.heap.size) (by first | omega | (simp; done) | (simp; omega)) (Nat.le_refl _))
         clear r11
         clear hb11 s11)
      | (go_at_call 16; refine (eqTwill_same Aw7 Aw11 n2 cw7 cw11 X2 st2 _ hmn2 (R4_11.out.sl) (R6_11.out.sl)).mono ?_; rintro e w12 ⟨rfl, hb12⟩
         have z12 := hb12.size
         try simp at z12
         have s12 : Below w11.heap.size w11 w12 := Below.trans (by go_grown) (hb12.mono (by first | omega | (simp; done) | (simp; omega)))
         have b12 : Below w.heap.size w w12 := b11.trans (s12.mono (by omega))
         replace p1 : w12.cell? ⟨w.heap.size, 0, none⟩ = some (.slice A n c) := (s12.cell (p := ⟨w.heap.size, 0, none⟩) (show w.heap.size < w11.heap.size by omega)).trans p1
         replace p2 : w12.cell? ⟨w.heap.size, 1, none⟩ = some (.int .i64 st) := (s12.cell (p := ⟨w.heap.size, 1, none⟩) (show w.heap.size < w11.heap.size by omega)).trans p2
         replace p3 : w12.cell? ⟨w.heap.size + 1, 0, none⟩ = some (.slice A2 n2 c2) := (s12.cell (p := ⟨w.heap.size + 1, 0, none⟩) (show w.heap.size + 1 < w11.heap.size by omega)).trans p3
         replace p4 : w12.cell? ⟨w.heap.size + 1, 1, none⟩ = some (.int .i64 st2) := (s12.cell (p := ⟨w.heap.size + 1, 1, none⟩) (show w.heap.size + 1 < w11.heap.size by omega)).trans p4
         replace p5 : w12.cell? ⟨w6.heap.size, 0, none⟩ = some (.slice Aw6 n cw6) := (s12.cell (p := ⟨w6.heap.size, 0, none⟩) (show w6.heap.size < w11.heap.size by omega)).trans p5
         replace p6 : w12.cell? ⟨w6.heap.size, 1, none⟩ = some (.int .i64 st) := (s12.cell (p := ⟨w6.heap.size, 1, none⟩) (show w6.heap.size < w11.heap.size by omega)).trans p6
         replace p7 : w12.cell? ⟨w7.heap.size, 0, none⟩ = some (.slice Aw7 n2 cw7) := (s12.cell (p := ⟨w7.heap.size, 0, none⟩) (show w7.heap.size < w11.heap.size by omega)).trans p7
         replace p8 : w12.cell? ⟨w7.heap.size, 1, none⟩ = some (.int .i64 st2) := (s12.cell (p := ⟨w7.heap.size, 1, none⟩) (show w7.heap.size < w11.heap.size by omega)).trans p8
         replace y_w : w.heap.size < w12.heap.size := by omega
         replace y_w_ : w.heap.size + 1 < w12.heap.size := by omega
         replace y_w6 : w6.heap.size < w12.heap.size := by omega
         replace y_w7 : w7.heap.size < w12.heap.size := by omega
         have R3_12 := Lib.hid (R3_11.out.below s12 (by omega))
         clear R3_11
         have R4_12 := Lib.hid (R4_11.out.below s12 (by omega))
         clear R4_11
         have R6_12 := Lib.hid (R6_11.out.below s12 (by omega))
         clear R6_11
         clear hb12 s12))
  clear R6_12
  go_wp2
  go_ret
  exact ⟨rfl, b12⟩

set_option maxHeartbeats 1000000 in
theorem big (A : Option Addr) (n c : Nat) (st : Int) (A2 : Option Addr) (n2 c2 : Nat) (st2 : Int) (w : World) (hm : n ≤ maxLen) (hm2 : n2 ≤ maxLen) (hT : 1048576 < n + n2) :
    Calls Try.prog 11 #[.agg #[.slice A n c, .int .i64 st], .agg #[.slice A2 n2 c2, .int .i64 st2]] w fun e w' => e = .returned (.bool true) ∧ Below w.heap.size w w' := by
  by_cases hb : 1048576 < n
  · go_enter Try.func11, Try.ntmps11
    go_wp2_with fail
    refine (szTwill_big A n c st _ _ (by omega) (by omega) (by omega) hm).mono ?_
    rintro e w1 ⟨rfl, hb1⟩
    have g1 : Below w.heap.size w w1 := Below.trans (by go_grown) (hb1.mono (by first | (simp; done) | (simp; omega)))
    clear hb1
    go_wp2
    go_ret
    exact ⟨rfl, g1⟩
  · have hr : ¬ (1048576 - (n : Int)) < 0 := by omega
    go_enter Try.func11, Try.ntmps11
    go_wp2_with fail
    refine (szTwill_c A n c st 1048576 _ (by omega) (by omega)).mono ?_
    rintro e w1 ⟨rfl, hb1⟩
    have z1 := hb1.size
    simp at z1
    have g1 : Below w.heap.size w w1 := Below.trans (by go_grown) (hb1.mono (by first | (simp; done) | (simp; omega)))
    have p0 : w1.cell? ⟨w.heap.size + 1, 0, none⟩ = some (.slice A2 n2 c2) := by rw [(bcell hb1).1 _ _ (by first | (simp; done) | (simp; omega))]; go_simp
    have p1 : w1.cell? ⟨w.heap.size + 1, 1, none⟩ = some (.int .i64 st2) := by rw [(bcell hb1).1 _ _ (by first | (simp; done) | (simp; omega))]; go_simp
    clear hb1
    go_wp2_with fail
    refine (szTwill_big A2 n2 c2 st2 (1048576 - n) _ (by omega) (by omega) (by omega) hm2).mono ?_
    rintro e w2 ⟨rfl, hb2⟩
    have g2 : Below w.heap.size w w2 := g1.trans (hb2.mono g1.size)
    clear g1 hb2
    go_wp2
    go_ret
    exact ⟨rfl, g2⟩

theorem walk (A : Option Addr) (n c : Nat) (X : Nat → Int) (st : Int) (A2 : Option Addr) (n2 c2 : Nat) (X2 : Nat → Int) (st2 : Int) (w : World) (le : n ≤ c) (mx : c ≤ maxLen) (sl : Sl w A n 1 X) (wf : ∀ j, j < n * 1 → (Lit.int .i64 (X j)).wf = true) (x0 : (Lit.int .i64 st).wf = true)
    (le2 : n2 ≤ c2) (mx2 : c2 ≤ maxLen) (sl2 : Sl w A2 n2 1 X2) (wf2 : ∀ j, j < n2 * 1 → (Lit.int .i64 (X2 j)).wf = true) (x02 : (Lit.int .i64 st2).wf = true) :
    Calls Try.prog 11 #[.agg #[.slice A n c, .int .i64 st], .agg #[.slice A2 n2 c2, .int .i64 st2]] w fun e w' => e = .returned (.bool true) ∧ Below w.heap.size w w' := by
  by_cases hn : n + n2 ≤ 1048576
  · have hm : n ≤ maxLen := by unfold maxLen; omega
    have hm2 : n2 ≤ maxLen := by unfold maxLen; omega
    cases hv : (twB n X st && twB n2 X2 st2)
    · exact core A n c X st A2 n2 c2 X2 st2 false 1 w (by omega) sl (by omega) sl2 (by omega) (fun A' c' B' d' w h k => face_s_no A' B' n n2 c' d' X X2 st st2 w hm hm2 h k hv) (fun A' c' B' d' w h k => face_i_no A' B' n n2 c' d' X X2 st st2 w hm hm2 h k hv)
    · rw [Bool.and_eq_true] at hv
      have T := twB_of hv.1
      have T2 := twB_of hv.2
      have hz := row_size T
      have hz2 := row_size T2
      have hw := T.wide2
      have hw2 := T2.wide2
      obtain ⟨p, hp⟩ := Per.ex (s := rowB X n) (by omega)
      obtain ⟨q, hq⟩ := Per.ex (s := rowB X2 n2) (by omega)
      exact core A n c X st A2 n2 c2 X2 st2 _ 0 w (by omega) sl (by omega) sl2 (by omega) (fun A' c' B' d' w h k => face_s A' B' n n2 c' d' X X2 st st2 w p q h k hv.1 hv.2 hp hq) (fun A' c' B' d' w h k => face_i A' B' n n2 c' d' X X2 st st2 w p q h k hv.1 hv.2 hp hq)
  · exact big A n c st A2 n2 c2 st2 w (by omega) (by omega) (by omega)

theorem own : ownKnob Try.prog.godebug = none := by kernel_rfl
theorem laidOut : laidOutB Try.prog = true := by kernel_rfl

set_option maxRecDepth 100000 in
theorem lifted (os : Os) (started : os.Started) (H : Type) (enc : TypeId × Value → H) :
    ReturnsInHanded {} Try.checked os 11 .any (Rows.fnExactSameFaceSpec.pre6 enc Try.prog Try.f11 Rows.fnExactSameFaceRow.domain false) (Rows.fnExactSameFaceSpec.post enc Try.prog Try.f11 false true false false) := by
  refine returnsInHanded_of_change (C := Try.checked) own started (by kernel_rfl) Try.func11
    (ChangeSpec.witness6 (enc := enc) (C := Try.checked) false ⟨#[], #[.agg #[.slice none 0 0, .int .i64 0], .agg #[.slice none 0 0, .int .i64 0]], []⟩ 8 (by kernel_rfl) (by kernel_rfl) (by kernel_rfl) (by kernel_rfl)) ?_
  intro W base args ds gs before hval0 hW hcnd hreach
  have hval : ∀ (j : Nat) t v, Try.f11.params[j]? = some t → args[j]? = some v → Value.okWide Try.prog W .any base t v := hval0
  have hW' := hW
  obtain ⟨p, q, hA0, hV, rfl, hfz, hnd⟩ := hW
  have hA : DataW.TrodAll enc Try.prog W 0 (fun _ => true) true Try.f11.params.toList args.toList ds p := hA0
  rw [Try.params11] at hA hval
  obtain ⟨v0, vs0, d0, ds0, p0, q0, hargs, rfl, rfl, h0, r0⟩ := trodAll_cons hA
  obtain ⟨v1, vs1, d1, ds1, p1, q1, hargs1, rfl, rfl, h1, r1⟩ := trodAll_cons r0
  obtain ⟨rfl, rfl, rfl⟩ := trodAll_nil r1
  obtain rfl : args = #[v0, v1] := by cases args; simp_all
  obtain ⟨rfl, rfl⟩ := trodVars_none hV
  have k0 := h0
  have lt0 : ∀ x ∈ p0, x.block < W.heap.size := by obtain ⟨m, hm⟩ := k0; exact DataW.trod_lt m _ _ _ hm
  obtain ⟨c0_0, c0_1, y0_0, y0_1, m0, rfl, rfl, rfl, hy0_0, hy0_1⟩ := open_agg2 Try.underlying24 (by kernel_rfl) (by kernel_rfl) (hval 0 24 v0 rfl rfl) h0
  obtain ⟨A0, len0, cap0, rfl, le0, mx0, X0, sl0, wf0⟩ := open_nums_v Try.underlying22 Try.underlying2 (by kernel_rfl) hy0_0
  obtain ⟨a0, e0_1, rfl, w0⟩ := DataW.trod_int Try.underlying2 hy0_1
  simp at e0_1
  subst e0_1
  have k1 := h1
  have lt1 : ∀ x ∈ p1, x.block < W.heap.size := by obtain ⟨m, hm⟩ := k1; exact DataW.trod_lt m _ _ _ hm
  obtain ⟨c1_0, c1_1, y1_0, y1_1, m1, rfl, rfl, rfl, hy1_0, hy1_1⟩ := open_agg2 Try.underlying24 (by kernel_rfl) (by kernel_rfl) (hval 1 24 v1 rfl rfl) h1
  obtain ⟨A1, len1, cap1, rfl, le1, mx1, X1, sl1, wf1⟩ := open_nums_v Try.underlying22 Try.underlying2 (by kernel_rfl) hy1_0
  obtain ⟨a1, e1_1, rfl, w1⟩ := DataW.trod_int Try.underlying2 hy1_1
  simp at e1_1
  subst e1_1
  clear hA0 hval0
  refine (walk A0 len0 cap0 X0 a0 A1 len1 cap1 X1 a1 W le0 mx0 sl0 wf0 w0 le1 mx1 sl1 wf1 w1).mono fun e W' ⟨he, bel⟩ => ?_
  subst he
  exact ⟨_, rfl, _, _, _, [], _, [], hW', trodAll_mk1 (shut_bool Try.underlying4 _), (trodAll_cons_mk (Below.trod laidOut (by kernel_rfl) (of_decide_eq_true (by kernel_rfl)) k0 bel lt0) (trodAll_cons_mk (Below.trod laidOut (by kernel_rfl) (of_decide_eq_true (by kernel_rfl)) k1 bel lt1) trodAll_mk0)), rfl, bel.frame _, fun h => by cases h⟩

theorem over : Rows.fnExactSameFaceRow.holds Try.pinned (OpenSpec.ofChange Rows.fnExactSameFaceSpec) :=
  OpenClaim.holds_of_wide 11 Try.f11 rfl rfl rfl rfl rfl rfl rfl ⟨rfl, rfl, rfl, rfl, rfl⟩ rfl rfl rfl rfl rfl (by kernel_rfl) Try.func11 (by kernel_rfl)
    (of_decide_eq_true (by kernel_rfl)) (by unfold Func.isWrapper; first | (rw [if_pos (by decide +kernel)]; kernel_rfl) | (rw [if_neg (by decide +kernel)]; exact ⟨rfl, rfl⟩))
    (fun os started H enc _ => lifted os started H enc)

theorem proved : Rows.FnExactSameFaceSaid := over

end Go.Proofs.Ytakcgeafcecimaa.fnExactSameFace
