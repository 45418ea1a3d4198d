/-
  For every bed, every list of cuts and every number of years, FnExactYieldOfPlan returns true: YieldOfPlan of the program gives the sum and the code of the model, and keeps the bed and the cuts. No condition.
-/
import Derived.Test.YtminbbdmjglnjaaYieldOfPlan
import Derived.Test.YtminbbdmjglnjaaOpenBed
namespace Go.Proofs.Ytminbbdmjglnjaa.fnExactYieldOfPlan
open Go.ChangeShapes Go.WideShapes Go.ChangeAt Go.RowKit Go.Joins
open Go.ChangeMaps (open_string shut_string)
open Go.Proofs.Ytminbbdmjglnjaa.rod Go.Proofs.Ytminbbdmjglnjaa.mem Go.Proofs.Ytminbbdmjglnjaa.nums
set_option linter.unusedVariables false

set_option maxHeartbeats 4000000 in
set_option maxRecDepth 100000 in
theorem core (A : Option Addr) (m c : Nat) (Y : Nat → Int) (a : Int) (A2 : Option Addr) (n c2 : Nat) (C : Nat → Int) (years : Int) (v : Int) (code : Int) (w : World) (hnm : m ≤ 1048576) (hY : Sl w A m 1 Y) (hnn : n ≤ 1048576) (hC : Sl w A2 n 1 C)
    (hspec : Hid (∀ (A' : Option Addr) (c' : Nat) (A2' : Option Addr) (c2' : Nat) (w : World), Sl w A' m 1 Y → Sl w A2' n 1 C → Calls Try.prog 25 #[.agg #[.slice A' m c', .int .i64 a], .slice A2' n c2', .int .i64 years] w (fun e w' => e = .returned (.tuple #[.int .i64 v, .int .i64 code]) ∧ Below w.heap.size w w')))
    (himpl : Hid (∀ (A' : Option Addr) (c' : Nat) (A2' : Option Addr) (c2' : Nat) (w : World), Sl w A' m 1 Y → Sl w A2' n 1 C → Calls Try.prog 27 #[.agg #[.slice A' m c', .int .i64 a], .slice A2' n c2', .int .i64 years] w (fun e w' => e = .returned (.tuple #[.int .i64 v, .int .i64 code]) ∧ Below w.heap.size w w'))) :
    Calls Try.prog 5 #[.agg #[.slice A m c, .int .i64 a], .slice A2 n c2, .int .i64 years] w fun e w' => e = .returned (.bool true) ∧ Below w.heap.size w w' := by
  have HY := Lib.hid hY
  clear hY
  have hmm : m ≤ maxLen := by unfold maxLen; omega
  have hqm : ¬ (1048576 : Int) < (m : Int) := by omega
  have HC := Lib.hid hC
  clear hC
  have hmn : n ≤ maxLen := by unfold maxLen; omega
  have hqn : ¬ (1048576 : Int) < (n : Int) := by omega
  have hrm : ¬ (1048576 - (m : Int)) < 0 := by omega
  have b0 : Below w.heap.size w w := Below.refl _ _
  go_enter Try.func5, Try.ntmps5
  go_wp2_with fail
  refine (szBed_c A m c a 1048576 _ (by omega) (by omega)).mono ?_
  rintro e w1 ⟨rfl, hb1⟩
  have z1 := hb1.size
  try simp at z1
  have s1 : Below w.heap.size w w1 := Below.trans (by go_grown) (hb1.mono (by first | omega | (simp; done) | (simp; omega)))
  have b1 : Below w.heap.size w w1 := b0.trans (s1.mono (by omega))
  have p1 : w1.cell? ⟨w.heap.size, 0, none⟩ = some (.slice A m c) := by rw [(bcell hb1).1 _ _ (by first | omega | (simp; done) | (simp; omega))]; go_simp
  have p2 : w1.cell? ⟨w.heap.size, 1, none⟩ = some (.int .i64 a) := by rw [(bcell hb1).1 _ _ (by first | omega | (simp; done) | (simp; omega))]; go_simp
  have y_w : w.heap.size < w1.heap.size := by omega
  clear hb1 s1
  go_wp2_with fail
  refine (toBed_c A m c Y a _ hnm (Sl.below HY.out b1 (Nat.le_refl _))).mono ?_
  rintro e w2 ⟨Aw2, cw2, rfl, kc2, mc2, r2, hb2⟩
  have z2 := hb2.size
  try simp at z2
  have s2 : Below w1.heap.size w1 w2 := Below.trans (by go_grown) (hb2.mono (by first | omega | (simp; done) | (simp; omega)))
  have b2 : Below w.heap.size w w2 := b1.trans (s2.mono (by omega))
  replace p1 : w2.cell? ⟨w.heap.size, 0, none⟩ = some (.slice A m c) := (s2.cell (p := ⟨w.heap.size, 0, none⟩) (show w.heap.size < w1.heap.size by omega)).trans p1
  replace p2 : w2.cell? ⟨w.heap.size, 1, none⟩ = some (.int .i64 a) := (s2.cell (p := ⟨w.heap.size, 1, none⟩) (show w.heap.size < w1.heap.size by omega)).trans p2
  replace y_w : w.heap.size < w2.heap.size := by omega
  have R1_2 := Lib.hid (r2.wide (lo' := w1.heap.size) (by first | omega | (simp; done) | (simp; omega)) (Nat.le_refl _))
  clear r2
  clear hb2 s2
  go_wp2_with fail
  refine (toInts_c A2 n c2 C _ hnn (Sl.below HC.out b2 (Nat.le_refl _))).mono ?_
  rintro e w3 ⟨Aw3, cw3, rfl, kc3, mc3, r3, hb3⟩
  have z3 := hb3.size
  try simp at z3
  have s3 : Below w2.heap.size w2 w3 := Below.trans (by go_grown) (hb3.mono (by first | omega | (simp; done) | (simp; omega)))
  have b3 : Below w.heap.size w w3 := b2.trans (s3.mono (by omega))
  replace p1 : w3.cell? ⟨w.heap.size, 0, none⟩ = some (.slice A m c) := (s3.cell (p := ⟨w.heap.size, 0, none⟩) (show w.heap.size < w2.heap.size by omega)).trans p1
  replace p2 : w3.cell? ⟨w.heap.size, 1, none⟩ = some (.int .i64 a) := (s3.cell (p := ⟨w.heap.size, 1, none⟩) (show w.heap.size < w2.heap.size by omega)).trans p2
  replace y_w : w.heap.size < w3.heap.size := by omega
  have R1_3 := Lib.hid (R1_2.out.below s3 (by omega))
  clear R1_2
  have R2_3 := Lib.hid (r3.wide (lo' := w2.heap.size) (by first | omega | (simp; done) | (simp; omega)) (Nat.le_refl _))
  clear r3
  clear hb3 s3
  go_wp2_with fail
  refine (hspec.out _ _ _ _ _ (R1_3.out.sl) (R2_3.out.sl)).mono ?_
  rintro e w4 ⟨rfl, hb4⟩
  have z4 := hb4.size
  try simp at z4
  have s4 : Below w3.heap.size w3 w4 := Below.trans (by go_grown) (hb4.mono (by first | omega | (simp; done) | (simp; omega)))
  have b4 : Below w.heap.size w w4 := b3.trans (s4.mono (by omega))
  replace p1 : w4.cell? ⟨w.heap.size, 0, none⟩ = some (.slice A m c) := (s4.cell (p := ⟨w.heap.size, 0, none⟩) (show w.heap.size < w3.heap.size by omega)).trans p1
  replace p2 : w4.cell? ⟨w.heap.size, 1, none⟩ = some (.int .i64 a) := (s4.cell (p := ⟨w.heap.size, 1, none⟩) (show w.heap.size < w3.heap.size by omega)).trans p2
  replace y_w : w.heap.size < w4.heap.size := by omega
  have R1_4 := Lib.hid (R1_3.out.below s4 (by omega))
  clear R1_3
  have R2_4 := Lib.hid (R2_3.out.below s4 (by omega))
  clear R2_3
  clear hb4 s4
  clear R1_4
  clear R2_4
  go_wp2_with fail
  refine (toBed_c A m c Y a _ hnm (Sl.below HY.out b4 (Nat.le_refl _))).mono ?_
  rintro e w5 ⟨Aw5, cw5, rfl, kc5, mc5, r5, hb5⟩
  have z5 := hb5.size
  try simp at z5
  have s5 : Below w4.heap.size w4 w5 := Below.trans (by go_grown) (hb5.mono (by first | omega | (simp; done) | (simp; omega)))
  have b5 : Below w.heap.size w w5 := b4.trans (s5.mono (by omega))
  replace p1 : w5.cell? ⟨w.heap.size, 0, none⟩ = some (.slice A m c) := (s5.cell (p := ⟨w.heap.size, 0, none⟩) (show w.heap.size < w4.heap.size by omega)).trans p1
  replace p2 : w5.cell? ⟨w.heap.size, 1, none⟩ = some (.int .i64 a) := (s5.cell (p := ⟨w.heap.size, 1, none⟩) (show w.heap.size < w4.heap.size by omega)).trans p2
  replace y_w : w.heap.size < w5.heap.size := by omega
  have R3_5 := Lib.hid (r5.wide (lo' := w4.heap.size) (by first | omega | (simp; done) | (simp; omega)) (Nat.le_refl _))
  clear r5
  clear hb5 s5
  go_wp2_with fail
  refine (toInts_c A2 n c2 C _ hnn (Sl.below HC.out (w' := _) (K := w.heap.size) (by first | exact b5 | go_grown) (Nat.le_refl _))).mono ?_
  rintro e w6 ⟨Aw6, cw6, rfl, kc6, mc6, r6, hb6⟩
  have z6 := hb6.size
  try simp at z6
  have s6 : Below w5.heap.size w5 w6 := Below.trans (by go_grown) (hb6.mono (by first | omega | (simp; done) | (simp; omega)))
  have b6 : Below w.heap.size w w6 := b5.trans (s6.mono (by omega))
  replace p1 : w6.cell? ⟨w.heap.size, 0, none⟩ = some (.slice A m c) := (s6.cell (p := ⟨w.heap.size, 0, none⟩) (show w.heap.size < w5.heap.size by omega)).trans p1
  replace p2 : w6.cell? ⟨w.heap.size, 1, none⟩ = some (.int .i64 a) := (s6.cell (p := ⟨w.heap.size, 1, none⟩) (show w.heap.size < w5.heap.size by omega)).trans p2
  have p3 : w6.cell? ⟨w5.heap.size, 0, none⟩ = some (.slice Aw5 m cw5) := by rw [(bcell hb6).1 _ _ (by first | omega | (simp; done) | (simp; omega))]; go_simp
  have p4 : w6.cell? ⟨w5.heap.size, 1, none⟩ = some (.int .i64 a) := by rw [(bcell hb6).1 _ _ (by first | omega | (simp; done) | (simp; omega))]; go_simp
  replace y_w : w.heap.size < w6.heap.size := by omega
  have y_w5 : w5.heap.size < w6.heap.size := by omega
  have R3_6 := Lib.hid (R3_5.out.below s6 (by omega))
  clear R3_5
  have R4_6 := Lib.hid (r6.wide (lo' := w5.heap.size) (by first | omega | (simp; done) | (simp; omega)) (Nat.le_refl _))
  clear r6
  clear hb6 s6
  go_wp2_with fail
  refine (himpl.out _ _ _ _ _ (R3_6.out.sl) (R4_6.out.sl)).mono ?_
  rintro e w7 ⟨rfl, hb7⟩
  have z7 := hb7.size
  try simp at z7
  have s7 : Below w6.heap.size w6 w7 := Below.trans (by go_grown) (hb7.mono (by first | omega | (simp; done) | (simp; omega)))
  have b7 : Below w.heap.size w w7 := b6.trans (s7.mono (by omega))
  replace p1 : w7.cell? ⟨w.heap.size, 0, none⟩ = some (.slice A m c) := (s7.cell (p := ⟨w.heap.size, 0, none⟩) (show w.heap.size < w6.heap.size by omega)).trans p1
  replace p2 : w7.cell? ⟨w.heap.size, 1, none⟩ = some (.int .i64 a) := (s7.cell (p := ⟨w.heap.size, 1, none⟩) (show w.heap.size < w6.heap.size by omega)).trans p2
  replace p3 : w7.cell? ⟨w5.heap.size, 0, none⟩ = some (.slice Aw5 m cw5) := (s7.cell (p := ⟨w5.heap.size, 0, none⟩) (show w5.heap.size < w6.heap.size by omega)).trans p3
  replace p4 : w7.cell? ⟨w5.heap.size, 1, none⟩ = some (.int .i64 a) := (s7.cell (p := ⟨w5.heap.size, 1, none⟩) (show w5.heap.size < w6.heap.size by omega)).trans p4
  replace y_w : w.heap.size < w7.heap.size := by omega
  replace y_w5 : w5.heap.size < w7.heap.size := by omega
  have R3_7 := Lib.hid (R3_6.out.below s7 (by omega))
  clear R3_6
  have R4_7 := Lib.hid (R4_6.out.below s7 (by omega))
  clear R4_6
  clear hb7 s7
  go_wp2_with fail
  go_region_held3 (fun q => q.cell? ⟨w5.heap.size, 0, none⟩ = some (.slice Aw5 m cw5) ∧ q.cell? ⟨w5.heap.size, 1, none⟩ = some (.int .i64 a) ∧ q.cell? ⟨w.heap.size, 0, none⟩ = some (.slice A m c) ∧ q.cell? ⟨w.heap.size, 1, none⟩ = some (.int .i64 a)) (first | exact ⟨p3, p4, p1, p2⟩ | go_keep)
    (first
      | (go_at_call 22; refine (toBed_c A m c Y a _ hnm (Sl.below HY.out b7.drew (Nat.le_refl _))).mono ?_; rintro e w8 ⟨Aw8, cw8, rfl, kc8, mc8, r8, hb8⟩
         have z8 := hb8.size
         try simp at z8
         have s8 : Below w7.heap.size w7 w8 := Below.trans (Below.drew (Below.refl _ _)) (hb8.mono (by first | omega | (simp; done) | (simp; omega)))
         have b8 : Below w.heap.size w w8 := b7.trans (s8.mono (by omega))
         replace p1 : w8.cell? ⟨w.heap.size, 0, none⟩ = some (.slice A m c) := (s8.cell (p := ⟨w.heap.size, 0, none⟩) (show w.heap.size < w7.heap.size by omega)).trans p1
         replace p2 : w8.cell? ⟨w.heap.size, 1, none⟩ = some (.int .i64 a) := (s8.cell (p := ⟨w.heap.size, 1, none⟩) (show w.heap.size < w7.heap.size by omega)).trans p2
         replace p3 : w8.cell? ⟨w5.heap.size, 0, none⟩ = some (.slice Aw5 m cw5) := (s8.cell (p := ⟨w5.heap.size, 0, none⟩) (show w5.heap.size < w7.heap.size by omega)).trans p3
         replace p4 : w8.cell? ⟨w5.heap.size, 1, none⟩ = some (.int .i64 a) := (s8.cell (p := ⟨w5.heap.size, 1, none⟩) (show w5.heap.size < w7.heap.size by omega)).trans p4
         replace y_w : w.heap.size < w8.heap.size := by omega
         replace y_w5 : w5.heap.size < w8.heap.size := by omega
         have R3_8 := Lib.hid (R3_7.out.below s8 (by omega))
         clear R3_7
         have R4_8 := Lib.hid (R4_7.out.below s8 (by omega))
         clear R4_7
         have R5_8 := Lib.hid (r8.wide (lo' := w7.heap.size) (by first | omega | (simp; done) | (simp; omega)) (Nat.le_refl _))
         clear r8
         clear hb8 s8)
      | (go_at_call 24; refine (eqBed_same Aw5 Aw8 m cw5 cw8 Y a _ hmm (R3_8.out.sl) (R5_8.out.sl)).mono ?_; rintro e w9 ⟨rfl, hb9⟩
         have z9 := hb9.size
         try simp at z9
         have s9 : Below w8.heap.size w8 w9 := Below.trans (by go_grown) (hb9.mono (by first | omega | (simp; done) | (simp; omega)))
         have b9 : Below w.heap.size w w9 := b8.trans (s9.mono (by omega))
         replace p1 : w9.cell? ⟨w.heap.size, 0, none⟩ = some (.slice A m c) := (s9.cell (p := ⟨w.heap.size, 0, none⟩) (show w.heap.size < w8.heap.size by omega)).trans p1
         replace p2 : w9.cell? ⟨w.heap.size, 1, none⟩ = some (.int .i64 a) := (s9.cell (p := ⟨w.heap.size, 1, none⟩) (show w.heap.size < w8.heap.size by omega)).trans p2
         replace p3 : w9.cell? ⟨w5.heap.size, 0, none⟩ = some (.slice Aw5 m cw5) := (s9.cell (p := ⟨w5.heap.size, 0, none⟩) (show w5.heap.size < w8.heap.size by omega)).trans p3
         replace p4 : w9.cell? ⟨w5.heap.size, 1, none⟩ = some (.int .i64 a) := (s9.cell (p := ⟨w5.heap.size, 1, none⟩) (show w5.heap.size < w8.heap.size by omega)).trans p4
         replace y_w : w.heap.size < w9.heap.size := by omega
         replace y_w5 : w5.heap.size < w9.heap.size := by omega
         have R3_9 := Lib.hid (R3_8.out.below s9 (by omega))
         clear R3_8
         have R4_9 := Lib.hid (R4_8.out.below s9 (by omega))
         clear R4_8
         have R5_9 := Lib.hid (R5_8.out.below s9 (by omega))
         clear R5_8
         clear hb9 s9))
  clear R5_9
  go_wp2_with fail
  refine (toInts_c A2 n c2 C _ hnn (Sl.below HC.out b9 (Nat.le_refl _))).mono ?_
  rintro e w10 ⟨Aw10, cw10, rfl, kc10, mc10, r10, hb10⟩
  have z10 := hb10.size
  try simp at z10
  have s10 : Below w9.heap.size w9 w10 := Below.trans (by go_grown) (hb10.mono (by first | omega | (simp; done) | (simp; omega)))
  have b10 : Below w.heap.size w w10 := b9.trans (s10.mono (by omega))
  replace p1 : w10.cell? ⟨w.heap.size, 0, none⟩ = some (.slice A m c) := (s10.cell (p := ⟨w.heap.size, 0, none⟩) (show w.heap.size < w9.heap.size by omega)).trans p1
  replace p2 : w10.cell? ⟨w.heap.size, 1, none⟩ = some (.int .i64 a) := (s10.cell (p := ⟨w.heap.size, 1, none⟩) (show w.heap.size < w9.heap.size by omega)).trans p2
  replace p3 : w10.cell? ⟨w5.heap.size, 0, none⟩ = some (.slice Aw5 m cw5) := (s10.cell (p := ⟨w5.heap.size, 0, none⟩) (show w5.heap.size < w9.heap.size by omega)).trans p3
  replace p4 : w10.cell? ⟨w5.heap.size, 1, none⟩ = some (.int .i64 a) := (s10.cell (p := ⟨w5.heap.size, 1, none⟩) (show w5.heap.size < w9.heap.size by omega)).trans p4
  replace y_w : w.heap.size < w10.heap.size := by omega
  replace y_w5 : w5.heap.size < w10.heap.size := by omega
  have R3_10 := Lib.hid (R3_9.out.below s10 (by omega))
  clear R3_9
  have R4_10 := Lib.hid (R4_9.out.below s10 (by omega))
  clear R4_9
  have R6_10 := Lib.hid (r10.wide (lo' := w9.heap.size) (by first | omega | (simp; done) | (simp; omega)) (Nat.le_refl _))
  clear r10
  clear hb10 s10
  go_wp2_with fail
  refine (eqInts_b Aw6 Aw10 n cw6 cw10 C _ hmn (R4_10.out.sl) (R6_10.out.sl)).mono ?_
  rintro e w11 ⟨rfl, hb11⟩
  have z11 := hb11.size
  try simp at z11
  have s11 : Below w10.heap.size w10 w11 := Below.trans (by go_grown) (hb11.mono (by first | omega | (simp; done) | (simp; omega)))
  have b11 : Below w.heap.size w w11 := b10.trans (s11.mono (by omega))
  replace p1 : w11.cell? ⟨w.heap.size, 0, none⟩ = some (.slice A m c) := (s11.cell (p := ⟨w.heap.size, 0, none⟩) (show w.heap.size < w10.heap.size by omega)).trans p1
  replace p2 : w11.cell? ⟨w.heap.size, 1, none⟩ = some (.int .i64 a) := (s11.cell (p := ⟨w.heap.size, 1, none⟩) (show w.heap.size < w10.heap.size by omega)).trans p2
  replace p3 : w11.cell? ⟨w5.heap.size, 0, none⟩ = some (.slice Aw5 m cw5) := (s11.cell (p := ⟨w5.heap.size, 0, none⟩) (show w5.heap.size < w10.heap.size by omega)).trans p3
  replace p4 : w11.cell? ⟨w5.heap.size, 1, none⟩ = some (.int .i64 a) := (s11.cell (p := ⟨w5.heap.size, 1, none⟩) (show w5.heap.size < w10.heap.size by omega)).trans p4
  replace y_w : w.heap.size < w11.heap.size := by omega
  replace y_w5 : w5.heap.size < w11.heap.size := by omega
  have R3_11 := Lib.hid (R3_10.out.below s11 (by omega))
  clear R3_10
  have R4_11 := Lib.hid (R4_10.out.below s11 (by omega))
  clear R4_10
  have R6_11 := Lib.hid (R6_10.out.below s11 (by omega))
  clear R6_10
  clear hb11 s11
  clear R6_11
  go_wp2
  go_ret
  exact ⟨rfl, b11⟩

set_option maxHeartbeats 1000000 in
theorem big (A : Option Addr) (m c : Nat) (a : Int) (A2 : Option Addr) (n c2 : Nat) (years : Int) (w : World) (hb : 1048576 < m ∨ 1048576 < n) (hm : m ≤ maxLen) (hn : n ≤ maxLen) :
    Calls Try.prog 5 #[.agg #[.slice A m c, .int .i64 a], .slice A2 n c2, .int .i64 years] w fun e w' => e = .returned (.bool true) ∧ Below w.heap.size w w' := by
  by_cases h2 : 1048576 < n
  · have h2' : (1048576 : Int) < (n : Int) := by omega
    unfold maxLen at hn
    go_enter Try.func5, Try.ntmps5
    go_wp2
    go_ret
    exact ⟨rfl, by go_grown⟩
  · have h2' : ¬ (1048576 : Int) < (n : Int) := by omega
    have hn' : 1048576 < m := by omega
    go_enter Try.func5, Try.ntmps5
    go_wp2_with fail
    refine (szBed_big A m c a _ _ (by omega) (by omega) (by omega) hm).mono ?_
    rintro e w1 ⟨rfl, hb1⟩
    have g1 : Below w.heap.size w w1 := Below.trans (by go_grown) (hb1.mono (by simp))
    clear hb1
    go_wp2
    go_ret
    exact ⟨rfl, g1⟩

theorem walk (A : Option Addr) (m c : Nat) (Y : Nat → Int) (a : Int) (A2 : Option Addr) (n c2 : Nat) (C : Nat → Int) (years : Int) (w : World) (le : m ≤ c) (mx : c ≤ maxLen) (sl : Sl w A m 1 Y) (wf : ∀ j, j < m * 1 → (Lit.int .i64 (Y j)).wf = true) (x0 : (Lit.int .i64 a).wf = true)
    (le2 : n ≤ c2) (mx2 : c2 ≤ maxLen) (sl2 : Sl w A2 n 1 C) (wf2 : ∀ j, j < n * 1 → (Lit.int .i64 (C j)).wf = true) (x2 : (Lit.int .i64 years).wf = true) :
    Calls Try.prog 5 #[.agg #[.slice A m c, .int .i64 a], .slice A2 n c2, .int .i64 years] w fun e w' => e = .returned (.bool true) ∧ Below w.heap.size w w' := by
  by_cases hs : m ≤ 1048576 ∧ n ≤ 1048576
  · obtain ⟨hm, hn⟩ := hs
    cases hb : bedB m Y a
    · exact core A m c Y a A2 n c2 C years 0 1 w hm sl hn sl2 (fun A' c' B' d' w h k => yop_s_no A' m c' Y a B' n d' C years 1 w (by omega) (by omega) h k (.inl ⟨hb, rfl⟩)) (fun A' c' B' d' w h k => yop_i_no A' m c' Y a B' n d' C years 1 w (by omega) (by omega) h k (.inl ⟨hb, rfl⟩))
    · cases hp : planB n C years
      · exact core A m c Y a A2 n c2 C years 0 2 w hm sl hn sl2 (fun A' c' B' d' w h k => yop_s_no A' m c' Y a B' n d' C years 2 w (by omega) (by omega) h k (.inr ⟨hb, hp, rfl⟩)) (fun A' c' B' d' w h k => yop_i_no A' m c' Y a B' n d' C years 2 w (by omega) (by omega) h k (.inr ⟨hb, hp, rfl⟩))
      · obtain ⟨y, rfl⟩ : ∃ y : Nat, years = y := ⟨years.toNat, by have := (planB_of hp).1; omega⟩
        exact core A m c Y a A2 n c2 C y _ 0 w hm sl hn sl2 (fun A' c' B' d' w h k => yop_s A' m c' Y a B' n d' C y w (by omega) (by omega) h k hb hp) (fun A' c' B' d' w h k => yop_i A' m c' Y a B' n d' C y w (by omega) (by omega) h k hb hp)
  · exact big A m c a A2 n c2 years w (by omega) (by omega) (by omega)

theorem own : ownKnob Try.prog.godebug = none := by kernel_rfl
theorem laidOut : laidOutB Try.prog = true := by kernel_rfl

set_option maxRecDepth 100000 in
theorem lifted (os : Os) (started : os.Started) (H : Type) (enc : TypeId × Value → H) :
    ReturnsInHanded {} Try.checked os 5 .any (Rows.fnExactYieldOfPlanSpec.pre6 enc Try.prog Try.f5 Rows.fnExactYieldOfPlanRow.domain false) (Rows.fnExactYieldOfPlanSpec.post enc Try.prog Try.f5 false true false false) := by
  refine returnsInHanded_of_change (C := Try.checked) own started (by kernel_rfl) Try.func5
    (ChangeSpec.witness6 (enc := enc) (C := Try.checked) false ⟨#[], #[.agg #[.slice none 0 0, .int .i64 0], .slice none 0 0, .int .i64 0], []⟩ 8 (by kernel_rfl) (by kernel_rfl) (by kernel_rfl) (by kernel_rfl)) ?_
  intro W base args ds gs before hval0 hW hcnd hreach
  have hval : ∀ (j : Nat) t v, Try.f5.params[j]? = some t → args[j]? = some v → Value.okWide Try.prog W .any base t v := hval0
  have hW' := hW
  obtain ⟨p, q, hA0, hV, rfl, hfz, hnd⟩ := hW
  have hA : DataW.TrodAll enc Try.prog W 0 (fun _ => true) true Try.f5.params.toList args.toList ds p := hA0
  rw [Try.params5] at hA hval
  obtain ⟨v0, vs0, d0, ds0, p0, q0, hargs, rfl, rfl, h0, r0⟩ := trodAll_cons hA
  obtain ⟨v1, vs1, d1, ds1, p1, q1, hargs1, rfl, rfl, h1, r1⟩ := trodAll_cons r0
  obtain ⟨v2, vs2, d2, ds2, p2, q2, hargs2, rfl, rfl, h2, r2⟩ := trodAll_cons r1
  obtain ⟨rfl, rfl, rfl⟩ := trodAll_nil r2
  obtain rfl : args = #[v0, v1, v2] := by cases args; simp_all
  obtain ⟨rfl, rfl⟩ := trodVars_none hV
  have k0 := h0
  have lt0 : ∀ x ∈ p0, x.block < W.heap.size := by obtain ⟨m, hm⟩ := k0; exact DataW.trod_lt m _ _ _ hm
  obtain ⟨c0_0, c0_1, y0_0, y0_1, m0, rfl, rfl, rfl, hy0_0, hy0_1⟩ := open_agg2 Try.underlying31 (by kernel_rfl) (by kernel_rfl) (hval 0 31 v0 rfl rfl) h0
  obtain ⟨A0, len0, cap0, rfl, le0, mx0, X0, sl0, wf0⟩ := open_nums_v Try.underlying29 Try.underlying2 (by kernel_rfl) hy0_0
  obtain ⟨a0, e0_1, rfl, w0⟩ := DataW.trod_int Try.underlying2 hy0_1
  simp at e0_1
  subst e0_1
  have k1 := h1
  have lt1 : ∀ x ∈ p1, x.block < W.heap.size := by obtain ⟨m, hm⟩ := k1; exact DataW.trod_lt m _ _ _ hm
  obtain ⟨a1, len1, cap1, rfl⟩ := okWide_slice Try.underlying29 (hval 1 29 v1 rfl rfl)
  obtain ⟨le1, mx1, X1, sl1, wf1⟩ : len1 ≤ cap1 ∧ cap1 ≤ maxLen ∧ ∃ X : Nat → Int, Sl W a1 len1 1 X ∧ ∀ j, j < len1 * 1 → (Lit.int .i64 (X j)).wf = true := by
    obtain ⟨fuel, hf⟩ := h1
    exact open_nums Try.underlying29 Try.underlying2 (by kernel_rfl) hf
  have k2 := h2
  have lt2 : ∀ x ∈ p2, x.block < W.heap.size := by obtain ⟨m, hm⟩ := k2; exact DataW.trod_lt m _ _ _ hm
  obtain ⟨a2, rfl, rfl, rfl, w2⟩ := open_int Try.underlying2 (hval 2 2 v2 rfl rfl) h2
  clear hA0 hval0
  refine (walk A0 len0 cap0 X0 a0 a1 len1 cap1 X1 a2 W le0 mx0 sl0 wf0 w0 le1 mx1 sl1 wf1 w2).mono fun e W' ⟨he, bel⟩ => ?_
  subst he
  exact ⟨_, rfl, _, _, _, [], _, [], hW', trodAll_mk1 (shut_bool Try.underlying4 _), (trodAll_cons_mk (Below.trod laidOut (by kernel_rfl) (of_decide_eq_true (by kernel_rfl)) k0 bel lt0) (trodAll_cons_mk (Below.trod laidOut (by kernel_rfl) (of_decide_eq_true (by kernel_rfl)) k1 bel lt1) (trodAll_cons_mk (Below.trod laidOut (by kernel_rfl) (of_decide_eq_true (by kernel_rfl)) k2 bel lt2) trodAll_mk0))), rfl, bel.frame _, fun h => by cases h⟩

theorem over : Rows.fnExactYieldOfPlanRow.holds Try.pinned (OpenSpec.ofChange Rows.fnExactYieldOfPlanSpec) :=
  OpenClaim.holds_of_wide 5 Try.f5 rfl rfl rfl rfl rfl rfl rfl ⟨rfl, rfl, rfl, rfl, rfl⟩ rfl rfl rfl rfl rfl (by kernel_rfl) Try.func5 (by kernel_rfl)
    (of_decide_eq_true (by kernel_rfl)) (by unfold Func.isWrapper; first | (rw [if_pos (by decide +kernel)]; kernel_rfl) | (rw [if_neg (by decide +kernel)]; exact ⟨rfl, rfl⟩))
    (fun os started H enc _ => lifted os started H enc)

theorem proved : Rows.FnExactYieldOfPlanSaid := over

end Go.Proofs.Ytminbbdmjglnjaa.fnExactYieldOfPlan
