/-
  The walk of the law on rods: for every two arguments the law gives true, if the program's RodText and ReadRod answer as told.
-/
import Derived.Test.YtobohjfenjeckabDoorRodM
import Derived.Test.YtobohjfenjeckabDoorSrcRod
import Derived.Test.YtobohjfenjeckabDoorSrcAt
namespace Go.Proofs.YtobohjfenjeckabDoor.src
open Go.ChangeShapes Go.WideShapes Go.ChangeAt Go.RowKit Go.Proofs.YtobohjfenjeckabDoor.mem Go.Proofs.YtobohjfenjeckabDoor.rod
set_option linter.unusedVariables false

set_option maxHeartbeats 16000000 in
set_option maxRecDepth 100000 in
theorem rods_walk (A : Option Addr) (n c : Nat) (X : Nat → Int) (A2 : Option Addr) (m c2 : Nat) (X2 : Nat → Int) (rodT : Int → Int → Int → ByteArray) (w : World) (hn : n ≤ 3000) (hm : m ≤ 3000) (hX : Sb w A n X) (hX2 : Sb w A2 m X2)
    (htext : Hid (∀ (L B T : Int) (W : World), rodB L B T = true → Below w.heap.size w W → Calls Tryd.prog 12 #[.agg #[.int .i64 L, .int .i64 B, .int .i64 T]] W fun e w' => e = .returned (.string (rodT L B T)) ∧ Below W.heap.size W w'))
    (hread : Hid (∀ (L B T : Int) (W : World), rodB L B T = true → Below w.heap.size w W → Calls Tryd.prog 11 #[.string (rodT L B T)] W fun e w' => e = .returned (.tuple #[.agg #[.int .i64 L, .int .i64 B, .int .i64 T], .bool true]) ∧ Below W.heap.size W w')) :
    Calls Tryd.prog 3 #[.slice A n c, .slice A2 m c2] w fun e w' => e = .returned (.bool true) ∧ Below w.heap.size w w' := by
  have HX := Lib.hid hX
  have HX2 := Lib.hid hX2
  clear hX hX2
  have b0 : Below w.heap.size w w := Below.refl _ _
  go_enter Tryd.func3, Tryd.ntmps3
  go_wp2_with fail
  refine (long_b A A2 n m c c2 _ hn hm).mono ?_
  rintro e w1 ⟨rfl, hb1⟩
  have z1 := hb1.size
  try simp at z1
  have s1 : Below w.heap.size w w1 := Below.trans (by go_grown) (hb1.mono (by first | omega | (simp; done) | (simp; omega)))
  have b1 : Below w.heap.size w w1 := b0.trans (s1.mono (by omega))
  clear hb1 s1
  go_wp2_with fail
  refine (a2Rod_c A n c X _ hn (HX.out.below b1 (Nat.le_refl _))).mono ?_
  rintro e w2 ⟨⟨L, B, T, rfl, hr, hL, hB⟩, hb2⟩
  have z2 := hb2.size
  try simp at z2
  have s2 : Below w1.heap.size w1 w2 := Below.trans (by go_grown) (hb2.mono (by first | omega | (simp; done) | (simp; omega)))
  have b2 : Below w.heap.size w w2 := b1.trans (s2.mono (by omega))
  clear hb2 s2
  obtain ⟨r1, r2, r3, r4, r5, r6⟩ := rodB_of hr
  go_wp2_with fail
  refine (at_b A2 m c2 X2 0 110 109 _ hm (by omega) (by omega) (by omega) (HX2.out.below (w' := _) (K := w.heap.size) (by first | exact b2 | go_grown) (Nat.le_refl _))).mono ?_
  rintro e w3 ⟨v, rfl, v0, v1, hb3⟩
  have z3 := hb3.size
  try simp at z3
  have s3 : Below w2.heap.size w2 w3 := Below.trans (by go_grown) (hb3.mono (by first | omega | (simp; done) | (simp; omega)))
  have b3 : Below w.heap.size w w3 := b2.trans (s3.mono (by omega))
  have p1 : w3.cell? ⟨w2.heap.size, 0, none⟩ = some (.int .i64 L) := by rw [(bcell hb3).1 _ _ (by first | omega | (simp; done) | (simp; omega))]; go_simp
  have p2 : w3.cell? ⟨w2.heap.size, 1, none⟩ = some (.int .i64 B) := by rw [(bcell hb3).1 _ _ (by first | omega | (simp; done) | (simp; omega))]; go_simp
  have p3 : w3.cell? ⟨w2.heap.size, 2, none⟩ = some (.int .i64 T) := by rw [(bcell hb3).1 _ _ (by first | omega | (simp; done) | (simp; omega))]; go_simp
  have y_w2 : w2.heap.size < w3.heap.size := by omega
  clear hb3 s3
  have ht : inB (1 + v) 1 300 = true := inB_yes (by omega) (by omega)
  have t1 : 1 ≤ 1 + v := by omega
  have t2 : 1 + v ≤ 110 := by omega
  have HR := Lib.hid hr
  clear hr
  have HT := Lib.hid ht
  clear ht
  by_cases ht : B < 1 + v
  · have ht' : ¬ 1 + v ≤ B := by omega
    go_wp2_with fail
    refine (len_i_thin L B T (1 + v) HR.out HT.out ht _).mono ?_
    rintro e w4 ⟨rfl, hb4⟩
    have z4 := hb4.size
    try simp at z4
    have s4 : Below w3.heap.size w3 w4 := Below.trans (by go_grown) (hb4.mono (by first | omega | (simp; done) | (simp; omega)))
    have b4 : Below w.heap.size w w4 := b3.trans (s4.mono (by omega))
    replace p1 : w4.cell? ⟨w2.heap.size, 0, none⟩ = some (.int .i64 L) := (s4.cell (p := ⟨w2.heap.size, 0, none⟩) (show w2.heap.size < w3.heap.size by omega)).trans p1
    replace p2 : w4.cell? ⟨w2.heap.size, 1, none⟩ = some (.int .i64 B) := (s4.cell (p := ⟨w2.heap.size, 1, none⟩) (show w2.heap.size < w3.heap.size by omega)).trans p2
    replace p3 : w4.cell? ⟨w2.heap.size, 2, none⟩ = some (.int .i64 T) := (s4.cell (p := ⟨w2.heap.size, 2, none⟩) (show w2.heap.size < w3.heap.size by omega)).trans p3
    replace y_w2 : w2.heap.size < w4.heap.size := by omega
    clear hb4 s4
    go_wp2_with fail
    refine (at_b A2 m c2 X2 1 (L - 99) (L - 100) _ hm (by omega) (by omega) (by omega) (HX2.out.below b4 (Nat.le_refl _))).mono ?_
    rintro e w5 ⟨u, rfl, u0, u1, hb5⟩
    have z5 := hb5.size
    try simp at z5
    have s5 : Below w4.heap.size w4 w5 := Below.trans (by go_grown) (hb5.mono (by first | omega | (simp; done) | (simp; omega)))
    have b5 : Below w.heap.size w w5 := b4.trans (s5.mono (by omega))
    replace p1 : w5.cell? ⟨w2.heap.size, 0, none⟩ = some (.int .i64 L) := (s5.cell (p := ⟨w2.heap.size, 0, none⟩) (show w2.heap.size < w4.heap.size by omega)).trans p1
    replace p2 : w5.cell? ⟨w2.heap.size, 1, none⟩ = some (.int .i64 B) := (s5.cell (p := ⟨w2.heap.size, 1, none⟩) (show w2.heap.size < w4.heap.size by omega)).trans p2
    replace p3 : w5.cell? ⟨w2.heap.size, 2, none⟩ = some (.int .i64 T) := (s5.cell (p := ⟨w2.heap.size, 2, none⟩) (show w2.heap.size < w4.heap.size by omega)).trans p3
    replace y_w2 : w2.heap.size < w5.heap.size := by omega
    clear hb5 s5
    have l1 : 100 ≤ 100 + u := by omega
    have l2 : 100 + u ≤ L := by omega
    obtain ⟨Nr, hNr⟩ : ∃ N, thk L B T (100 + u) = N := ⟨_, rfl⟩
    obtain ⟨y1r, y2r, y3r, y4r, y5r, y6r, y7r⟩ := thk_bd HR.out (show 0 ≤ 100 + u by omega) l2
    have N0r : 0 ≤ Nr := by rw [← hNr]; unfold thk; omega
    have N1r : Nr ≤ 900000 := by rw [← hNr]; unfold thk; omega
    obtain ⟨g1, g2, g3, g4, g5, g6⟩ := low_of N0r (show 1 ≤ L by omega)
    obtain ⟨j1, j2⟩ := tip_of (N := Nr) (show 1 ≤ L by omega)
    have j0 : 0 ≤ Nr / L := Int.ediv_nonneg N0r (by omega)
    have j3 : Nr / L ≤ Nr := Int.ediv_le_self _ N0r
    have HC : Hid (∀ W : World, Calls Tryd.prog 9 #[.agg #[.int .i64 L, .int .i64 B, .int .i64 T], .int .i64 (100 + u)] W fun e w' => e = .returned (.tuple #[.agg #[.int .i64 (100 + u), .int .i64 B, .int .i64 (Nr / L)], .int .i64 0]) ∧ Below W.heap.size W w') := fun W => by have := cut_i L B T (100 + u) HR.out (inB_yes l1 l2) W; rw [hNr] at this; exact this
    have HG : Hid (∀ W : World, Calls Tryd.prog 10 #[.agg #[.int .i64 L, .int .i64 B, .int .i64 T], .int .i64 ((100 + u))] W fun e w' => e = .returned (.tuple #[.agg #[.int .i64 (Nr / gcdI Nr L), .int .i64 (L / gcdI Nr L)], .int .i64 0]) ∧ Below W.heap.size W w') := fun W => by have := thickAt_s L B T (100 + u) HR.out (inB_yes (by omega) l2) W; rw [hNr] at this; exact this
    generalize Nr / L = q at *
    generalize Nr / gcdI Nr L = nr at *
    generalize L / gcdI Nr L = dr at *
    have s1 : q * dr ≤ nr := (g6 q).2 j1
    have s2 : nr < (q + 1) * dr := by have := fun h => (g6 (q + 1)).1 h; omega
    obtain ⟨s3, s4⟩ := prod_le (a := q) (b := dr) (x := 900000) (y := 3000) (by omega) (by omega) (by omega) (by omega)
    obtain ⟨s5, s6⟩ := prod_le (a := q + 1) (b := dr) (x := 900001) (y := 3000) (by omega) (by omega) (by omega) (by omega)
    clear hNr g5 g6 y1r y2r y3r y4r y5r y6r y7r j1 j2
    go_wp2_with fail
    refine (HC.out _).mono ?_
    rintro e w6 ⟨rfl, hb6⟩
    have z6 := hb6.size
    try simp at z6
    have s6 : Below w5.heap.size w5 w6 := Below.trans (by go_grown) (hb6.mono (by first | omega | (simp; done) | (simp; omega)))
    have b6 : Below w.heap.size w w6 := b5.trans (s6.mono (by omega))
    replace p1 : w6.cell? ⟨w2.heap.size, 0, none⟩ = some (.int .i64 L) := (s6.cell (p := ⟨w2.heap.size, 0, none⟩) (show w2.heap.size < w5.heap.size by omega)).trans p1
    replace p2 : w6.cell? ⟨w2.heap.size, 1, none⟩ = some (.int .i64 B) := (s6.cell (p := ⟨w2.heap.size, 1, none⟩) (show w2.heap.size < w5.heap.size by omega)).trans p2
    replace p3 : w6.cell? ⟨w2.heap.size, 2, none⟩ = some (.int .i64 T) := (s6.cell (p := ⟨w2.heap.size, 2, none⟩) (show w2.heap.size < w5.heap.size by omega)).trans p3
    replace y_w2 : w2.heap.size < w6.heap.size := by omega
    clear hb6 s6
    go_wp2_with fail
    refine (HG.out _).mono ?_
    rintro e w7 ⟨rfl, hb7⟩
    have z7 := hb7.size
    try simp at z7
    have s7 : Below w6.heap.size w6 w7 := Below.trans (by go_grown) (hb7.mono (by first | omega | (simp; done) | (simp; omega)))
    have b7 : Below w.heap.size w w7 := b6.trans (s7.mono (by omega))
    replace p1 : w7.cell? ⟨w2.heap.size, 0, none⟩ = some (.int .i64 L) := (s7.cell (p := ⟨w2.heap.size, 0, none⟩) (show w2.heap.size < w6.heap.size by omega)).trans p1
    replace p2 : w7.cell? ⟨w2.heap.size, 1, none⟩ = some (.int .i64 B) := (s7.cell (p := ⟨w2.heap.size, 1, none⟩) (show w2.heap.size < w6.heap.size by omega)).trans p2
    replace p3 : w7.cell? ⟨w2.heap.size, 2, none⟩ = some (.int .i64 T) := (s7.cell (p := ⟨w2.heap.size, 2, none⟩) (show w2.heap.size < w6.heap.size by omega)).trans p3
    have p4 : w7.cell? ⟨w6.heap.size, 0, none⟩ = some (.int .i64 (100 + u)) := by rw [(bcell hb7).1 _ _ (by first | omega | (simp; done) | (simp; omega))]; go_simp
    have p5 : w7.cell? ⟨w6.heap.size, 1, none⟩ = some (.int .i64 B) := by rw [(bcell hb7).1 _ _ (by first | omega | (simp; done) | (simp; omega))]; go_simp
    have p6 : w7.cell? ⟨w6.heap.size, 2, none⟩ = some (.int .i64 q) := by rw [(bcell hb7).1 _ _ (by first | omega | (simp; done) | (simp; omega))]; go_simp
    replace y_w2 : w2.heap.size < w7.heap.size := by omega
    have y_w6 : w6.heap.size < w7.heap.size := by omega
    clear hb7 s7
    obtain ⟨tx, htx⟩ : ∃ tx, rodT L B T = tx := ⟨_, rfl⟩
    have HTX : Hid (∀ W : World, Below w.heap.size w W → Calls Tryd.prog 12 #[.agg #[.int .i64 L, .int .i64 B, .int .i64 T]] W fun e w' => e = .returned (.string tx) ∧ Below W.heap.size W w') := fun W hW => by rw [← htx]; exact htext.out L B T W HR.out hW
    have HRX : Hid (∀ W : World, Below w.heap.size w W → Calls Tryd.prog 11 #[.string tx] W fun e w' => e = .returned (.tuple #[.agg #[.int .i64 L, .int .i64 B, .int .i64 T], .bool true]) ∧ Below W.heap.size W w') := fun W hW => by rw [← htx]; exact hread.out L B T W HR.out hW
    clear htx
    go_wp2_with fail
    refine (HTX.out _ (by first | exact b7 | go_grown)).mono ?_
    rintro e w8 ⟨rfl, hb8⟩
    have z8 := hb8.size
    try simp at z8
    have s8 : Below w7.heap.size w7 w8 := Below.trans (by go_grown) (hb8.mono (by first | omega | (simp; done) | (simp; omega)))
    have b8 : Below w.heap.size w w8 := b7.trans (s8.mono (by omega))
    replace p1 : w8.cell? ⟨w2.heap.size, 0, none⟩ = some (.int .i64 L) := (s8.cell (p := ⟨w2.heap.size, 0, none⟩) (show w2.heap.size < w7.heap.size by omega)).trans p1
    replace p2 : w8.cell? ⟨w2.heap.size, 1, none⟩ = some (.int .i64 B) := (s8.cell (p := ⟨w2.heap.size, 1, none⟩) (show w2.heap.size < w7.heap.size by omega)).trans p2
    replace p3 : w8.cell? ⟨w2.heap.size, 2, none⟩ = some (.int .i64 T) := (s8.cell (p := ⟨w2.heap.size, 2, none⟩) (show w2.heap.size < w7.heap.size by omega)).trans p3
    replace p4 : w8.cell? ⟨w6.heap.size, 0, none⟩ = some (.int .i64 (100 + u)) := (s8.cell (p := ⟨w6.heap.size, 0, none⟩) (show w6.heap.size < w7.heap.size by omega)).trans p4
    replace p5 : w8.cell? ⟨w6.heap.size, 1, none⟩ = some (.int .i64 B) := (s8.cell (p := ⟨w6.heap.size, 1, none⟩) (show w6.heap.size < w7.heap.size by omega)).trans p5
    replace p6 : w8.cell? ⟨w6.heap.size, 2, none⟩ = some (.int .i64 q) := (s8.cell (p := ⟨w6.heap.size, 2, none⟩) (show w6.heap.size < w7.heap.size by omega)).trans p6
    have p7 : w8.cell? ⟨w7.heap.size, 0, none⟩ = some (.int .i64 nr) := by rw [(bcell hb8).1 _ _ (by first | omega | (simp; done) | (simp; omega))]; go_simp
    have p8 : w8.cell? ⟨w7.heap.size, 1, none⟩ = some (.int .i64 dr) := by rw [(bcell hb8).1 _ _ (by first | omega | (simp; done) | (simp; omega))]; go_simp
    replace y_w2 : w2.heap.size < w8.heap.size := by omega
    replace y_w6 : w6.heap.size < w8.heap.size := by omega
    have y_w7 : w7.heap.size < w8.heap.size := by omega
    clear hb8 s8
    go_wp2_with fail
    refine (HRX.out _ (by first | exact b8 | go_grown)).mono ?_
    rintro e w9 ⟨rfl, hb9⟩
    have z9 := hb9.size
    try simp at z9
    have s9 : Below w8.heap.size w8 w9 := Below.trans (by go_grown) (hb9.mono (by first | omega | (simp; done) | (simp; omega)))
    have b9 : Below w.heap.size w w9 := b8.trans (s9.mono (by omega))
    replace p1 : w9.cell? ⟨w2.heap.size, 0, none⟩ = some (.int .i64 L) := (s9.cell (p := ⟨w2.heap.size, 0, none⟩) (show w2.heap.size < w8.heap.size by omega)).trans p1
    replace p2 : w9.cell? ⟨w2.heap.size, 1, none⟩ = some (.int .i64 B) := (s9.cell (p := ⟨w2.heap.size, 1, none⟩) (show w2.heap.size < w8.heap.size by omega)).trans p2
    replace p3 : w9.cell? ⟨w2.heap.size, 2, none⟩ = some (.int .i64 T) := (s9.cell (p := ⟨w2.heap.size, 2, none⟩) (show w2.heap.size < w8.heap.size by omega)).trans p3
    replace p4 : w9.cell? ⟨w6.heap.size, 0, none⟩ = some (.int .i64 (100 + u)) := (s9.cell (p := ⟨w6.heap.size, 0, none⟩) (show w6.heap.size < w8.heap.size by omega)).trans p4
    replace p5 : w9.cell? ⟨w6.heap.size, 1, none⟩ = some (.int .i64 B) := (s9.cell (p := ⟨w6.heap.size, 1, none⟩) (show w6.heap.size < w8.heap.size by omega)).trans p5
    replace p6 : w9.cell? ⟨w6.heap.size, 2, none⟩ = some (.int .i64 q) := (s9.cell (p := ⟨w6.heap.size, 2, none⟩) (show w6.heap.size < w8.heap.size by omega)).trans p6
    replace p7 : w9.cell? ⟨w7.heap.size, 0, none⟩ = some (.int .i64 nr) := (s9.cell (p := ⟨w7.heap.size, 0, none⟩) (show w7.heap.size < w8.heap.size by omega)).trans p7
    replace p8 : w9.cell? ⟨w7.heap.size, 1, none⟩ = some (.int .i64 dr) := (s9.cell (p := ⟨w7.heap.size, 1, none⟩) (show w7.heap.size < w8.heap.size by omega)).trans p8
    replace y_w2 : w2.heap.size < w9.heap.size := by omega
    replace y_w6 : w6.heap.size < w9.heap.size := by omega
    replace y_w7 : w7.heap.size < w9.heap.size := by omega
    clear hb9 s9
    go_wp2
    go_ret
    exact ⟨rfl, by first | exact b9 | go_grown⟩
  · have ht : 1 + v ≤ B := by omega
    by_cases hu : 1 + v ≤ T
    · have hu' : True := trivial
      obtain ⟨a, ha⟩ : ∃ a, a = L := ⟨_, rfl⟩
      have k3 : (1 + v) * L ≤ thk L B T a := by rw [ha]; exact len_all (by omega) hu
      have HA := Lib.hid ha
      have k1 : 0 ≤ a := by omega
      have k2 : a ≤ L := by omega
      have k5 : ¬ a < L := by omega
      clear ha
      have HL : Hid (∀ W : World, Calls Tryd.prog 7 #[.agg #[.int .i64 L, .int .i64 B, .int .i64 T], .int .i64 (1 + v)] W fun e w' => e = .returned (.tuple #[.int .i64 a, .int .i64 0]) ∧ Below W.heap.size W w') := fun W => by rw [HA.out]; exact len_i_all L B T (1 + v) HR.out HT.out ht hu W
      go_wp2_with fail
      refine (HL.out _).mono ?_
      rintro e w4 ⟨rfl, hb4⟩
      have z4 := hb4.size
      try simp at z4
      have s4 : Below w3.heap.size w3 w4 := Below.trans (by go_grown) (hb4.mono (by first | omega | (simp; done) | (simp; omega)))
      have b4 : Below w.heap.size w w4 := b3.trans (s4.mono (by omega))
      replace p1 : w4.cell? ⟨w2.heap.size, 0, none⟩ = some (.int .i64 L) := (s4.cell (p := ⟨w2.heap.size, 0, none⟩) (show w2.heap.size < w3.heap.size by omega)).trans p1
      replace p2 : w4.cell? ⟨w2.heap.size, 1, none⟩ = some (.int .i64 B) := (s4.cell (p := ⟨w2.heap.size, 1, none⟩) (show w2.heap.size < w3.heap.size by omega)).trans p2
      replace p3 : w4.cell? ⟨w2.heap.size, 2, none⟩ = some (.int .i64 T) := (s4.cell (p := ⟨w2.heap.size, 2, none⟩) (show w2.heap.size < w3.heap.size by omega)).trans p3
      replace y_w2 : w2.heap.size < w4.heap.size := by omega
      clear hb4 s4
      clear HL
      obtain ⟨Np, hNp⟩ : ∃ N, thk L B T (a) = N := ⟨_, rfl⟩
      obtain ⟨y1p, y2p, y3p, y4p, y5p, y6p, y7p⟩ := thk_bd HR.out (show 0 ≤ a by omega) (show a ≤ L by omega)
      have N0p : 0 ≤ Np := by rw [← hNp]; unfold thk; omega
      have N1p : Np ≤ 900000 := by rw [← hNp]; unfold thk; omega
      obtain ⟨f1p, f2p, f3p, f4p, f5p, f6p⟩ := low_of N0p (show 1 ≤ L by omega)
      have HFp : Hid (∀ W : World, Calls Tryd.prog 8 #[.agg #[.int .i64 L, .int .i64 B, .int .i64 T], .int .i64 (a)] W fun e w' => e = .returned (.tuple #[.agg #[.int .i64 (Np / gcdI Np L), .int .i64 (L / gcdI Np L)], .int .i64 0]) ∧ Below W.heap.size W w') := fun W => by have := thickAt_i L B T (a) HR.out (inB_yes (by omega) (by omega)) W; rw [hNp] at this; exact this
      generalize Np / gcdI Np L = np at *
      generalize L / gcdI Np L = dp at *
      obtain ⟨z0p, z1p⟩ := prod_le (a := 1 + v) (b := dp) (x := 110) (y := 3000) (by omega) (by omega) (by omega) (by omega)
      have q1 : ¬ np < (1 + v) * dp := by have := (f6p (1 + v)).2 (by rw [← hNp]; exact k3); omega
      have q2 : np * L = (B * L - (B - T) * a) * dp := by rw [f5p, ← hNp]; rfl
      obtain ⟨z2, z3⟩ := prod_le (a := np) (b := L) (x := 900000) (y := 3000) (by omega) (by omega) (by omega) (by omega)
      obtain ⟨z4, z5⟩ := prod_le (a := B) (b := L) (x := 300) (y := 3000) (by omega) (by omega) (by omega) (by omega)
      obtain ⟨z6, z7⟩ := prod_le (a := B - T) (b := a) (x := 300) (y := 3000) (by omega) (by omega) (by omega) (by omega)
      have z8 : 0 ≤ (B * L - (B - T) * a) * dp := by rw [← q2]; exact z2
      have z9 : (B * L - (B - T) * a) * dp ≤ 2700000000 := by rw [← q2]; exact z3
      have q3 : (np * L != (B * L - (B - T) * a) * dp) = false := by simp [q2]
      have Q2 := Lib.hid q2
      clear q2
      clear hNp f5p f6p y1p y2p y3p y4p y5p y6p y7p
      go_wp2_with fail
      refine (HFp.out _).mono ?_
      rintro e w5 ⟨rfl, hb5⟩
      have z5 := hb5.size
      try simp at z5
      have s5 : Below w4.heap.size w4 w5 := Below.trans (by go_grown) (hb5.mono (by first | omega | (simp; done) | (simp; omega)))
      have b5 : Below w.heap.size w w5 := b4.trans (s5.mono (by omega))
      replace p1 : w5.cell? ⟨w2.heap.size, 0, none⟩ = some (.int .i64 L) := (s5.cell (p := ⟨w2.heap.size, 0, none⟩) (show w2.heap.size < w4.heap.size by omega)).trans p1
      replace p2 : w5.cell? ⟨w2.heap.size, 1, none⟩ = some (.int .i64 B) := (s5.cell (p := ⟨w2.heap.size, 1, none⟩) (show w2.heap.size < w4.heap.size by omega)).trans p2
      replace p3 : w5.cell? ⟨w2.heap.size, 2, none⟩ = some (.int .i64 T) := (s5.cell (p := ⟨w2.heap.size, 2, none⟩) (show w2.heap.size < w4.heap.size by omega)).trans p3
      replace y_w2 : w2.heap.size < w5.heap.size := by omega
      clear hb5 s5
      clear HFp
      go_wp2_with fail
      refine (at_b A2 m c2 X2 1 (L - 99) (L - 100) _ hm (by omega) (by omega) (by omega) (HX2.out.below (w' := _) (K := w.heap.size) (by first | exact b5 | go_grown) (Nat.le_refl _))).mono ?_
      rintro e w6 ⟨u, rfl, u0, u1, hb6⟩
      have z6 := hb6.size
      try simp at z6
      have s6 : Below w5.heap.size w5 w6 := Below.trans (by go_grown) (hb6.mono (by first | omega | (simp; done) | (simp; omega)))
      have b6 : Below w.heap.size w w6 := b5.trans (s6.mono (by omega))
      replace p1 : w6.cell? ⟨w2.heap.size, 0, none⟩ = some (.int .i64 L) := (s6.cell (p := ⟨w2.heap.size, 0, none⟩) (show w2.heap.size < w5.heap.size by omega)).trans p1
      replace p2 : w6.cell? ⟨w2.heap.size, 1, none⟩ = some (.int .i64 B) := (s6.cell (p := ⟨w2.heap.size, 1, none⟩) (show w2.heap.size < w5.heap.size by omega)).trans p2
      replace p3 : w6.cell? ⟨w2.heap.size, 2, none⟩ = some (.int .i64 T) := (s6.cell (p := ⟨w2.heap.size, 2, none⟩) (show w2.heap.size < w5.heap.size by omega)).trans p3
      have p4 : w6.cell? ⟨w5.heap.size, 0, none⟩ = some (.int .i64 np) := by rw [(bcell hb6).1 _ _ (by first | omega | (simp; done) | (simp; omega))]; go_simp
      have p5 : w6.cell? ⟨w5.heap.size, 1, none⟩ = some (.int .i64 dp) := by rw [(bcell hb6).1 _ _ (by first | omega | (simp; done) | (simp; omega))]; go_simp
      replace y_w2 : w2.heap.size < w6.heap.size := by omega
      have y_w5 : w5.heap.size < w6.heap.size := by omega
      clear hb6 s6
      have l1 : 100 ≤ 100 + u := by omega
      have l2 : 100 + u ≤ L := by omega
      obtain ⟨Nr, hNr⟩ : ∃ N, thk L B T (100 + u) = N := ⟨_, rfl⟩
      obtain ⟨y1r, y2r, y3r, y4r, y5r, y6r, y7r⟩ := thk_bd HR.out (show 0 ≤ 100 + u by omega) l2
      have N0r : 0 ≤ Nr := by rw [← hNr]; unfold thk; omega
      have N1r : Nr ≤ 900000 := by rw [← hNr]; unfold thk; omega
      obtain ⟨g1, g2, g3, g4, g5, g6⟩ := low_of N0r (show 1 ≤ L by omega)
      obtain ⟨j1, j2⟩ := tip_of (N := Nr) (show 1 ≤ L by omega)
      have j0 : 0 ≤ Nr / L := Int.ediv_nonneg N0r (by omega)
      have j3 : Nr / L ≤ Nr := Int.ediv_le_self _ N0r
      have HC : Hid (∀ W : World, Calls Tryd.prog 9 #[.agg #[.int .i64 L, .int .i64 B, .int .i64 T], .int .i64 (100 + u)] W fun e w' => e = .returned (.tuple #[.agg #[.int .i64 (100 + u), .int .i64 B, .int .i64 (Nr / L)], .int .i64 0]) ∧ Below W.heap.size W w') := fun W => by have := cut_i L B T (100 + u) HR.out (inB_yes l1 l2) W; rw [hNr] at this; exact this
      have HG : Hid (∀ W : World, Calls Tryd.prog 10 #[.agg #[.int .i64 L, .int .i64 B, .int .i64 T], .int .i64 ((100 + u))] W fun e w' => e = .returned (.tuple #[.agg #[.int .i64 (Nr / gcdI Nr L), .int .i64 (L / gcdI Nr L)], .int .i64 0]) ∧ Below W.heap.size W w') := fun W => by have := thickAt_s L B T (100 + u) HR.out (inB_yes (by omega) l2) W; rw [hNr] at this; exact this
      generalize Nr / L = q at *
      generalize Nr / gcdI Nr L = nr at *
      generalize L / gcdI Nr L = dr at *
      have s1 : q * dr ≤ nr := (g6 q).2 j1
      have s2 : nr < (q + 1) * dr := by have := fun h => (g6 (q + 1)).1 h; omega
      obtain ⟨s3, s4⟩ := prod_le (a := q) (b := dr) (x := 900000) (y := 3000) (by omega) (by omega) (by omega) (by omega)
      obtain ⟨s5, s6⟩ := prod_le (a := q + 1) (b := dr) (x := 900001) (y := 3000) (by omega) (by omega) (by omega) (by omega)
      clear hNr g5 g6 y1r y2r y3r y4r y5r y6r y7r j1 j2
      go_wp2_with fail
      refine (HC.out _).mono ?_
      rintro e w7 ⟨rfl, hb7⟩
      have z7 := hb7.size
      try simp at z7
      have s7 : Below w6.heap.size w6 w7 := Below.trans (by go_grown) (hb7.mono (by first | omega | (simp; done) | (simp; omega)))
      have b7 : Below w.heap.size w w7 := b6.trans (s7.mono (by omega))
      replace p1 : w7.cell? ⟨w2.heap.size, 0, none⟩ = some (.int .i64 L) := (s7.cell (p := ⟨w2.heap.size, 0, none⟩) (show w2.heap.size < w6.heap.size by omega)).trans p1
      replace p2 : w7.cell? ⟨w2.heap.size, 1, none⟩ = some (.int .i64 B) := (s7.cell (p := ⟨w2.heap.size, 1, none⟩) (show w2.heap.size < w6.heap.size by omega)).trans p2
      replace p3 : w7.cell? ⟨w2.heap.size, 2, none⟩ = some (.int .i64 T) := (s7.cell (p := ⟨w2.heap.size, 2, none⟩) (show w2.heap.size < w6.heap.size by omega)).trans p3
      replace p4 : w7.cell? ⟨w5.heap.size, 0, none⟩ = some (.int .i64 np) := (s7.cell (p := ⟨w5.heap.size, 0, none⟩) (show w5.heap.size < w6.heap.size by omega)).trans p4
      replace p5 : w7.cell? ⟨w5.heap.size, 1, none⟩ = some (.int .i64 dp) := (s7.cell (p := ⟨w5.heap.size, 1, none⟩) (show w5.heap.size < w6.heap.size by omega)).trans p5
      replace y_w2 : w2.heap.size < w7.heap.size := by omega
      replace y_w5 : w5.heap.size < w7.heap.size := by omega
      clear hb7 s7
      go_wp2_with fail
      refine (HG.out _).mono ?_
      rintro e w8 ⟨rfl, hb8⟩
      have z8 := hb8.size
      try simp at z8
      have s8 : Below w7.heap.size w7 w8 := Below.trans (by go_grown) (hb8.mono (by first | omega | (simp; done) | (simp; omega)))
      have b8 : Below w.heap.size w w8 := b7.trans (s8.mono (by omega))
      replace p1 : w8.cell? ⟨w2.heap.size, 0, none⟩ = some (.int .i64 L) := (s8.cell (p := ⟨w2.heap.size, 0, none⟩) (show w2.heap.size < w7.heap.size by omega)).trans p1
      replace p2 : w8.cell? ⟨w2.heap.size, 1, none⟩ = some (.int .i64 B) := (s8.cell (p := ⟨w2.heap.size, 1, none⟩) (show w2.heap.size < w7.heap.size by omega)).trans p2
      replace p3 : w8.cell? ⟨w2.heap.size, 2, none⟩ = some (.int .i64 T) := (s8.cell (p := ⟨w2.heap.size, 2, none⟩) (show w2.heap.size < w7.heap.size by omega)).trans p3
      replace p4 : w8.cell? ⟨w5.heap.size, 0, none⟩ = some (.int .i64 np) := (s8.cell (p := ⟨w5.heap.size, 0, none⟩) (show w5.heap.size < w7.heap.size by omega)).trans p4
      replace p5 : w8.cell? ⟨w5.heap.size, 1, none⟩ = some (.int .i64 dp) := (s8.cell (p := ⟨w5.heap.size, 1, none⟩) (show w5.heap.size < w7.heap.size by omega)).trans p5
      have p6 : w8.cell? ⟨w7.heap.size, 0, none⟩ = some (.int .i64 (100 + u)) := by rw [(bcell hb8).1 _ _ (by first | omega | (simp; done) | (simp; omega))]; go_simp
      have p7 : w8.cell? ⟨w7.heap.size, 1, none⟩ = some (.int .i64 B) := by rw [(bcell hb8).1 _ _ (by first | omega | (simp; done) | (simp; omega))]; go_simp
      have p8 : w8.cell? ⟨w7.heap.size, 2, none⟩ = some (.int .i64 q) := by rw [(bcell hb8).1 _ _ (by first | omega | (simp; done) | (simp; omega))]; go_simp
      replace y_w2 : w2.heap.size < w8.heap.size := by omega
      replace y_w5 : w5.heap.size < w8.heap.size := by omega
      have y_w7 : w7.heap.size < w8.heap.size := by omega
      clear hb8 s8
      obtain ⟨tx, htx⟩ : ∃ tx, rodT L B T = tx := ⟨_, rfl⟩
      have HTX : Hid (∀ W : World, Below w.heap.size w W → Calls Tryd.prog 12 #[.agg #[.int .i64 L, .int .i64 B, .int .i64 T]] W fun e w' => e = .returned (.string tx) ∧ Below W.heap.size W w') := fun W hW => by rw [← htx]; exact htext.out L B T W HR.out hW
      have HRX : Hid (∀ W : World, Below w.heap.size w W → Calls Tryd.prog 11 #[.string tx] W fun e w' => e = .returned (.tuple #[.agg #[.int .i64 L, .int .i64 B, .int .i64 T], .bool true]) ∧ Below W.heap.size W w') := fun W hW => by rw [← htx]; exact hread.out L B T W HR.out hW
      clear htx
      go_wp2_with fail
      refine (HTX.out _ (by first | exact b8 | go_grown)).mono ?_
      rintro e w9 ⟨rfl, hb9⟩
      have z9 := hb9.size
      try simp at z9
      have s9 : Below w8.heap.size w8 w9 := Below.trans (by go_grown) (hb9.mono (by first | omega | (simp; done) | (simp; omega)))
      have b9 : Below w.heap.size w w9 := b8.trans (s9.mono (by omega))
      replace p1 : w9.cell? ⟨w2.heap.size, 0, none⟩ = some (.int .i64 L) := (s9.cell (p := ⟨w2.heap.size, 0, none⟩) (show w2.heap.size < w8.heap.size by omega)).trans p1
      replace p2 : w9.cell? ⟨w2.heap.size, 1, none⟩ = some (.int .i64 B) := (s9.cell (p := ⟨w2.heap.size, 1, none⟩) (show w2.heap.size < w8.heap.size by omega)).trans p2
      replace p3 : w9.cell? ⟨w2.heap.size, 2, none⟩ = some (.int .i64 T) := (s9.cell (p := ⟨w2.heap.size, 2, none⟩) (show w2.heap.size < w8.heap.size by omega)).trans p3
      replace p4 : w9.cell? ⟨w5.heap.size, 0, none⟩ = some (.int .i64 np) := (s9.cell (p := ⟨w5.heap.size, 0, none⟩) (show w5.heap.size < w8.heap.size by omega)).trans p4
      replace p5 : w9.cell? ⟨w5.heap.size, 1, none⟩ = some (.int .i64 dp) := (s9.cell (p := ⟨w5.heap.size, 1, none⟩) (show w5.heap.size < w8.heap.size by omega)).trans p5
      replace p6 : w9.cell? ⟨w7.heap.size, 0, none⟩ = some (.int .i64 (100 + u)) := (s9.cell (p := ⟨w7.heap.size, 0, none⟩) (show w7.heap.size < w8.heap.size by omega)).trans p6
      replace p7 : w9.cell? ⟨w7.heap.size, 1, none⟩ = some (.int .i64 B) := (s9.cell (p := ⟨w7.heap.size, 1, none⟩) (show w7.heap.size < w8.heap.size by omega)).trans p7
      replace p8 : w9.cell? ⟨w7.heap.size, 2, none⟩ = some (.int .i64 q) := (s9.cell (p := ⟨w7.heap.size, 2, none⟩) (show w7.heap.size < w8.heap.size by omega)).trans p8
      have p9 : w9.cell? ⟨w8.heap.size, 0, none⟩ = some (.int .i64 nr) := by rw [(bcell hb9).1 _ _ (by first | omega | (simp; done) | (simp; omega))]; go_simp
      have p10 : w9.cell? ⟨w8.heap.size, 1, none⟩ = some (.int .i64 dr) := by rw [(bcell hb9).1 _ _ (by first | omega | (simp; done) | (simp; omega))]; go_simp
      replace y_w2 : w2.heap.size < w9.heap.size := by omega
      replace y_w5 : w5.heap.size < w9.heap.size := by omega
      replace y_w7 : w7.heap.size < w9.heap.size := by omega
      have y_w8 : w8.heap.size < w9.heap.size := by omega
      clear hb9 s9
      go_wp2_with fail
      refine (HRX.out _ (by first | exact b9 | go_grown)).mono ?_
      rintro e w10 ⟨rfl, hb10⟩
      have z10 := hb10.size
      try simp at z10
      have s10 : Below w9.heap.size w9 w10 := Below.trans (by go_grown) (hb10.mono (by first | omega | (simp; done) | (simp; omega)))
      have b10 : Below w.heap.size w w10 := b9.trans (s10.mono (by omega))
      replace p1 : w10.cell? ⟨w2.heap.size, 0, none⟩ = some (.int .i64 L) := (s10.cell (p := ⟨w2.heap.size, 0, none⟩) (show w2.heap.size < w9.heap.size by omega)).trans p1
      replace p2 : w10.cell? ⟨w2.heap.size, 1, none⟩ = some (.int .i64 B) := (s10.cell (p := ⟨w2.heap.size, 1, none⟩) (show w2.heap.size < w9.heap.size by omega)).trans p2
      replace p3 : w10.cell? ⟨w2.heap.size, 2, none⟩ = some (.int .i64 T) := (s10.cell (p := ⟨w2.heap.size, 2, none⟩) (show w2.heap.size < w9.heap.size by omega)).trans p3
      replace p4 : w10.cell? ⟨w5.heap.size, 0, none⟩ = some (.int .i64 np) := (s10.cell (p := ⟨w5.heap.size, 0, none⟩) (show w5.heap.size < w9.heap.size by omega)).trans p4
      replace p5 : w10.cell? ⟨w5.heap.size, 1, none⟩ = some (.int .i64 dp) := (s10.cell (p := ⟨w5.heap.size, 1, none⟩) (show w5.heap.size < w9.heap.size by omega)).trans p5
      replace p6 : w10.cell? ⟨w7.heap.size, 0, none⟩ = some (.int .i64 (100 + u)) := (s10.cell (p := ⟨w7.heap.size, 0, none⟩) (show w7.heap.size < w9.heap.size by omega)).trans p6
      replace p7 : w10.cell? ⟨w7.heap.size, 1, none⟩ = some (.int .i64 B) := (s10.cell (p := ⟨w7.heap.size, 1, none⟩) (show w7.heap.size < w9.heap.size by omega)).trans p7
      replace p8 : w10.cell? ⟨w7.heap.size, 2, none⟩ = some (.int .i64 q) := (s10.cell (p := ⟨w7.heap.size, 2, none⟩) (show w7.heap.size < w9.heap.size by omega)).trans p8
      replace p9 : w10.cell? ⟨w8.heap.size, 0, none⟩ = some (.int .i64 nr) := (s10.cell (p := ⟨w8.heap.size, 0, none⟩) (show w8.heap.size < w9.heap.size by omega)).trans p9
      replace p10 : w10.cell? ⟨w8.heap.size, 1, none⟩ = some (.int .i64 dr) := (s10.cell (p := ⟨w8.heap.size, 1, none⟩) (show w8.heap.size < w9.heap.size by omega)).trans p10
      replace y_w2 : w2.heap.size < w10.heap.size := by omega
      replace y_w5 : w5.heap.size < w10.heap.size := by omega
      replace y_w7 : w7.heap.size < w10.heap.size := by omega
      replace y_w8 : w8.heap.size < w10.heap.size := by omega
      clear hb10 s10
      go_wp2
      go_ret
      exact ⟨rfl, by first | exact b10 | go_grown⟩
    · have hu : T < 1 + v := by omega
      obtain ⟨k1, k5, k3, k4⟩ := len_part (L := L) (by omega) hu ht r5
      have HL : Hid (∀ W : World, Calls Tryd.prog 7 #[.agg #[.int .i64 L, .int .i64 B, .int .i64 T], .int .i64 (1 + v)] W fun e w' => e = .returned (.tuple #[.int .i64 ((B - (1 + v)) * L / (B - T)), .int .i64 0]) ∧ Below W.heap.size W w') := fun W => len_i_part L B T (1 + v) HR.out HT.out ht hu W
      generalize (B - (1 + v)) * L / (B - T) = a at *
      have k2 : a ≤ L := by omega
      go_wp2_with fail
      refine (HL.out _).mono ?_
      rintro e w4 ⟨rfl, hb4⟩
      have z4 := hb4.size
      try simp at z4
      have s4 : Below w3.heap.size w3 w4 := Below.trans (by go_grown) (hb4.mono (by first | omega | (simp; done) | (simp; omega)))
      have b4 : Below w.heap.size w w4 := b3.trans (s4.mono (by omega))
      replace p1 : w4.cell? ⟨w2.heap.size, 0, none⟩ = some (.int .i64 L) := (s4.cell (p := ⟨w2.heap.size, 0, none⟩) (show w2.heap.size < w3.heap.size by omega)).trans p1
      replace p2 : w4.cell? ⟨w2.heap.size, 1, none⟩ = some (.int .i64 B) := (s4.cell (p := ⟨w2.heap.size, 1, none⟩) (show w2.heap.size < w3.heap.size by omega)).trans p2
      replace p3 : w4.cell? ⟨w2.heap.size, 2, none⟩ = some (.int .i64 T) := (s4.cell (p := ⟨w2.heap.size, 2, none⟩) (show w2.heap.size < w3.heap.size by omega)).trans p3
      replace y_w2 : w2.heap.size < w4.heap.size := by omega
      clear hb4 s4
      clear HL
      obtain ⟨Np, hNp⟩ : ∃ N, thk L B T (a) = N := ⟨_, rfl⟩
      obtain ⟨y1p, y2p, y3p, y4p, y5p, y6p, y7p⟩ := thk_bd HR.out (show 0 ≤ a by omega) (show a ≤ L by omega)
      have N0p : 0 ≤ Np := by rw [← hNp]; unfold thk; omega
      have N1p : Np ≤ 900000 := by rw [← hNp]; unfold thk; omega
      obtain ⟨f1p, f2p, f3p, f4p, f5p, f6p⟩ := low_of N0p (show 1 ≤ L by omega)
      have HFp : Hid (∀ W : World, Calls Tryd.prog 8 #[.agg #[.int .i64 L, .int .i64 B, .int .i64 T], .int .i64 (a)] W fun e w' => e = .returned (.tuple #[.agg #[.int .i64 (Np / gcdI Np L), .int .i64 (L / gcdI Np L)], .int .i64 0]) ∧ Below W.heap.size W w') := fun W => by have := thickAt_i L B T (a) HR.out (inB_yes (by omega) (by omega)) W; rw [hNp] at this; exact this
      generalize Np / gcdI Np L = np at *
      generalize L / gcdI Np L = dp at *
      obtain ⟨z0p, z1p⟩ := prod_le (a := 1 + v) (b := dp) (x := 110) (y := 3000) (by omega) (by omega) (by omega) (by omega)
      have q1 : ¬ np < (1 + v) * dp := by have := (f6p (1 + v)).2 (by rw [← hNp]; exact k3); omega
      have q2 : np * L = (B * L - (B - T) * a) * dp := by rw [f5p, ← hNp]; rfl
      obtain ⟨z2, z3⟩ := prod_le (a := np) (b := L) (x := 900000) (y := 3000) (by omega) (by omega) (by omega) (by omega)
      obtain ⟨z4, z5⟩ := prod_le (a := B) (b := L) (x := 300) (y := 3000) (by omega) (by omega) (by omega) (by omega)
      obtain ⟨z6, z7⟩ := prod_le (a := B - T) (b := a) (x := 300) (y := 3000) (by omega) (by omega) (by omega) (by omega)
      have z8 : 0 ≤ (B * L - (B - T) * a) * dp := by rw [← q2]; exact z2
      have z9 : (B * L - (B - T) * a) * dp ≤ 2700000000 := by rw [← q2]; exact z3
      have q3 : (np * L != (B * L - (B - T) * a) * dp) = false := by simp [q2]
      have Q2 := Lib.hid q2
      clear q2
      clear hNp f5p f6p y1p y2p y3p y4p y5p y6p y7p
      go_wp2_with fail
      refine (HFp.out _).mono ?_
      rintro e w5 ⟨rfl, hb5⟩
      have z5 := hb5.size
      try simp at z5
      have s5 : Below w4.heap.size w4 w5 := Below.trans (by go_grown) (hb5.mono (by first | omega | (simp; done) | (simp; omega)))
      have b5 : Below w.heap.size w w5 := b4.trans (s5.mono (by omega))
      replace p1 : w5.cell? ⟨w2.heap.size, 0, none⟩ = some (.int .i64 L) := (s5.cell (p := ⟨w2.heap.size, 0, none⟩) (show w2.heap.size < w4.heap.size by omega)).trans p1
      replace p2 : w5.cell? ⟨w2.heap.size, 1, none⟩ = some (.int .i64 B) := (s5.cell (p := ⟨w2.heap.size, 1, none⟩) (show w2.heap.size < w4.heap.size by omega)).trans p2
      replace p3 : w5.cell? ⟨w2.heap.size, 2, none⟩ = some (.int .i64 T) := (s5.cell (p := ⟨w2.heap.size, 2, none⟩) (show w2.heap.size < w4.heap.size by omega)).trans p3
      replace y_w2 : w2.heap.size < w5.heap.size := by omega
      clear hb5 s5
      clear HFp
      obtain ⟨Nq, hNq⟩ : ∃ N, thk L B T (a + 1) = N := ⟨_, rfl⟩
      obtain ⟨y1q, y2q, y3q, y4q, y5q, y6q, y7q⟩ := thk_bd HR.out (show 0 ≤ a + 1 by omega) (show a + 1 ≤ L by omega)
      have N0q : 0 ≤ Nq := by rw [← hNq]; unfold thk; omega
      have N1q : Nq ≤ 900000 := by rw [← hNq]; unfold thk; omega
      obtain ⟨f1q, f2q, f3q, f4q, f5q, f6q⟩ := low_of N0q (show 1 ≤ L by omega)
      have HFq : Hid (∀ W : World, Calls Tryd.prog 8 #[.agg #[.int .i64 L, .int .i64 B, .int .i64 T], .int .i64 (a + 1)] W fun e w' => e = .returned (.tuple #[.agg #[.int .i64 (Nq / gcdI Nq L), .int .i64 (L / gcdI Nq L)], .int .i64 0]) ∧ Below W.heap.size W w') := fun W => by have := thickAt_i L B T (a + 1) HR.out (inB_yes (by omega) (by omega)) W; rw [hNq] at this; exact this
      generalize Nq / gcdI Nq L = nq at *
      generalize L / gcdI Nq L = dq at *
      obtain ⟨z0q, z1q⟩ := prod_le (a := 1 + v) (b := dq) (x := 110) (y := 3000) (by omega) (by omega) (by omega) (by omega)
      have q4 : ¬ (1 + v) * dq ≤ nq := fun h => by have := (f6q (1 + v)).1 h; rw [← hNq] at this; omega
      have q5 : nq < (1 + v) * dq := by omega
      clear hNq f5q f6q y1q y2q y3q y4q y5q y6q y7q
      go_wp2_with fail
      refine (HFq.out _).mono ?_
      rintro e w6 ⟨rfl, hb6⟩
      have z6 := hb6.size
      try simp at z6
      have s6 : Below w5.heap.size w5 w6 := Below.trans (by go_grown) (hb6.mono (by first | omega | (simp; done) | (simp; omega)))
      have b6 : Below w.heap.size w w6 := b5.trans (s6.mono (by omega))
      replace p1 : w6.cell? ⟨w2.heap.size, 0, none⟩ = some (.int .i64 L) := (s6.cell (p := ⟨w2.heap.size, 0, none⟩) (show w2.heap.size < w5.heap.size by omega)).trans p1
      replace p2 : w6.cell? ⟨w2.heap.size, 1, none⟩ = some (.int .i64 B) := (s6.cell (p := ⟨w2.heap.size, 1, none⟩) (show w2.heap.size < w5.heap.size by omega)).trans p2
      replace p3 : w6.cell? ⟨w2.heap.size, 2, none⟩ = some (.int .i64 T) := (s6.cell (p := ⟨w2.heap.size, 2, none⟩) (show w2.heap.size < w5.heap.size by omega)).trans p3
      have p4 : w6.cell? ⟨w5.heap.size, 0, none⟩ = some (.int .i64 np) := by rw [(bcell hb6).1 _ _ (by first | omega | (simp; done) | (simp; omega))]; go_simp
      have p5 : w6.cell? ⟨w5.heap.size, 1, none⟩ = some (.int .i64 dp) := by rw [(bcell hb6).1 _ _ (by first | omega | (simp; done) | (simp; omega))]; go_simp
      replace y_w2 : w2.heap.size < w6.heap.size := by omega
      have y_w5 : w5.heap.size < w6.heap.size := by omega
      clear hb6 s6
      clear HFq
      go_wp2_with fail
      refine (at_b A2 m c2 X2 1 (L - 99) (L - 100) _ hm (by omega) (by omega) (by omega) (HX2.out.below (w' := _) (K := w.heap.size) (by first | exact b6 | go_grown) (Nat.le_refl _))).mono ?_
      rintro e w7 ⟨u, rfl, u0, u1, hb7⟩
      have z7 := hb7.size
      try simp at z7
      have s7 : Below w6.heap.size w6 w7 := Below.trans (by go_grown) (hb7.mono (by first | omega | (simp; done) | (simp; omega)))
      have b7 : Below w.heap.size w w7 := b6.trans (s7.mono (by omega))
      replace p1 : w7.cell? ⟨w2.heap.size, 0, none⟩ = some (.int .i64 L) := (s7.cell (p := ⟨w2.heap.size, 0, none⟩) (show w2.heap.size < w6.heap.size by omega)).trans p1
      replace p2 : w7.cell? ⟨w2.heap.size, 1, none⟩ = some (.int .i64 B) := (s7.cell (p := ⟨w2.heap.size, 1, none⟩) (show w2.heap.size < w6.heap.size by omega)).trans p2
      replace p3 : w7.cell? ⟨w2.heap.size, 2, none⟩ = some (.int .i64 T) := (s7.cell (p := ⟨w2.heap.size, 2, none⟩) (show w2.heap.size < w6.heap.size by omega)).trans p3
      replace p4 : w7.cell? ⟨w5.heap.size, 0, none⟩ = some (.int .i64 np) := (s7.cell (p := ⟨w5.heap.size, 0, none⟩) (show w5.heap.size < w6.heap.size by omega)).trans p4
      replace p5 : w7.cell? ⟨w5.heap.size, 1, none⟩ = some (.int .i64 dp) := (s7.cell (p := ⟨w5.heap.size, 1, none⟩) (show w5.heap.size < w6.heap.size by omega)).trans p5
      have p6 : w7.cell? ⟨w6.heap.size, 0, none⟩ = some (.int .i64 nq) := by rw [(bcell hb7).1 _ _ (by first | omega | (simp; done) | (simp; omega))]; go_simp
      have p7 : w7.cell? ⟨w6.heap.size, 1, none⟩ = some (.int .i64 dq) := by rw [(bcell hb7).1 _ _ (by first | omega | (simp; done) | (simp; omega))]; go_simp
      replace y_w2 : w2.heap.size < w7.heap.size := by omega
      replace y_w5 : w5.heap.size < w7.heap.size := by omega
      have y_w6 : w6.heap.size < w7.heap.size := by omega
      clear hb7 s7
      have l1 : 100 ≤ 100 + u := by omega
      have l2 : 100 + u ≤ L := by omega
      obtain ⟨Nr, hNr⟩ : ∃ N, thk L B T (100 + u) = N := ⟨_, rfl⟩
      obtain ⟨y1r, y2r, y3r, y4r, y5r, y6r, y7r⟩ := thk_bd HR.out (show 0 ≤ 100 + u by omega) l2
      have N0r : 0 ≤ Nr := by rw [← hNr]; unfold thk; omega
      have N1r : Nr ≤ 900000 := by rw [← hNr]; unfold thk; omega
      obtain ⟨g1, g2, g3, g4, g5, g6⟩ := low_of N0r (show 1 ≤ L by omega)
      obtain ⟨j1, j2⟩ := tip_of (N := Nr) (show 1 ≤ L by omega)
      have j0 : 0 ≤ Nr / L := Int.ediv_nonneg N0r (by omega)
      have j3 : Nr / L ≤ Nr := Int.ediv_le_self _ N0r
      have HC : Hid (∀ W : World, Calls Tryd.prog 9 #[.agg #[.int .i64 L, .int .i64 B, .int .i64 T], .int .i64 (100 + u)] W fun e w' => e = .returned (.tuple #[.agg #[.int .i64 (100 + u), .int .i64 B, .int .i64 (Nr / L)], .int .i64 0]) ∧ Below W.heap.size W w') := fun W => by have := cut_i L B T (100 + u) HR.out (inB_yes l1 l2) W; rw [hNr] at this; exact this
      have HG : Hid (∀ W : World, Calls Tryd.prog 10 #[.agg #[.int .i64 L, .int .i64 B, .int .i64 T], .int .i64 ((100 + u))] W fun e w' => e = .returned (.tuple #[.agg #[.int .i64 (Nr / gcdI Nr L), .int .i64 (L / gcdI Nr L)], .int .i64 0]) ∧ Below W.heap.size W w') := fun W => by have := thickAt_s L B T (100 + u) HR.out (inB_yes (by omega) l2) W; rw [hNr] at this; exact this
      generalize Nr / L = q at *
      generalize Nr / gcdI Nr L = nr at *
      generalize L / gcdI Nr L = dr at *
      have s1 : q * dr ≤ nr := (g6 q).2 j1
      have s2 : nr < (q + 1) * dr := by have := fun h => (g6 (q + 1)).1 h; omega
      obtain ⟨s3, s4⟩ := prod_le (a := q) (b := dr) (x := 900000) (y := 3000) (by omega) (by omega) (by omega) (by omega)
      obtain ⟨s5, s6⟩ := prod_le (a := q + 1) (b := dr) (x := 900001) (y := 3000) (by omega) (by omega) (by omega) (by omega)
      clear hNr g5 g6 y1r y2r y3r y4r y5r y6r y7r j1 j2
      go_wp2_with fail
      refine (HC.out _).mono ?_
      rintro e w8 ⟨rfl, hb8⟩
      have z8 := hb8.size
      try simp at z8
      have s8 : Below w7.heap.size w7 w8 := Below.trans (by go_grown) (hb8.mono (by first | omega | (simp; done) | (simp; omega)))
      have b8 : Below w.heap.size w w8 := b7.trans (s8.mono (by omega))
      replace p1 : w8.cell? ⟨w2.heap.size, 0, none⟩ = some (.int .i64 L) := (s8.cell (p := ⟨w2.heap.size, 0, none⟩) (show w2.heap.size < w7.heap.size by omega)).trans p1
      replace p2 : w8.cell? ⟨w2.heap.size, 1, none⟩ = some (.int .i64 B) := (s8.cell (p := ⟨w2.heap.size, 1, none⟩) (show w2.heap.size < w7.heap.size by omega)).trans p2
      replace p3 : w8.cell? ⟨w2.heap.size, 2, none⟩ = some (.int .i64 T) := (s8.cell (p := ⟨w2.heap.size, 2, none⟩) (show w2.heap.size < w7.heap.size by omega)).trans p3
      replace p4 : w8.cell? ⟨w5.heap.size, 0, none⟩ = some (.int .i64 np) := (s8.cell (p := ⟨w5.heap.size, 0, none⟩) (show w5.heap.size < w7.heap.size by omega)).trans p4
      replace p5 : w8.cell? ⟨w5.heap.size, 1, none⟩ = some (.int .i64 dp) := (s8.cell (p := ⟨w5.heap.size, 1, none⟩) (show w5.heap.size < w7.heap.size by omega)).trans p5
      replace p6 : w8.cell? ⟨w6.heap.size, 0, none⟩ = some (.int .i64 nq) := (s8.cell (p := ⟨w6.heap.size, 0, none⟩) (show w6.heap.size < w7.heap.size by omega)).trans p6
      replace p7 : w8.cell? ⟨w6.heap.size, 1, none⟩ = some (.int .i64 dq) := (s8.cell (p := ⟨w6.heap.size, 1, none⟩) (show w6.heap.size < w7.heap.size by omega)).trans p7
      replace y_w2 : w2.heap.size < w8.heap.size := by omega
      replace y_w5 : w5.heap.size < w8.heap.size := by omega
      replace y_w6 : w6.heap.size < w8.heap.size := by omega
      clear hb8 s8
      go_wp2_with fail
      refine (HG.out _).mono ?_
      rintro e w9 ⟨rfl, hb9⟩
      have z9 := hb9.size
      try simp at z9
      have s9 : Below w8.heap.size w8 w9 := Below.trans (by go_grown) (hb9.mono (by first | omega | (simp; done) | (simp; omega)))
      have b9 : Below w.heap.size w w9 := b8.trans (s9.mono (by omega))
      replace p1 : w9.cell? ⟨w2.heap.size, 0, none⟩ = some (.int .i64 L) := (s9.cell (p := ⟨w2.heap.size, 0, none⟩) (show w2.heap.size < w8.heap.size by omega)).trans p1
      replace p2 : w9.cell? ⟨w2.heap.size, 1, none⟩ = some (.int .i64 B) := (s9.cell (p := ⟨w2.heap.size, 1, none⟩) (show w2.heap.size < w8.heap.size by omega)).trans p2
      replace p3 : w9.cell? ⟨w2.heap.size, 2, none⟩ = some (.int .i64 T) := (s9.cell (p := ⟨w2.heap.size, 2, none⟩) (show w2.heap.size < w8.heap.size by omega)).trans p3
      replace p4 : w9.cell? ⟨w5.heap.size, 0, none⟩ = some (.int .i64 np) := (s9.cell (p := ⟨w5.heap.size, 0, none⟩) (show w5.heap.size < w8.heap.size by omega)).trans p4
      replace p5 : w9.cell? ⟨w5.heap.size, 1, none⟩ = some (.int .i64 dp) := (s9.cell (p := ⟨w5.heap.size, 1, none⟩) (show w5.heap.size < w8.heap.size by omega)).trans p5
      replace p6 : w9.cell? ⟨w6.heap.size, 0, none⟩ = some (.int .i64 nq) := (s9.cell (p := ⟨w6.heap.size, 0, none⟩) (show w6.heap.size < w8.heap.size by omega)).trans p6
      replace p7 : w9.cell? ⟨w6.heap.size, 1, none⟩ = some (.int .i64 dq) := (s9.cell (p := ⟨w6.heap.size, 1, none⟩) (show w6.heap.size < w8.heap.size by omega)).trans p7
      have p8 : w9.cell? ⟨w8.heap.size, 0, none⟩ = some (.int .i64 (100 + u)) := by rw [(bcell hb9).1 _ _ (by first | omega | (simp; done) | (simp; omega))]; go_simp
      have p9 : w9.cell? ⟨w8.heap.size, 1, none⟩ = some (.int .i64 B) := by rw [(bcell hb9).1 _ _ (by first | omega | (simp; done) | (simp; omega))]; go_simp
      have p10 : w9.cell? ⟨w8.heap.size, 2, none⟩ = some (.int .i64 q) := by rw [(bcell hb9).1 _ _ (by first | omega | (simp; done) | (simp; omega))]; go_simp
      replace y_w2 : w2.heap.size < w9.heap.size := by omega
      replace y_w5 : w5.heap.size < w9.heap.size := by omega
      replace y_w6 : w6.heap.size < w9.heap.size := by omega
      have y_w8 : w8.heap.size < w9.heap.size := by omega
      clear hb9 s9
      obtain ⟨tx, htx⟩ : ∃ tx, rodT L B T = tx := ⟨_, rfl⟩
      have HTX : Hid (∀ W : World, Below w.heap.size w W → Calls Tryd.prog 12 #[.agg #[.int .i64 L, .int .i64 B, .int .i64 T]] W fun e w' => e = .returned (.string tx) ∧ Below W.heap.size W w') := fun W hW => by rw [← htx]; exact htext.out L B T W HR.out hW
      have HRX : Hid (∀ W : World, Below w.heap.size w W → Calls Tryd.prog 11 #[.string tx] W fun e w' => e = .returned (.tuple #[.agg #[.int .i64 L, .int .i64 B, .int .i64 T], .bool true]) ∧ Below W.heap.size W w') := fun W hW => by rw [← htx]; exact hread.out L B T W HR.out hW
      clear htx
      go_wp2_with fail
      refine (HTX.out _ (by first | exact b9 | go_grown)).mono ?_
      rintro e w10 ⟨rfl, hb10⟩
      have z10 := hb10.size
      try simp at z10
      have s10 : Below w9.heap.size w9 w10 := Below.trans (by go_grown) (hb10.mono (by first | omega | (simp; done) | (simp; omega)))
      have b10 : Below w.heap.size w w10 := b9.trans (s10.mono (by omega))
      replace p1 : w10.cell? ⟨w2.heap.size, 0, none⟩ = some (.int .i64 L) := (s10.cell (p := ⟨w2.heap.size, 0, none⟩) (show w2.heap.size < w9.heap.size by omega)).trans p1
      replace p2 : w10.cell? ⟨w2.heap.size, 1, none⟩ = some (.int .i64 B) := (s10.cell (p := ⟨w2.heap.size, 1, none⟩) (show w2.heap.size < w9.heap.size by omega)).trans p2
      replace p3 : w10.cell? ⟨w2.heap.size, 2, none⟩ = some (.int .i64 T) := (s10.cell (p := ⟨w2.heap.size, 2, none⟩) (show w2.heap.size < w9.heap.size by omega)).trans p3
      replace p4 : w10.cell? ⟨w5.heap.size, 0, none⟩ = some (.int .i64 np) := (s10.cell (p := ⟨w5.heap.size, 0, none⟩) (show w5.heap.size < w9.heap.size by omega)).trans p4
      replace p5 : w10.cell? ⟨w5.heap.size, 1, none⟩ = some (.int .i64 dp) := (s10.cell (p := ⟨w5.heap.size, 1, none⟩) (show w5.heap.size < w9.heap.size by omega)).trans p5
      replace p6 : w10.cell? ⟨w6.heap.size, 0, none⟩ = some (.int .i64 nq) := (s10.cell (p := ⟨w6.heap.size, 0, none⟩) (show w6.heap.size < w9.heap.size by omega)).trans p6
      replace p7 : w10.cell? ⟨w6.heap.size, 1, none⟩ = some (.int .i64 dq) := (s10.cell (p := ⟨w6.heap.size, 1, none⟩) (show w6.heap.size < w9.heap.size by omega)).trans p7
      replace p8 : w10.cell? ⟨w8.heap.size, 0, none⟩ = some (.int .i64 (100 + u)) := (s10.cell (p := ⟨w8.heap.size, 0, none⟩) (show w8.heap.size < w9.heap.size by omega)).trans p8
      replace p9 : w10.cell? ⟨w8.heap.size, 1, none⟩ = some (.int .i64 B) := (s10.cell (p := ⟨w8.heap.size, 1, none⟩) (show w8.heap.size < w9.heap.size by omega)).trans p9
      replace p10 : w10.cell? ⟨w8.heap.size, 2, none⟩ = some (.int .i64 q) := (s10.cell (p := ⟨w8.heap.size, 2, none⟩) (show w8.heap.size < w9.heap.size by omega)).trans p10
      have p11 : w10.cell? ⟨w9.heap.size, 0, none⟩ = some (.int .i64 nr) := by rw [(bcell hb10).1 _ _ (by first | omega | (simp; done) | (simp; omega))]; go_simp
      have p12 : w10.cell? ⟨w9.heap.size, 1, none⟩ = some (.int .i64 dr) := by rw [(bcell hb10).1 _ _ (by first | omega | (simp; done) | (simp; omega))]; go_simp
      replace y_w2 : w2.heap.size < w10.heap.size := by omega
      replace y_w5 : w5.heap.size < w10.heap.size := by omega
      replace y_w6 : w6.heap.size < w10.heap.size := by omega
      replace y_w8 : w8.heap.size < w10.heap.size := by omega
      have y_w9 : w9.heap.size < w10.heap.size := by omega
      clear hb10 s10
      go_wp2_with fail
      refine (HRX.out _ (by first | exact b10 | go_grown)).mono ?_
      rintro e w11 ⟨rfl, hb11⟩
      have z11 := hb11.size
      try simp at z11
      have s11 : Below w10.heap.size w10 w11 := Below.trans (by go_grown) (hb11.mono (by first | omega | (simp; done) | (simp; omega)))
      have b11 : Below w.heap.size w w11 := b10.trans (s11.mono (by omega))
      replace p1 : w11.cell? ⟨w2.heap.size, 0, none⟩ = some (.int .i64 L) := (s11.cell (p := ⟨w2.heap.size, 0, none⟩) (show w2.heap.size < w10.heap.size by omega)).trans p1
      replace p2 : w11.cell? ⟨w2.heap.size, 1, none⟩ = some (.int .i64 B) := (s11.cell (p := ⟨w2.heap.size, 1, none⟩) (show w2.heap.size < w10.heap.size by omega)).trans p2
      replace p3 : w11.cell? ⟨w2.heap.size, 2, none⟩ = some (.int .i64 T) := (s11.cell (p := ⟨w2.heap.size, 2, none⟩) (show w2.heap.size < w10.heap.size by omega)).trans p3
      replace p4 : w11.cell? ⟨w5.heap.size, 0, none⟩ = some (.int .i64 np) := (s11.cell (p := ⟨w5.heap.size, 0, none⟩) (show w5.heap.size < w10.heap.size by omega)).trans p4
      replace p5 : w11.cell? ⟨w5.heap.size, 1, none⟩ = some (.int .i64 dp) := (s11.cell (p := ⟨w5.heap.size, 1, none⟩) (show w5.heap.size < w10.heap.size by omega)).trans p5
      replace p6 : w11.cell? ⟨w6.heap.size, 0, none⟩ = some (.int .i64 nq) := (s11.cell (p := ⟨w6.heap.size, 0, none⟩) (show w6.heap.size < w10.heap.size by omega)).trans p6
      replace p7 : w11.cell? ⟨w6.heap.size, 1, none⟩ = some (.int .i64 dq) := (s11.cell (p := ⟨w6.heap.size, 1, none⟩) (show w6.heap.size < w10.heap.size by omega)).trans p7
      replace p8 : w11.cell? ⟨w8.heap.size, 0, none⟩ = some (.int .i64 (100 + u)) := (s11.cell (p := ⟨w8.heap.size, 0, none⟩) (show w8.heap.size < w10.heap.size by omega)).trans p8
      replace p9 : w11.cell? ⟨w8.heap.size, 1, none⟩ = some (.int .i64 B) := (s11.cell (p := ⟨w8.heap.size, 1, none⟩) (show w8.heap.size < w10.heap.size by omega)).trans p9
      replace p10 : w11.cell? ⟨w8.heap.size, 2, none⟩ = some (.int .i64 q) := (s11.cell (p := ⟨w8.heap.size, 2, none⟩) (show w8.heap.size < w10.heap.size by omega)).trans p10
      replace p11 : w11.cell? ⟨w9.heap.size, 0, none⟩ = some (.int .i64 nr) := (s11.cell (p := ⟨w9.heap.size, 0, none⟩) (show w9.heap.size < w10.heap.size by omega)).trans p11
      replace p12 : w11.cell? ⟨w9.heap.size, 1, none⟩ = some (.int .i64 dr) := (s11.cell (p := ⟨w9.heap.size, 1, none⟩) (show w9.heap.size < w10.heap.size by omega)).trans p12
      replace y_w2 : w2.heap.size < w11.heap.size := by omega
      replace y_w5 : w5.heap.size < w11.heap.size := by omega
      replace y_w6 : w6.heap.size < w11.heap.size := by omega
      replace y_w8 : w8.heap.size < w11.heap.size := by omega
      replace y_w9 : w9.heap.size < w11.heap.size := by omega
      clear hb11 s11
      go_wp2
      go_ret
      exact ⟨rfl, by first | exact b11 | go_grown⟩

end Go.Proofs.YtobohjfenjeckabDoor.src
