/-
  For every list of rods and all numbers, FnExactCountGrades returns true: CountGrades of the program gives the counts and the code of the model, keeps both lists, and its answer is memory of its own. No condition.
-/
import Derived.Test.YtcpaenmhnoagdabCount
import Derived.Test.YtcpaenmhnoagdabOpen
namespace Go.Proofs.Ytcpaenmhnoagdab.fnExactCountGrades
open Go.ChangeShapes Go.WideShapes Go.ChangeAt Go.RowKit Go.Joins
open Go.ChangeMaps (open_string shut_string)
open Go.Proofs.Ytcpaenmhnoagdab.rod Go.Proofs.Ytcpaenmhnoagdab.mem Go.Proofs.Ytcpaenmhnoagdab.nums
set_option linter.unusedVariables false

set_option maxHeartbeats 4000000 in
set_option maxRecDepth 100000 in
theorem core (A : Option Addr) (n c : Nat) (X : Nat → Int) (A2 : Option Addr) (m c2 : Nat) (Y : Nat → Int) (l : List Int) (code : Int) (hl : l.length ≤ 1048576) (w : World) (hnn : n ≤ 1048576) (hX : Sl w A n 3 X) (hnm : m ≤ 1048576) (hY : Sl w A2 m 1 Y)
    (hspec : Hid (∀ (A' : Option Addr) (c' : Nat) (A2' : Option Addr) (c2' : Nat) (w : World), Sl w A' n 3 X → Sl w A2' m 1 Y → Calls Try.prog 20 #[.slice A' n c', .slice A2' m c2'] w (NumsCode w 2 l code)))
    (himpl : Hid (∀ (A' : Option Addr) (c' : Nat) (A2' : Option Addr) (c2' : Nat) (w : World), Sl w A' n 3 X → Sl w A2' m 1 Y → Calls Try.prog 22 #[.slice A' n c', .slice A2' m c2'] w (NumsCode w 2 l code))) :
    Calls Try.prog 4 #[.slice A n c, .slice A2 m c2] w fun e w' => e = .returned (.bool true) ∧ Below w.heap.size w w' := by
  have HX := Lib.hid hX
  clear hX
  have hmn : n ≤ maxLen := by unfold maxLen; omega
  have hqn : ¬ (1048576 : Int) < (n : Int) := by omega
  have hrn : ¬ (1048576 - (n : Int)) < 0 := by omega
  have HY := Lib.hid hY
  clear hY
  have hmm : m ≤ maxLen := by unfold maxLen; omega
  have hqm : ¬ (1048576 : Int) < (m : Int) := by omega
  have hrm : ¬ (1048576 - (m : Int)) < 0 := by omega
  have hml : l.length ≤ maxLen := by unfold maxLen; omega
  generalize hL : l.length = L at *
  have HL := Lib.hid hL
  clear hL
  have b0 : Below w.heap.size w w := Below.refl _ _
  go_enter Try.func4, Try.ntmps4
  go_wp2_with fail
  refine (sz_c A n c _ hnn).mono ?_
  rintro e w0 ⟨rfl, rfl⟩
  go_wp2_with fail
  refine (toRodS_c A n c X _ hnn HX.out).mono ?_
  rintro e w1 ⟨Aw1, cw1, rfl, kc1, mc1, r1, hb1⟩
  have z1 := hb1.size
  have b1 : Below w.heap.size w w1 := b0.trans (hb1.mono (by omega))
  have R1_1 := Lib.hid r1
  clear r1 hb1
  go_wp2_with fail
  refine (toInts_c A2 m c2 Y _ hnm (Sl.below HY.out b1 (Nat.le_refl _))).mono ?_
  rintro e w2 ⟨Aw2, cw2, rfl, kc2, mc2, r2, hb2⟩
  have z2 := hb2.size
  have b2 : Below w.heap.size w w2 := b1.trans (hb2.mono (by omega))
  have R1_2 := Lib.hid (R1_1.out.below hb2 (by omega))
  clear R1_1
  have R2_2 := Lib.hid r2
  clear r2 hb2
  go_wp2_with fail
  refine (hspec.out _ _ _ _ _ R1_2.out.sl R2_2.out.sl).mono ?_
  rintro e w3 ⟨Aw3, cw3, he3, kc3, mc3, r3, hb3⟩
  rw [HL.out] at he3 kc3 r3
  subst he3
  have z3 := hb3.size
  have b3 : Below w.heap.size w w3 := b2.trans (hb3.mono (by omega))
  have R1_3 := Lib.hid (R1_2.out.below hb3 (by omega))
  clear R1_2
  have R2_3 := Lib.hid (R2_2.out.below hb3 (by omega))
  clear R2_2
  have R3_3 := Lib.hid r3
  clear r3 hb3
  clear R1_3
  clear R2_3
  go_wp2_with fail
  refine (toRodS_c A n c X _ hnn (Sl.below HX.out b3 (Nat.le_refl _))).mono ?_
  rintro e w4 ⟨Aw4, cw4, rfl, kc4, mc4, r4, hb4⟩
  have z4 := hb4.size
  have b4 : Below w.heap.size w w4 := b3.trans (hb4.mono (by omega))
  have R3_4 := Lib.hid (R3_3.out.below hb4 (by omega))
  clear R3_3
  have R4_4 := Lib.hid r4
  clear r4 hb4
  go_wp2_with fail
  refine (toInts_c A2 m c2 Y _ hnm (Sl.below HY.out b4 (Nat.le_refl _))).mono ?_
  rintro e w5 ⟨Aw5, cw5, rfl, kc5, mc5, r5, hb5⟩
  have z5 := hb5.size
  have b5 : Below w.heap.size w w5 := b4.trans (hb5.mono (by omega))
  have R3_5 := Lib.hid (R3_4.out.below hb5 (by omega))
  clear R3_4
  have R4_5 := Lib.hid (R4_4.out.below hb5 (by omega))
  clear R4_4
  have R5_5 := Lib.hid r5
  clear r5 hb5
  go_wp2_with fail
  refine (himpl.out _ _ _ _ _ R4_5.out.sl R5_5.out.sl).mono ?_
  rintro e w6 ⟨Aw6, cw6, he6, kc6, mc6, r6, hb6⟩
  rw [HL.out] at he6 kc6 r6
  subst he6
  have z6 := hb6.size
  have b6 : Below w.heap.size w w6 := b5.trans (hb6.mono (by omega))
  have R3_6 := Lib.hid (R3_5.out.below hb6 (by omega))
  clear R3_5
  have R4_6 := Lib.hid (R4_5.out.below hb6 (by omega))
  clear R4_5
  have R5_6 := Lib.hid (R5_5.out.below hb6 (by omega))
  clear R5_5
  have R6_6 := Lib.hid r6
  clear r6 hb6
  go_wp2_with fail
  refine (eqInts_b Aw6 Aw3 L cw6 cw3 (fun j => l.getD j 0) _ hml R6_6.out.sl R3_6.out.sl).mono ?_
  rintro e w7 ⟨rfl, hb7⟩
  have z7 := hb7.size
  have b7 : Below w.heap.size w w7 := b6.trans (hb7.mono (by omega))
  have R3_7 := Lib.hid (R3_6.out.below hb7 (by omega))
  clear R3_6
  have R4_7 := Lib.hid (R4_6.out.below hb7 (by omega))
  clear R4_6
  have R5_7 := Lib.hid (R5_6.out.below hb7 (by omega))
  clear R5_6
  have R6_7 := Lib.hid (R6_6.out.below hb7 (by omega))
  clear R6_6
  clear hb7
  go_wp2_with fail
  refine (toRodS_c A n c X _ hnn (Sl.below HX.out b7 (Nat.le_refl _))).mono ?_
  rintro e w8 ⟨Aw8, cw8, rfl, kc8, mc8, r8, hb8⟩
  have z8 := hb8.size
  have b8 : Below w.heap.size w w8 := b7.trans (hb8.mono (by omega))
  have R3_8 := Lib.hid (R3_7.out.below hb8 (by omega))
  clear R3_7
  have R4_8 := Lib.hid (R4_7.out.below hb8 (by omega))
  clear R4_7
  have R5_8 := Lib.hid (R5_7.out.below hb8 (by omega))
  clear R5_7
  have R6_8 := Lib.hid (R6_7.out.below hb8 (by omega))
  clear R6_7
  have R7_8 := Lib.hid r8
  clear r8 hb8
  go_wp2_with fail
  refine (eqRodS_same Aw4 Aw8 n cw4 cw8 X _ hmn R4_8.out.sl R7_8.out.sl).mono ?_
  rintro e w9 ⟨rfl, hb9⟩
  have z9 := hb9.size
  have b9 : Below w.heap.size w w9 := b8.trans (hb9.mono (by omega))
  have R3_9 := Lib.hid (R3_8.out.below hb9 (by omega))
  clear R3_8
  have R4_9 := Lib.hid (R4_8.out.below hb9 (by omega))
  clear R4_8
  have R5_9 := Lib.hid (R5_8.out.below hb9 (by omega))
  clear R5_8
  have R6_9 := Lib.hid (R6_8.out.below hb9 (by omega))
  clear R6_8
  have R7_9 := Lib.hid (R7_8.out.below hb9 (by omega))
  clear R7_8
  clear hb9
  clear R7_9
  go_wp2_with fail
  refine (toInts_c A2 m c2 Y _ hnm (Sl.below HY.out b9 (Nat.le_refl _))).mono ?_
  rintro e w10 ⟨Aw10, cw10, rfl, kc10, mc10, r10, hb10⟩
  have z10 := hb10.size
  have b10 : Below w.heap.size w w10 := b9.trans (hb10.mono (by omega))
  have R3_10 := Lib.hid (R3_9.out.below hb10 (by omega))
  clear R3_9
  have R4_10 := Lib.hid (R4_9.out.below hb10 (by omega))
  clear R4_9
  have R5_10 := Lib.hid (R5_9.out.below hb10 (by omega))
  clear R5_9
  have R6_10 := Lib.hid (R6_9.out.below hb10 (by omega))
  clear R6_9
  have R8_10 := Lib.hid r10
  clear r10 hb10
  go_wp2_with fail
  refine (eqInts_b Aw5 Aw10 m cw5 cw10 Y _ hmm R5_10.out.sl R8_10.out.sl).mono ?_
  rintro e w11 ⟨rfl, hb11⟩
  have z11 := hb11.size
  have b11 : Below w.heap.size w w11 := b10.trans (hb11.mono (by omega))
  have R3_11 := Lib.hid (R3_10.out.below hb11 (by omega))
  clear R3_10
  have R4_11 := Lib.hid (R4_10.out.below hb11 (by omega))
  clear R4_10
  have R5_11 := Lib.hid (R5_10.out.below hb11 (by omega))
  clear R5_10
  have R6_11 := Lib.hid (R6_10.out.below hb11 (by omega))
  clear R6_10
  have R8_11 := Lib.hid (R8_10.out.below hb11 (by omega))
  clear R8_10
  clear hb11
  clear R8_11
  go_wp2_with fail
  refine (markRodS_c Aw4 n cw4 _ _ _ _ _ hnn (by omega) (by omega) R4_11.out).mono ?_
  rintro e w12 ⟨rfl, r12, hw12⟩
  have z12 := hw12.size
  have b12 : Below w.heap.size w w12 := b11.trans (hw12.below (by omega) (by omega))
  have R3_12 := Lib.hid (R3_11.out.wrote hw12 (by omega))
  clear R3_11
  have R5_12 := Lib.hid (R5_11.out.wrote hw12 (by omega))
  clear R5_11
  have R6_12 := Lib.hid (R6_11.out.wrote hw12 (by omega))
  clear R6_11
  have R4_12 := Lib.hid r12
  clear r12 hw12 R4_11
  go_wp2_with fail
  refine (markInts_c Aw5 m cw5 _ _ _ _ _ hnm (by omega) (by omega) R5_12.out).mono ?_
  rintro e w13 ⟨rfl, r13, hw13⟩
  have z13 := hw13.size
  have b13 : Below w.heap.size w w13 := b12.trans (hw13.below (by omega) (by omega))
  have R3_13 := Lib.hid (R3_12.out.wrote hw13 (by omega))
  clear R3_12
  have R4_13 := Lib.hid (R4_12.out.wrote hw13 (by omega))
  clear R4_12
  have R6_13 := Lib.hid (R6_12.out.wrote hw13 (by omega))
  clear R6_12
  have R5_13 := Lib.hid r13
  clear r13 hw13 R5_12
  clear R4_13
  clear R5_13
  go_wp2_with fail
  refine (eqInts_b Aw6 Aw3 L cw6 cw3 (fun j => l.getD j 0) _ hml R6_13.out.sl R3_13.out.sl).mono ?_
  rintro e w14 ⟨rfl, hb14⟩
  have z14 := hb14.size
  have b14 : Below w.heap.size w w14 := b13.trans (hb14.mono (by omega))
  have R3_14 := Lib.hid (R3_13.out.below hb14 (by omega))
  clear R3_13
  have R6_14 := Lib.hid (R6_13.out.below hb14 (by omega))
  clear R6_13
  clear hb14
  go_wp2_with fail
  refine (markInts_c Aw6 L cw6 _ _ 1 _ _ hl (by omega) (by omega) R6_14.out).mono ?_
  rintro e w15 ⟨rfl, r15, hw15⟩
  have z15 := hw15.size
  have b15 : Below w.heap.size w w15 := b14.trans (hw15.below (by omega) (by omega))
  have R3_15 := Lib.hid (R3_14.out.wrote hw15 (by omega))
  clear R3_14
  have R6_15 := Lib.hid r15
  clear r15 hw15 R6_14
  go_wp2_with fail
  refine (heldInts_b Aw6 L cw6 1 _ hl (by omega) (by omega) R6_15.out.sl).mono ?_
  rintro e w16 ⟨rfl, hb16⟩
  have z16 := hb16.size
  have b16 : Below w.heap.size w w16 := b15.trans (hb16.mono (by omega))
  have R3_16 := Lib.hid (R3_15.out.below hb16 (by omega))
  clear R3_15
  have R6_16 := Lib.hid (R6_15.out.below hb16 (by omega))
  clear R6_15
  clear hb16
  go_wp2_with fail
  refine (toRodS_c A n c X _ hnn (Sl.below HX.out b16 (Nat.le_refl _))).mono ?_
  rintro e w17 ⟨Aw17, cw17, rfl, kc17, mc17, r17, hb17⟩
  have z17 := hb17.size
  have b17 : Below w.heap.size w w17 := b16.trans (hb17.mono (by omega))
  have R3_17 := Lib.hid (R3_16.out.below hb17 (by omega))
  clear R3_16
  have R6_17 := Lib.hid (R6_16.out.below hb17 (by omega))
  clear R6_16
  have R9_17 := Lib.hid r17
  clear r17 hb17
  go_wp2_with fail
  refine (toInts_c A2 m c2 Y _ hnm (Sl.below HY.out b17 (Nat.le_refl _))).mono ?_
  rintro e w18 ⟨Aw18, cw18, rfl, kc18, mc18, r18, hb18⟩
  have z18 := hb18.size
  have b18 : Below w.heap.size w w18 := b17.trans (hb18.mono (by omega))
  have R3_18 := Lib.hid (R3_17.out.below hb18 (by omega))
  clear R3_17
  have R6_18 := Lib.hid (R6_17.out.below hb18 (by omega))
  clear R6_17
  have R9_18 := Lib.hid (R9_17.out.below hb18 (by omega))
  clear R9_17
  have R10_18 := Lib.hid r18
  clear r18 hb18
  go_wp2_with fail
  refine (himpl.out _ _ _ _ _ R9_18.out.sl R10_18.out.sl).mono ?_
  rintro e w19 ⟨Aw19, cw19, he19, kc19, mc19, r19, hb19⟩
  rw [HL.out] at he19 kc19 r19
  subst he19
  have z19 := hb19.size
  have b19 : Below w.heap.size w w19 := b18.trans (hb19.mono (by omega))
  have R3_19 := Lib.hid (R3_18.out.below hb19 (by omega))
  clear R3_18
  have R6_19 := Lib.hid (R6_18.out.below hb19 (by omega))
  clear R6_18
  have R9_19 := Lib.hid (R9_18.out.below hb19 (by omega))
  clear R9_18
  have R10_19 := Lib.hid (R10_18.out.below hb19 (by omega))
  clear R10_18
  have R11_19 := Lib.hid r19
  clear r19 hb19
  clear R9_19
  clear R10_19
  go_wp2_with fail
  refine (eqInts_b Aw19 Aw3 L cw19 cw3 (fun j => l.getD j 0) _ hml R11_19.out.sl R3_19.out.sl).mono ?_
  rintro e w20 ⟨rfl, hb20⟩
  have z20 := hb20.size
  have b20 : Below w.heap.size w w20 := b19.trans (hb20.mono (by omega))
  have R3_20 := Lib.hid (R3_19.out.below hb20 (by omega))
  clear R3_19
  have R6_20 := Lib.hid (R6_19.out.below hb20 (by omega))
  clear R6_19
  have R11_20 := Lib.hid (R11_19.out.below hb20 (by omega))
  clear R11_19
  clear hb20
  go_wp2_with fail
  refine (heldInts_b Aw6 L cw6 1 _ hl (by omega) (by omega) R6_20.out.sl).mono ?_
  rintro e w21 ⟨rfl, hb21⟩
  have z21 := hb21.size
  have b21 : Below w.heap.size w w21 := b20.trans (hb21.mono (by omega))
  have R3_21 := Lib.hid (R3_20.out.below hb21 (by omega))
  clear R3_20
  have R6_21 := Lib.hid (R6_20.out.below hb21 (by omega))
  clear R6_20
  have R11_21 := Lib.hid (R11_20.out.below hb21 (by omega))
  clear R11_20
  clear hb21
  go_wp2
  go_ret
  exact ⟨rfl, b21⟩

set_option maxHeartbeats 1000000 in
theorem big1 (A : Option Addr) (n c : Nat) (A2 : Option Addr) (m c2 : Nat) (w : World) (hm : 1048576 < m) (hx : m ≤ maxLen) :
    Calls Try.prog 4 #[.slice A n c, .slice A2 m c2] w fun e w' => e = .returned (.bool true) ∧ Below w.heap.size w w' := by
  unfold maxLen at hx
  have hm' : (1048576 : Int) < (m : Int) := by omega
  go_enter Try.func4, Try.ntmps4
  go_wp2
  go_ret
  exact ⟨rfl, Below.refl _ _⟩
set_option maxHeartbeats 1000000 in
theorem big2 (A : Option Addr) (n c : Nat) (A2 : Option Addr) (m c2 : Nat) (w : World) (hm : m ≤ 1048576) (hn : 1048576 < n) (hx : n ≤ maxLen) :
    Calls Try.prog 4 #[.slice A n c, .slice A2 m c2] w fun e w' => e = .returned (.bool true) ∧ Below w.heap.size w w' := by
  have hm' : ¬ (1048576 : Int) < (m : Int) := by omega
  go_enter Try.func4, Try.ntmps4
  go_wp2_with fail
  refine (sz_big A n c _ hn hx).mono ?_
  rintro e w0 ⟨rfl, rfl⟩
  go_wp2
  go_ret
  exact ⟨rfl, Below.refl _ _⟩

theorem walk (A : Option Addr) (n c : Nat) (X : Nat → Int) (A2 : Option Addr) (m c2 : Nat) (Y : Nat → Int) (w : World) (le : n ≤ c) (mx : c ≤ maxLen) (sl : Sl w A n 3 X) (wf : ∀ j, j < n * 3 → (Lit.int .i64 (X j)).wf = true)
    (le2 : m ≤ c2) (mx2 : c2 ≤ maxLen) (sl2 : Sl w A2 m 1 Y) (wf2 : ∀ j, j < m * 1 → (Lit.int .i64 (Y j)).wf = true) :
    Calls Try.prog 4 #[.slice A n c, .slice A2 m c2] w fun e w' => e = .returned (.bool true) ∧ Below w.heap.size w w' := by
  have hn' : n ≤ maxLen := by omega
  have hm' : m ≤ maxLen := by omega
  by_cases hm : m ≤ 1048576
  · by_cases hn : n ≤ 1048576
    · cases hv : listB n X
      · exact core A n c X A2 m c2 Y [] 1 (by simp) w hn sl hm sl2 (fun A c A2 c2 w h h2 => count_s_no A n c X A2 m c2 Y 1 w hn' hm' h h2 (.inl ⟨hv, rfl⟩)) (fun A c A2 c2 w h h2 => count_i_no A n c X A2 m c2 Y 1 w hn' hm' h h2 (.inl ⟨hv, rfl⟩))
      cases hl : limB m Y
      · exact core A n c X A2 m c2 Y [] 2 (by simp) w hn sl hm sl2 (fun A c A2 c2 w h h2 => count_s_no A n c X A2 m c2 Y 2 w hn' hm' h h2 (.inr ⟨hv, hl, rfl⟩)) (fun A c A2 c2 w h h2 => count_i_no A n c X A2 m c2 Y 2 w hn' hm' h h2 (.inr ⟨hv, hl, rfl⟩))
      · have h8 := (limB_of hl).1
        exact core A n c X A2 m c2 Y (cnts X Y m n) 0 (by rw [cnts_len]; omega) w hn sl hm sl2 (fun A c A2 c2 w h h2 => count_s A n c X A2 m c2 Y w hn' hm' h h2 hv hl) (fun A c A2 c2 w h h2 => count_i A n c X A2 m c2 Y w hn' hm' h h2 hv hl)
    · exact big2 A n c A2 m c2 w hm (by omega) hn'
  · exact big1 A n c A2 m c2 w (by omega) hm'

theorem own : ownKnob Try.prog.godebug = none := by kernel_rfl
theorem laidOut : laidOutB Try.prog = true := by kernel_rfl

set_option maxRecDepth 100000 in
theorem lifted (os : Os) (started : os.Started) (H : Type) (enc : TypeId × Value → H) :
    ReturnsInHanded {} Try.checked os 4 .any (Rows.fnExactCountGradesSpec.pre6 enc Try.prog Try.f4 Rows.fnExactCountGradesRow.domain false) (Rows.fnExactCountGradesSpec.post enc Try.prog Try.f4 false true false false) := by
  refine returnsInHanded_of_change (C := Try.checked) own started (by kernel_rfl) Try.func4
    (ChangeSpec.witness6 (enc := enc) (C := Try.checked) false ⟨#[], #[.slice none 0 0, .slice none 0 0], []⟩ 8 (by kernel_rfl) (by kernel_rfl) (by kernel_rfl) (by kernel_rfl)) ?_
  intro W base args ds gs before hval0 hW hcnd hreach
  have hval : ∀ (j : Nat) t v, Try.f4.params[j]? = some t → args[j]? = some v → Value.okWide Try.prog W .any base t v := hval0
  have hW' := hW
  obtain ⟨p, q, hA0, hV, rfl, hfz, hnd⟩ := hW
  have hA : DataW.TrodAll enc Try.prog W 0 (fun _ => true) true Try.f4.params.toList args.toList ds p := hA0
  rw [Try.params4] at hA hval
  obtain ⟨v0, vs0, d0, ds0, p0, q0, hargs, rfl, rfl, h0, r0⟩ := trodAll_cons hA
  obtain ⟨v1, vs1, d1, ds1, p1, q1, hargs1, rfl, rfl, h1, r1⟩ := trodAll_cons r0
  obtain ⟨rfl, rfl, rfl⟩ := trodAll_nil r1
  obtain rfl : args = #[v0, v1] := by cases args; simp_all
  obtain ⟨rfl, rfl⟩ := trodVars_none hV
  have k0 := h0
  have lt0 : ∀ x ∈ p0, x.block < W.heap.size := by obtain ⟨m, hm⟩ := k0; exact DataW.trod_lt m _ _ _ hm
  obtain ⟨a0, len0, cap0, rfl⟩ := okWide_slice Try.underlying22 (hval 0 22 v0 rfl rfl)
  obtain ⟨le0, mx0, X0, sl0, wf0⟩ : len0 ≤ cap0 ∧ cap0 ≤ maxLen ∧ ∃ X : Nat → Int, Sl W a0 len0 3 X ∧ ∀ j, j < len0 * 3 → (Lit.int .i64 (X j)).wf = true := by
    obtain ⟨fuel, hf⟩ := h0
    exact open_flat Try.underlying22 Try.underlying87 (by kernel_rfl) (by kernel_rfl) (by simp) (by intro j f hf; rcases j with _ | _ | _ | j <;> simp at hf <;> (subst hf; exact Try.underlying2)) hf
  have k1 := h1
  have lt1 : ∀ x ∈ p1, x.block < W.heap.size := by obtain ⟨m, hm⟩ := k1; exact DataW.trod_lt m _ _ _ hm
  obtain ⟨a1, len1, cap1, rfl⟩ := okWide_slice Try.underlying29 (hval 1 29 v1 rfl rfl)
  obtain ⟨le1, mx1, X1, sl1, wf1⟩ : len1 ≤ cap1 ∧ cap1 ≤ maxLen ∧ ∃ X : Nat → Int, Sl W a1 len1 1 X ∧ ∀ j, j < len1 * 1 → (Lit.int .i64 (X j)).wf = true := by
    obtain ⟨fuel, hf⟩ := h1
    exact open_nums Try.underlying29 Try.underlying2 (by kernel_rfl) hf
  clear hA0 hval0
  refine (walk a0 len0 cap0 X0 a1 len1 cap1 X1 W le0 mx0 sl0 wf0 le1 mx1 sl1 wf1).mono fun e W' ⟨he, bel⟩ => ?_
  subst he
  exact ⟨_, rfl, _, _, _, [], _, [], hW', trodAll_mk1 (shut_bool Try.underlying4 _), (trodAll_cons_mk (Below.trod laidOut (by kernel_rfl) (of_decide_eq_true (by kernel_rfl)) k0 bel lt0) (trodAll_cons_mk (Below.trod laidOut (by kernel_rfl) (of_decide_eq_true (by kernel_rfl)) k1 bel lt1) trodAll_mk0)), rfl, bel.frame _, fun h => by cases h⟩

theorem over : Rows.fnExactCountGradesRow.holds Try.pinned (OpenSpec.ofChange Rows.fnExactCountGradesSpec) :=
  OpenClaim.holds_of_wide 4 Try.f4 rfl rfl rfl rfl rfl rfl rfl ⟨rfl, rfl, rfl, rfl, rfl⟩ rfl rfl rfl rfl rfl (by kernel_rfl) Try.func4 (by kernel_rfl)
    (of_decide_eq_true (by kernel_rfl)) (by unfold Func.isWrapper; first | (rw [if_pos (by decide +kernel)]; kernel_rfl) | (rw [if_neg (by decide +kernel)]; exact ⟨rfl, rfl⟩))
    (fun os started H enc _ => lifted os started H enc)

theorem proved : Rows.FnExactCountGradesSaid := over

end Go.Proofs.Ytcpaenmhnoagdab.fnExactCountGrades
