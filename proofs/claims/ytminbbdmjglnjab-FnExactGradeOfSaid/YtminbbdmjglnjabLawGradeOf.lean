/-
  For every rod and all numbers, FnExactGradeOf returns true: GradeOf of the program gives the grade and the code of the model, and the numbers are as they were. No condition.
-/
import Derived.Test.YtminbbdmjglnjabGradeOf
import Derived.Test.YtminbbdmjglnjabOpen
namespace Go.Proofs.Ytminbbdmjglnjab.fnExactGradeOf
open Go.ChangeShapes Go.WideShapes Go.ChangeAt Go.RowKit Go.Joins
open Go.ChangeMaps (open_string shut_string)
open Go.Proofs.Ytminbbdmjglnjab.rod Go.Proofs.Ytminbbdmjglnjab.mem Go.Proofs.Ytminbbdmjglnjab.nums
set_option linter.unusedVariables false

set_option maxHeartbeats 1000000 in
theorem gradeOf_s_bad (L B T : Int) (A : Option Addr) (n c : Nat) (Y : Nat → Int) (hr : rodB L B T = false) (hn : n ≤ maxLen) (w : World) (hs : Sl w A n 1 Y) :
    Calls Try.prog 7 #[.agg #[.int .i64 L, .int .i64 B, .int .i64 T], .slice A n c] w fun e w' => e = .returned (.tuple #[.int .i64 0, .int .i64 1]) ∧ Below w.heap.size w w' := by
  have hg := gr_bd Y L n
  have HS := Lib.hid hs
  clear hs
  go_enter Try.func7, Try.ntmps7
  go_wp2_with (first
    | (go_at_call 32; refine (one_s _ _ L B T _ (by go_simp) (by go_simp) (by go_simp)).mono ?_; rintro e w' ⟨rfl, m, rfl⟩)
    | (go_at_call 33; refine (limits_s A n c Y _ hn (Sl.below HS.out (drewN_below (by go_grown) _) (Nat.le_refl _))).mono ?_; rintro e w' ⟨rfl, m, rfl⟩)
    | (go_at_call 34; refine (grade_s _ _ L A n c Y _ hn (by go_simp) (Sl.below HS.out (drewN_below (by go_grown) _) (Nat.le_refl _))).mono ?_; rintro e w' ⟨rfl, m, rfl⟩))
  go_returns
  exact ⟨rfl, drewN_below (by go_grown) _⟩

set_option maxHeartbeats 1000000 in
theorem gradeOf_i_bad (L B T : Int) (A : Option Addr) (n c : Nat) (Y : Nat → Int) (hr : rodB L B T = false) (hn : n ≤ maxLen) (w : World) (hs : Sl w A n 1 Y) :
    Calls Try.prog 10 #[.agg #[.int .i64 L, .int .i64 B, .int .i64 T], .slice A n c] w fun e w' => e = .returned (.tuple #[.int .i64 0, .int .i64 1]) ∧ Below w.heap.size w w' := by
  have hg := gr_bd Y L n
  have HS := Lib.hid hs
  clear hs
  go_enter Try.func10, Try.ntmps10
  go_wp2_with fail
  refine (rod_i L B T _).mono ?_
  rintro e w1 ⟨rfl, hb⟩
  have p0 : w1.cell? ⟨w.heap.size, 0, none⟩ = some (.int .i64 L) := by rw [(bcell hb).1 _ _ (by simp <;> omega)]; go_simp
  have p1 : w1.cell? ⟨w.heap.size, 1, none⟩ = some (.int .i64 B) := by rw [(bcell hb).1 _ _ (by simp <;> omega)]; go_simp
  have p2 : w1.cell? ⟨w.heap.size, 2, none⟩ = some (.int .i64 T) := by rw [(bcell hb).1 _ _ (by simp <;> omega)]; go_simp
  have b1 : Below w.heap.size w w1 := Below.trans (by go_grown) (hb.mono (by simp <;> omega))
  have z1 := b1.size
  clear hb
  go_wp2_with (first
    | (go_at_call 36; refine (limits_i A n c Y _ hn (Sl.below HS.out b1 (Nat.le_refl _))).mono ?_; rintro e w' ⟨rfl, rfl⟩)
    | (go_at_call 37; refine (grade_i L B T A n c Y _ hn (Sl.below HS.out b1 (Nat.le_refl _))).mono ?_; rintro e w2 ⟨rfl, hb2⟩))
  go_returns
  exact ⟨rfl, b1⟩

set_option maxHeartbeats 1000000 in
theorem gradeOf_s_out (L B T : Int) (A : Option Addr) (n c : Nat) (Y : Nat → Int) (hr : rodB L B T = true) (hd : limB n Y = false) (hn : n ≤ maxLen) (w : World) (hs : Sl w A n 1 Y) :
    Calls Try.prog 7 #[.agg #[.int .i64 L, .int .i64 B, .int .i64 T], .slice A n c] w fun e w' => e = .returned (.tuple #[.int .i64 0, .int .i64 2]) ∧ Below w.heap.size w w' := by
  have hg := gr_bd Y L n
  have HS := Lib.hid hs
  clear hs
  go_enter Try.func7, Try.ntmps7
  go_wp2_with (first
    | (go_at_call 32; refine (one_s _ _ L B T _ (by go_simp) (by go_simp) (by go_simp)).mono ?_; rintro e w' ⟨rfl, m, rfl⟩)
    | (go_at_call 33; refine (limits_s A n c Y _ hn (Sl.below HS.out (drewN_below (by go_grown) _) (Nat.le_refl _))).mono ?_; rintro e w' ⟨rfl, m, rfl⟩)
    | (go_at_call 34; refine (grade_s _ _ L A n c Y _ hn (by go_simp) (Sl.below HS.out (drewN_below (by go_grown) _) (Nat.le_refl _))).mono ?_; rintro e w' ⟨rfl, m, rfl⟩))
  go_returns
  exact ⟨rfl, drewN_below (by go_grown) _⟩

set_option maxHeartbeats 1000000 in
theorem gradeOf_i_out (L B T : Int) (A : Option Addr) (n c : Nat) (Y : Nat → Int) (hr : rodB L B T = true) (hd : limB n Y = false) (hn : n ≤ maxLen) (w : World) (hs : Sl w A n 1 Y) :
    Calls Try.prog 10 #[.agg #[.int .i64 L, .int .i64 B, .int .i64 T], .slice A n c] w fun e w' => e = .returned (.tuple #[.int .i64 0, .int .i64 2]) ∧ Below w.heap.size w w' := by
  have hg := gr_bd Y L n
  have HS := Lib.hid hs
  clear hs
  go_enter Try.func10, Try.ntmps10
  go_wp2_with fail
  refine (rod_i L B T _).mono ?_
  rintro e w1 ⟨rfl, hb⟩
  have p0 : w1.cell? ⟨w.heap.size, 0, none⟩ = some (.int .i64 L) := by rw [(bcell hb).1 _ _ (by simp <;> omega)]; go_simp
  have p1 : w1.cell? ⟨w.heap.size, 1, none⟩ = some (.int .i64 B) := by rw [(bcell hb).1 _ _ (by simp <;> omega)]; go_simp
  have p2 : w1.cell? ⟨w.heap.size, 2, none⟩ = some (.int .i64 T) := by rw [(bcell hb).1 _ _ (by simp <;> omega)]; go_simp
  have b1 : Below w.heap.size w w1 := Below.trans (by go_grown) (hb.mono (by simp <;> omega))
  have z1 := b1.size
  clear hb
  go_wp2_with (first
    | (go_at_call 36; refine (limits_i A n c Y _ hn (Sl.below HS.out b1 (Nat.le_refl _))).mono ?_; rintro e w' ⟨rfl, rfl⟩)
    | (go_at_call 37; refine (grade_i L B T A n c Y _ hn (Sl.below HS.out b1 (Nat.le_refl _))).mono ?_; rintro e w2 ⟨rfl, hb2⟩))
  go_returns
  exact ⟨rfl, b1⟩

set_option maxHeartbeats 1000000 in
theorem gradeOf_s_yes (L B T : Int) (A : Option Addr) (n c : Nat) (Y : Nat → Int) (hr : rodB L B T = true) (hd : limB n Y = true) (hn : n ≤ maxLen) (w : World) (hs : Sl w A n 1 Y) :
    Calls Try.prog 7 #[.agg #[.int .i64 L, .int .i64 B, .int .i64 T], .slice A n c] w fun e w' => e = .returned (.tuple #[.int .i64 (gr Y L n), .int .i64 0]) ∧ Below w.heap.size w w' := by
  have hg := gr_bd Y L n
  have HS := Lib.hid hs
  clear hs
  go_enter Try.func7, Try.ntmps7
  go_wp2_with (first
    | (go_at_call 32; refine (one_s _ _ L B T _ (by go_simp) (by go_simp) (by go_simp)).mono ?_; rintro e w' ⟨rfl, m, rfl⟩)
    | (go_at_call 33; refine (limits_s A n c Y _ hn (Sl.below HS.out (drewN_below (by go_grown) _) (Nat.le_refl _))).mono ?_; rintro e w' ⟨rfl, m, rfl⟩)
    | (go_at_call 34; refine (grade_s _ _ L A n c Y _ hn (by go_simp) (Sl.below HS.out (drewN_below (by go_grown) _) (Nat.le_refl _))).mono ?_; rintro e w' ⟨rfl, m, rfl⟩))
  go_returns
  exact ⟨rfl, drewN_below (by go_grown) _⟩

set_option maxHeartbeats 1000000 in
theorem gradeOf_i_yes (L B T : Int) (A : Option Addr) (n c : Nat) (Y : Nat → Int) (hr : rodB L B T = true) (hd : limB n Y = true) (hn : n ≤ maxLen) (w : World) (hs : Sl w A n 1 Y) :
    Calls Try.prog 10 #[.agg #[.int .i64 L, .int .i64 B, .int .i64 T], .slice A n c] w fun e w' => e = .returned (.tuple #[.int .i64 (gr Y L n), .int .i64 0]) ∧ Below w.heap.size w w' := by
  have hg := gr_bd Y L n
  have HS := Lib.hid hs
  clear hs
  go_enter Try.func10, Try.ntmps10
  go_wp2_with fail
  refine (rod_i L B T _).mono ?_
  rintro e w1 ⟨rfl, hb⟩
  have p0 : w1.cell? ⟨w.heap.size, 0, none⟩ = some (.int .i64 L) := by rw [(bcell hb).1 _ _ (by simp <;> omega)]; go_simp
  have p1 : w1.cell? ⟨w.heap.size, 1, none⟩ = some (.int .i64 B) := by rw [(bcell hb).1 _ _ (by simp <;> omega)]; go_simp
  have p2 : w1.cell? ⟨w.heap.size, 2, none⟩ = some (.int .i64 T) := by rw [(bcell hb).1 _ _ (by simp <;> omega)]; go_simp
  have b1 : Below w.heap.size w w1 := Below.trans (by go_grown) (hb.mono (by simp <;> omega))
  have z1 := b1.size
  clear hb
  go_wp2_with (first
    | (go_at_call 36; refine (limits_i A n c Y _ hn (Sl.below HS.out b1 (Nat.le_refl _))).mono ?_; rintro e w' ⟨rfl, rfl⟩)
    | (go_at_call 37; refine (grade_i L B T A n c Y _ hn (Sl.below HS.out b1 (Nat.le_refl _))).mono ?_; rintro e w2 ⟨rfl, hb2⟩))
  go_returns
  exact ⟨rfl, b1.trans (hb2.mono z1)⟩

set_option maxHeartbeats 1000000 in
theorem core (L B T v c : Int) (A : Option Addr) (n cap : Nat) (Y : Nat → Int) (w : World) (hn : n ≤ 1048576) (hY : Sl w A n 1 Y)
    (hs : Hid (∀ (A : Option Addr) (c' : Nat) (w : World), Sl w A n 1 Y → Calls Try.prog 7 #[.agg #[.int .i64 L, .int .i64 B, .int .i64 T], .slice A n c'] w fun e w' => e = .returned (.tuple #[.int .i64 v, .int .i64 c]) ∧ Below w.heap.size w w'))
    (hi : Hid (∀ (A : Option Addr) (c' : Nat) (w : World), Sl w A n 1 Y → Calls Try.prog 10 #[.agg #[.int .i64 L, .int .i64 B, .int .i64 T], .slice A n c'] w fun e w' => e = .returned (.tuple #[.int .i64 v, .int .i64 c]) ∧ Below w.heap.size w w')) :
    Calls Try.prog 3 #[.agg #[.int .i64 L, .int .i64 B, .int .i64 T], .slice A n cap] w fun e w' => e = .returned (.bool true) ∧ Below w.heap.size w w' := by
  have HY := Lib.hid hY
  clear hY
  have hl : ¬ (1048576 : Int) < (n : Int) := by omega
  have hm : n ≤ maxLen := by unfold maxLen; omega
  go_enter Try.func3, Try.ntmps3
  go_wp2_with fail
  refine (toRod_c L B T _).mono ?_
  rintro e w0 ⟨rfl, hb⟩
  have z0 := hb.size
  simp at z0
  have p0 : w0.cell? ⟨w.heap.size, 0, none⟩ = some (.int .i64 L) := by rw [(bcell hb).1 _ _ (by simp <;> omega)]; go_simp
  have p1 : w0.cell? ⟨w.heap.size, 1, none⟩ = some (.int .i64 B) := by rw [(bcell hb).1 _ _ (by simp <;> omega)]; go_simp
  have p2 : w0.cell? ⟨w.heap.size, 2, none⟩ = some (.int .i64 T) := by rw [(bcell hb).1 _ _ (by simp <;> omega)]; go_simp
  have b0 : Below w.heap.size w w0 := Below.trans (by go_grown) (hb.mono (by simp <;> omega))
  clear hb
  go_wp2_with fail
  refine (toInts_c A n cap Y _ hn (Sl.below HY.out b0 (Nat.le_refl _))).mono ?_
  rintro e w1 ⟨A1, c1, rfl, k1, m1, r1, hb⟩
  have R1 := Lib.hid r1
  have z1 := hb.size
  replace p0 : w1.cell? ⟨w.heap.size, 0, none⟩ = some (.int .i64 L) := by rw [(bcell hb).1 _ _ (by omega)]; exact p0
  replace p1 : w1.cell? ⟨w.heap.size, 1, none⟩ = some (.int .i64 B) := by rw [(bcell hb).1 _ _ (by omega)]; exact p1
  replace p2 : w1.cell? ⟨w.heap.size, 2, none⟩ = some (.int .i64 T) := by rw [(bcell hb).1 _ _ (by omega)]; exact p2
  have b1 : Below w.heap.size w w1 := b0.trans (hb.mono (by omega))
  clear hb r1
  go_wp2_with fail
  refine (hs.out _ _ _ R1.out.sl).mono ?_
  rintro e w2 ⟨rfl, hb⟩
  have z2 := hb.size
  replace p0 : w2.cell? ⟨w.heap.size, 0, none⟩ = some (.int .i64 L) := by rw [(bcell hb).1 _ _ (by omega)]; exact p0
  replace p1 : w2.cell? ⟨w.heap.size, 1, none⟩ = some (.int .i64 B) := by rw [(bcell hb).1 _ _ (by omega)]; exact p1
  replace p2 : w2.cell? ⟨w.heap.size, 2, none⟩ = some (.int .i64 T) := by rw [(bcell hb).1 _ _ (by omega)]; exact p2
  have b2 : Below w.heap.size w w2 := b1.trans (hb.mono (by omega))
  clear hb R1
  go_wp2_with fail
  refine (toInts_c A n cap Y _ hn (Sl.below HY.out b2 (Nat.le_refl _))).mono ?_
  rintro e w3 ⟨A3, c3, rfl, k3, m3, r3, hb⟩
  have R3 := Lib.hid r3
  have z3 := hb.size
  replace p0 : w3.cell? ⟨w.heap.size, 0, none⟩ = some (.int .i64 L) := by rw [(bcell hb).1 _ _ (by omega)]; exact p0
  replace p1 : w3.cell? ⟨w.heap.size, 1, none⟩ = some (.int .i64 B) := by rw [(bcell hb).1 _ _ (by omega)]; exact p1
  replace p2 : w3.cell? ⟨w.heap.size, 2, none⟩ = some (.int .i64 T) := by rw [(bcell hb).1 _ _ (by omega)]; exact p2
  have b3 : Below w.heap.size w w3 := b2.trans (hb.mono (by omega))
  clear hb r3
  go_wp2_with fail
  refine (toRod_c L B T _).mono ?_
  rintro e w4 ⟨rfl, hb⟩
  have z4 := hb.size
  have b4 : Below w.heap.size w w4 := b3.trans (hb.mono (by omega))
  have R4 := Lib.hid (R3.out.below hb (Nat.le_refl _))
  clear hb R3 p0 p1 p2
  go_wp2_with fail
  refine (hi.out _ _ _ R4.out.sl).mono ?_
  rintro e w5 ⟨rfl, hb⟩
  have z5 := hb.size
  have b5 : Below w.heap.size w w5 := b4.trans (hb.mono (by omega))
  have R5 := Lib.hid (R4.out.below hb (by omega))
  clear hb R4
  go_wp2_with fail
  refine (toInts_c A n cap Y _ hn (Sl.below HY.out b5 (Nat.le_refl _))).mono ?_
  rintro e w6 ⟨A6, c6, rfl, k6, m6, r6, hb⟩
  have R6 := Lib.hid r6
  have z6 := hb.size
  have b6 : Below w.heap.size w w6 := b5.trans (hb.mono (by omega))
  have R7 := Lib.hid (R5.out.below hb (by omega))
  clear hb r6 R5
  go_wp2_with fail
  refine (eqInts_same A3 A6 n c3 c6 Y _ hm R7.out.sl R6.out.sl).mono ?_
  rintro e w7 ⟨rfl, m, rfl⟩
  go_wp2
  go_ret
  exact ⟨rfl, drewN_below b6 _⟩

theorem walk (L B T : Int) (A : Option Addr) (n c : Nat) (Y : Nat → Int) (w : World) (x0 : (Lit.int .i64 L).wf = true) (x1 : (Lit.int .i64 B).wf = true) (x2 : (Lit.int .i64 T).wf = true)
    (le : n ≤ c) (mx : c ≤ maxLen) (sl : Sl w A n 1 Y) (wf : ∀ j, j < n * 1 → (Lit.int .i64 (Y j)).wf = true) :
    Calls Try.prog 3 #[.agg #[.int .i64 L, .int .i64 B, .int .i64 T], .slice A n c] w fun e w' => e = .returned (.bool true) ∧ Below w.heap.size w w' := by
  by_cases hn : n ≤ 1048576
  · have hm : n ≤ maxLen := by unfold maxLen; omega
    cases hr : rodB L B T
    · exact core L B T 0 1 A n c Y w hn sl (fun A c' w h => gradeOf_s_bad L B T A n c' Y hr hm w h) (fun A c' w h => gradeOf_i_bad L B T A n c' Y hr hm w h)
    · cases hd : limB n Y
      · exact core L B T 0 2 A n c Y w hn sl (fun A c' w h => gradeOf_s_out L B T A n c' Y hr hd hm w h) (fun A c' w h => gradeOf_i_out L B T A n c' Y hr hd hm w h)
      · exact core L B T _ 0 A n c Y w hn sl (fun A c' w h => gradeOf_s_yes L B T A n c' Y hr hd hm w h) (fun A c' w h => gradeOf_i_yes L B T A n c' Y hr hd hm w h)
  · have hm : n ≤ maxLen := by omega
    unfold maxLen at hm
    have hl : (1048576 : Int) < (n : Int) := by omega
    clear sl wf
    go_enter Try.func3, Try.ntmps3
    go_wp2
    go_ret
    exact ⟨rfl, by go_grown⟩

theorem own : ownKnob Try.prog.godebug = none := by kernel_rfl
theorem laidOut : laidOutB Try.prog = true := by kernel_rfl

set_option maxRecDepth 100000 in
theorem lifted (os : Os) (started : os.Started) (H : Type) (enc : TypeId × Value → H) :
    ReturnsInHanded {} Try.checked os 3 .any (Rows.fnExactGradeOfSpec.pre6 enc Try.prog Try.f3 Rows.fnExactGradeOfRow.domain false) (Rows.fnExactGradeOfSpec.post enc Try.prog Try.f3 false true false false) := by
  refine returnsInHanded_of_change (C := Try.checked) own started (by kernel_rfl) Try.func3
    (ChangeSpec.witness6 (enc := enc) (C := Try.checked) false ⟨#[], #[.agg #[.int .i64 0, .int .i64 0, .int .i64 0], .slice none 0 0], []⟩ 8 (by kernel_rfl) (by kernel_rfl) (by kernel_rfl) (by kernel_rfl)) ?_
  intro W base args ds gs before hval0 hW hcnd hreach
  have hval : ∀ (j : Nat) t v, Try.f3.params[j]? = some t → args[j]? = some v → Value.okWide Try.prog W .any base t v := hval0
  have hW' := hW
  obtain ⟨p, q, hA0, hV, rfl, hfz, hnd⟩ := hW
  have hA : DataW.TrodAll enc Try.prog W 0 (fun _ => true) true Try.f3.params.toList args.toList ds p := hA0
  rw [Try.params3] at hA hval
  obtain ⟨v0, vs0, d0, ds0, p0, q0, hargs, rfl, rfl, h0, r0⟩ := trodAll_cons hA
  obtain ⟨v1, vs1, d1, ds1, p1, q1, hargs1, rfl, rfl, h1, r1⟩ := trodAll_cons r0
  obtain ⟨rfl, rfl, rfl⟩ := trodAll_nil r1
  obtain rfl : args = #[v0, v1] := by cases args; simp_all
  obtain ⟨rfl, rfl⟩ := trodVars_none hV
  have k0 := h0
  have lt0 : ∀ x ∈ p0, x.block < W.heap.size := by obtain ⟨m, hm⟩ := k0; exact DataW.trod_lt m _ _ _ hm
  obtain ⟨c0_0, c0_1, c0_2, y0_0, y0_1, y0_2, m0, rfl, rfl, rfl, hy0_0, hy0_1, hy0_2⟩ := open_agg3 Try.underlying23 (by kernel_rfl) (by kernel_rfl) (hval 0 23 v0 rfl rfl) h0
  obtain ⟨a0_0, e0_0, rfl, w0_0⟩ := DataW.trod_int Try.underlying2 hy0_0
  simp at e0_0
  subst e0_0
  obtain ⟨a0_1, e0_1, rfl, w0_1⟩ := DataW.trod_int Try.underlying2 hy0_1
  simp at e0_1
  subst e0_1
  obtain ⟨a0_2, e0_2, rfl, w0_2⟩ := DataW.trod_int Try.underlying2 hy0_2
  simp at e0_2
  subst e0_2
  have k1 := h1
  have lt1 : ∀ x ∈ p1, x.block < W.heap.size := by obtain ⟨m, hm⟩ := k1; exact DataW.trod_lt m _ _ _ hm
  obtain ⟨a1, len1, cap1, rfl⟩ := okWide_slice Try.underlying24 (hval 1 24 v1 rfl rfl)
  obtain ⟨le1, mx1, X1, sl1, wf1⟩ : len1 ≤ cap1 ∧ cap1 ≤ maxLen ∧ ∃ X : Nat → Int, Sl W a1 len1 1 X ∧ ∀ j, j < len1 * 1 → (Lit.int .i64 (X j)).wf = true := by
    obtain ⟨fuel, hf⟩ := h1
    exact open_nums Try.underlying24 Try.underlying2 (by kernel_rfl) hf
  clear hA0 hval0
  refine (walk a0_0 a0_1 a0_2 a1 len1 cap1 X1 W w0_0 w0_1 w0_2 le1 mx1 sl1 wf1).mono fun e W' ⟨he, bel⟩ => ?_
  subst he
  exact ⟨_, rfl, _, _, _, [], _, [], hW', trodAll_mk1 (shut_bool Try.underlying4 _), (trodAll_cons_mk (Below.trod laidOut (by kernel_rfl) (of_decide_eq_true (by kernel_rfl)) k0 bel lt0) (trodAll_cons_mk (Below.trod laidOut (by kernel_rfl) (of_decide_eq_true (by kernel_rfl)) k1 bel lt1) trodAll_mk0)), rfl, bel.frame _, fun h => by cases h⟩

theorem over : Rows.fnExactGradeOfRow.holds Try.pinned (OpenSpec.ofChange Rows.fnExactGradeOfSpec) :=
  OpenClaim.holds_of_wide 3 Try.f3 rfl rfl rfl rfl rfl rfl rfl ⟨rfl, rfl, rfl, rfl, rfl⟩ rfl rfl rfl rfl rfl (by kernel_rfl) Try.func3 (by kernel_rfl)
    (of_decide_eq_true (by kernel_rfl)) (by unfold Func.isWrapper; first | (rw [if_pos (by decide +kernel)]; kernel_rfl) | (rw [if_neg (by decide +kernel)]; exact ⟨rfl, rfl⟩))
    (fun os started H enc _ => lifted os started H enc)

theorem proved : Rows.FnExactGradeOfSaid := over

end Go.Proofs.Ytminbbdmjglnjab.fnExactGradeOf
