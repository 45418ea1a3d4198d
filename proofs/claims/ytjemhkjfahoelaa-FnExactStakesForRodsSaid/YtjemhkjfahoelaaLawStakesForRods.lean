/-
  For every list of numbers and any two numbers, FnExactStakesForRods returns true: StakesForRods of the program gives the numbers and the code of the model, keeps the list, and its answer is memory of its own. No condition.
-/
import Derived.Test.YtjemhkjfahoelaaJh
namespace Go.Proofs.Ytjemhkjfahoelaa.fnExactStakesForRods
open Go.ChangeShapes Go.WideShapes Go.ChangeAt Go.RowKit Go.Joins
open Go.ChangeMaps (open_string shut_string)
open Go.Proofs.Ytjemhkjfahoelaa.jns Go.Proofs.Ytjemhkjfahoelaa.rod Go.Proofs.Ytjemhkjfahoelaa.mem Go.Proofs.Ytjemhkjfahoelaa.nums
set_option linter.unusedVariables false

set_option maxHeartbeats 4000000 in
set_option maxRecDepth 100000 in
theorem core (A : Option Addr) (n c : Nat) (X : Nat → Int) (bs : Int) (most : Int) (l : List Int) (hl : l.length ≤ 1048576) (code : Int) (w : World) (hnn : n ≤ 1048576) (hX : Sl w A n 1 X)
    (hspec : Hid (∀ (A' : Option Addr) (c' : Nat) (w : World), Sl w A' n 1 X → Calls Try.prog 24 #[.slice A' n c', .int .i64 bs, .int .i64 most] w (fun e w' => ∃ A c, e = .returned (.tuple #[.slice A l.length c, .int .i64 code]) ∧ l.length ≤ c ∧ c ≤ maxLen ∧ Row w' w.heap.size w'.heap.size A l.length 1 2 (fun j => l.getD j 0) ∧ Below w.heap.size w w')))
    (himpl : Hid (∀ (A' : Option Addr) (c' : Nat) (w : World), Sl w A' n 1 X → Calls Try.prog 25 #[.slice A' n c', .int .i64 bs, .int .i64 most] w (fun e w' => ∃ A c, e = .returned (.tuple #[.slice A l.length c, .int .i64 code]) ∧ l.length ≤ c ∧ c ≤ maxLen ∧ Row w' w.heap.size w'.heap.size A l.length 1 2 (fun j => l.getD j 0) ∧ Below w.heap.size w w'))) :
    Calls Try.prog 8 #[.slice A n c, .int .i64 bs, .int .i64 most] w fun e w' => e = .returned (.bool true) ∧ Below w.heap.size w w' := by
  have HX := Lib.hid hX
  clear hX
  have hmn : n ≤ maxLen := by unfold maxLen; omega
  have hqn : ¬ (1048576 : Int) < (n : Int) := by omega
  have hml : l.length ≤ maxLen := by unfold maxLen; omega
  generalize hL : l.length = L at *
  have HL := Lib.hid hL
  clear hL
  have b0 : Below w.heap.size w w := Below.refl _ _
  go_enter Try.func8, Try.ntmps8
  go_wp2_with fail
  refine (toInts_c A n c X _ hnn (Sl.below HX.out b0 (Nat.le_refl _))).mono ?_
  rintro e w1 ⟨Aw1, cw1, rfl, kc1, mc1, r1, hb1⟩
  have z1 := hb1.size
  try simp at z1
  have s1 : Below w.heap.size w w1 := Below.trans (by go_grown) (hb1.mono (by first | omega | (simp; done) | (simp; omega)))
  have b1 : Below w.heap.size w w1 := b0.trans (s1.mono (by omega))
  have R1_1 := Lib.hid (r1.wide (lo' := w.heap.size) (by first | omega | (simp; done) | (simp; omega)) (Nat.le_refl _))
  clear r1
  clear hb1 s1
  go_wp2_with fail
  refine (hspec.out _ _ _ (R1_1.out.sl)).mono ?_
  rintro e w2 ⟨Aw2, cw2, he2, kc2, mc2, r2, hb2⟩
  try rw [HL.out] at he2 kc2 r2
  subst he2
  have z2 := hb2.size
  try simp at z2
  have s2 : Below w1.heap.size w1 w2 := Below.trans (by go_grown) (hb2.mono (by first | omega | (simp; done) | (simp; omega)))
  have b2 : Below w.heap.size w w2 := b1.trans (s2.mono (by omega))
  have R1_2 := Lib.hid (R1_1.out.below s2 (by omega))
  clear R1_1
  have R2_2 := Lib.hid (r2.wide (lo' := w1.heap.size) (by first | omega | (simp; done) | (simp; omega)) (Nat.le_refl _))
  clear r2
  clear hb2 s2
  clear R1_2
  go_wp2_with fail
  refine (toInts_c A n c X _ hnn (Sl.below HX.out b2 (Nat.le_refl _))).mono ?_
  rintro e w3 ⟨Aw3, cw3, rfl, kc3, mc3, r3, hb3⟩
  have z3 := hb3.size
  try simp at z3
  have s3 : Below w2.heap.size w2 w3 := Below.trans (by go_grown) (hb3.mono (by first | omega | (simp; done) | (simp; omega)))
  have b3 : Below w.heap.size w w3 := b2.trans (s3.mono (by omega))
  have R2_3 := Lib.hid (R2_2.out.below s3 (by omega))
  clear R2_2
  have R3_3 := Lib.hid (r3.wide (lo' := w2.heap.size) (by first | omega | (simp; done) | (simp; omega)) (Nat.le_refl _))
  clear r3
  clear hb3 s3
  go_wp2_with fail
  refine (himpl.out _ _ _ (R3_3.out.sl)).mono ?_
  rintro e w4 ⟨Aw4, cw4, he4, kc4, mc4, r4, hb4⟩
  try rw [HL.out] at he4 kc4 r4
  subst he4
  have z4 := hb4.size
  try simp at z4
  have s4 : Below w3.heap.size w3 w4 := Below.trans (by go_grown) (hb4.mono (by first | omega | (simp; done) | (simp; omega)))
  have b4 : Below w.heap.size w w4 := b3.trans (s4.mono (by omega))
  have R2_4 := Lib.hid (R2_3.out.below s4 (by omega))
  clear R2_3
  have R3_4 := Lib.hid (R3_3.out.below s4 (by omega))
  clear R3_3
  have R4_4 := Lib.hid (r4.wide (lo' := w3.heap.size) (by first | omega | (simp; done) | (simp; omega)) (Nat.le_refl _))
  clear r4
  clear hb4 s4
  go_wp2_with fail
  refine (eqInts_b Aw4 Aw2 L cw4 cw2 (fun j => l.getD j 0) _ hml (R4_4.out.sl) (R2_4.out.sl)).mono ?_
  rintro e w5 ⟨rfl, hb5⟩
  have z5 := hb5.size
  try simp at z5
  have s5 : Below w4.heap.size w4 w5 := Below.trans (by go_grown) (hb5.mono (by first | omega | (simp; done) | (simp; omega)))
  have b5 : Below w.heap.size w w5 := b4.trans (s5.mono (by omega))
  have R2_5 := Lib.hid (R2_4.out.below s5 (by omega))
  clear R2_4
  have R3_5 := Lib.hid (R3_4.out.below s5 (by omega))
  clear R3_4
  have R4_5 := Lib.hid (R4_4.out.below s5 (by omega))
  clear R4_4
  clear hb5 s5
  go_wp2_with fail
  refine (toInts_c A n c X _ hnn (Sl.below HX.out b5 (Nat.le_refl _))).mono ?_
  rintro e w6 ⟨Aw6, cw6, rfl, kc6, mc6, r6, hb6⟩
  have z6 := hb6.size
  try simp at z6
  have s6 : Below w5.heap.size w5 w6 := Below.trans (by go_grown) (hb6.mono (by first | omega | (simp; done) | (simp; omega)))
  have b6 : Below w.heap.size w w6 := b5.trans (s6.mono (by omega))
  have R2_6 := Lib.hid (R2_5.out.below s6 (by omega))
  clear R2_5
  have R3_6 := Lib.hid (R3_5.out.below s6 (by omega))
  clear R3_5
  have R4_6 := Lib.hid (R4_5.out.below s6 (by omega))
  clear R4_5
  have R5_6 := Lib.hid (r6.wide (lo' := w5.heap.size) (by first | omega | (simp; done) | (simp; omega)) (Nat.le_refl _))
  clear r6
  clear hb6 s6
  go_wp2_with fail
  refine (eqInts_b Aw3 Aw6 n cw3 cw6 X _ hmn (R3_6.out.sl) (R5_6.out.sl)).mono ?_
  rintro e w7 ⟨rfl, hb7⟩
  have z7 := hb7.size
  try simp at z7
  have s7 : Below w6.heap.size w6 w7 := Below.trans (by go_grown) (hb7.mono (by first | omega | (simp; done) | (simp; omega)))
  have b7 : Below w.heap.size w w7 := b6.trans (s7.mono (by omega))
  have R2_7 := Lib.hid (R2_6.out.below s7 (by omega))
  clear R2_6
  have R3_7 := Lib.hid (R3_6.out.below s7 (by omega))
  clear R3_6
  have R4_7 := Lib.hid (R4_6.out.below s7 (by omega))
  clear R4_6
  have R5_7 := Lib.hid (R5_6.out.below s7 (by omega))
  clear R5_6
  clear hb7 s7
  clear R5_7
  go_wp2_with fail
  refine (markInts_c Aw3 n cw3 _ _ _ _ _ hnn (by omega) (by omega) R3_7.out).mono ?_
  rintro e w8 ⟨rfl, r8, hw8⟩
  have z8 := hw8.size
  try simp at z8
  have b8 : Below w.heap.size w w8 := b7.trans (hw8.below (by omega) (by omega))
  have R2_8 := Lib.hid (R2_7.out.wrote hw8 (by omega))
  clear R2_7
  have R4_8 := Lib.hid (R4_7.out.wrote hw8 (by omega))
  clear R4_7
  have R3_8 := Lib.hid r8
  clear r8 hw8 R3_7
  clear R3_8
  go_wp2_with fail
  refine (eqInts_b Aw4 Aw2 L cw4 cw2 (fun j => l.getD j 0) _ hml (R4_8.out.sl) (R2_8.out.sl)).mono ?_
  rintro e w9 ⟨rfl, hb9⟩
  have z9 := hb9.size
  try simp at z9
  have s9 : Below w8.heap.size w8 w9 := Below.trans (by go_grown) (hb9.mono (by first | omega | (simp; done) | (simp; omega)))
  have b9 : Below w.heap.size w w9 := b8.trans (s9.mono (by omega))
  have R2_9 := Lib.hid (R2_8.out.below s9 (by omega))
  clear R2_8
  have R4_9 := Lib.hid (R4_8.out.below s9 (by omega))
  clear R4_8
  clear hb9 s9
  go_wp2_with fail
  refine (markInts_c Aw4 L cw4 _ _ 1 _ _ hl (by omega) (by omega) R4_9.out).mono ?_
  rintro e w10 ⟨rfl, r10, hw10⟩
  have z10 := hw10.size
  try simp at z10
  have b10 : Below w.heap.size w w10 := b9.trans (hw10.below (by omega) (by omega))
  have R2_10 := Lib.hid (R2_9.out.wrote hw10 (by omega))
  clear R2_9
  have R4_10 := Lib.hid r10
  clear r10 hw10 R4_9
  go_wp2_with fail
  refine (heldInts_b Aw4 L cw4 1 _ hl (by omega) (by omega) R4_10.out.sl).mono ?_
  rintro e w11 ⟨rfl, hb11⟩
  have z11 := hb11.size
  try simp at z11
  have s11 : Below w10.heap.size w10 w11 := Below.trans (by go_grown) (hb11.mono (by first | omega | (simp; done) | (simp; omega)))
  have b11 : Below w.heap.size w w11 := b10.trans (s11.mono (by omega))
  have R2_11 := Lib.hid (R2_10.out.below s11 (by omega))
  clear R2_10
  have R4_11 := Lib.hid (R4_10.out.below s11 (by omega))
  clear R4_10
  clear hb11 s11
  go_wp2_with fail
  refine (toInts_c A n c X _ hnn (Sl.below HX.out b11 (Nat.le_refl _))).mono ?_
  rintro e w12 ⟨Aw12, cw12, rfl, kc12, mc12, r12, hb12⟩
  have z12 := hb12.size
  try simp at z12
  have s12 : Below w11.heap.size w11 w12 := Below.trans (by go_grown) (hb12.mono (by first | omega | (simp; done) | (simp; omega)))
  have b12 : Below w.heap.size w w12 := b11.trans (s12.mono (by omega))
  have R2_12 := Lib.hid (R2_11.out.below s12 (by omega))
  clear R2_11
  have R4_12 := Lib.hid (R4_11.out.below s12 (by omega))
  clear R4_11
  have R6_12 := Lib.hid (r12.wide (lo' := w11.heap.size) (by first | omega | (simp; done) | (simp; omega)) (Nat.le_refl _))
  clear r12
  clear hb12 s12
  go_wp2_with fail
  refine (himpl.out _ _ _ (R6_12.out.sl)).mono ?_
  rintro e w13 ⟨Aw13, cw13, he13, kc13, mc13, r13, hb13⟩
  try rw [HL.out] at he13 kc13 r13
  subst he13
  have z13 := hb13.size
  try simp at z13
  have s13 : Below w12.heap.size w12 w13 := Below.trans (by go_grown) (hb13.mono (by first | omega | (simp; done) | (simp; omega)))
  have b13 : Below w.heap.size w w13 := b12.trans (s13.mono (by omega))
  have R2_13 := Lib.hid (R2_12.out.below s13 (by omega))
  clear R2_12
  have R4_13 := Lib.hid (R4_12.out.below s13 (by omega))
  clear R4_12
  have R6_13 := Lib.hid (R6_12.out.below s13 (by omega))
  clear R6_12
  have R7_13 := Lib.hid (r13.wide (lo' := w12.heap.size) (by first | omega | (simp; done) | (simp; omega)) (Nat.le_refl _))
  clear r13
  clear hb13 s13
  clear R6_13
  go_wp2_with fail
  refine (eqInts_b Aw13 Aw2 L cw13 cw2 (fun j => l.getD j 0) _ hml (R7_13.out.sl) (R2_13.out.sl)).mono ?_
  rintro e w14 ⟨rfl, hb14⟩
  have z14 := hb14.size
  try simp at z14
  have s14 : Below w13.heap.size w13 w14 := Below.trans (by go_grown) (hb14.mono (by first | omega | (simp; done) | (simp; omega)))
  have b14 : Below w.heap.size w w14 := b13.trans (s14.mono (by omega))
  have R2_14 := Lib.hid (R2_13.out.below s14 (by omega))
  clear R2_13
  have R4_14 := Lib.hid (R4_13.out.below s14 (by omega))
  clear R4_13
  have R7_14 := Lib.hid (R7_13.out.below s14 (by omega))
  clear R7_13
  clear hb14 s14
  go_wp2_with fail
  refine (heldInts_b Aw4 L cw4 1 _ hl (by omega) (by omega) R4_14.out.sl).mono ?_
  rintro e w15 ⟨rfl, hb15⟩
  have z15 := hb15.size
  try simp at z15
  have s15 : Below w14.heap.size w14 w15 := Below.trans (by go_grown) (hb15.mono (by first | omega | (simp; done) | (simp; omega)))
  have b15 : Below w.heap.size w w15 := b14.trans (s15.mono (by omega))
  have R2_15 := Lib.hid (R2_14.out.below s15 (by omega))
  clear R2_14
  have R4_15 := Lib.hid (R4_14.out.below s15 (by omega))
  clear R4_14
  have R7_15 := Lib.hid (R7_14.out.below s15 (by omega))
  clear R7_14
  clear hb15 s15
  go_wp2
  go_ret
  exact ⟨rfl, b15⟩

set_option maxHeartbeats 1000000 in
theorem big (A : Option Addr) (n c : Nat) (bs : Int) (most : Int) (w : World) (hn : 1048576 < n) (hm : n ≤ maxLen) :
    Calls Try.prog 8 #[.slice A n c, .int .i64 bs, .int .i64 most] w fun e w' => e = .returned (.bool true) ∧ Below w.heap.size w w' := by
  unfold maxLen at hm
  have hn' : (1048576 : Int) < (n : Int) := by omega
  go_enter Try.func8, Try.ntmps8
  go_wp2
  go_ret
  exact ⟨rfl, Below.refl _ _⟩

theorem walk (A : Option Addr) (n c : Nat) (X : Nat → Int) (bs : Int) (most : Int) (w : World) (le : n ≤ c) (mx : c ≤ maxLen) (sl : Sl w A n 1 X) (wf : ∀ j, j < n * 1 → (Lit.int .i64 (X j)).wf = true) (x0 : (Lit.int .i64 bs).wf = true) (x1 : (Lit.int .i64 most).wf = true) :
    Calls Try.prog 8 #[.slice A n c, .int .i64 bs, .int .i64 most] w fun e w' => e = .returned (.bool true) ∧ Below w.heap.size w w' := by
  by_cases hn : n ≤ 1048576
  · have hm : n ≤ maxLen := by omega
    cases hv : rodsB n X
    · have hc : codeR n X bs most 1 := .inl ⟨hv, rfl⟩
      exact core A n c X bs most [] (by simp) 1 w hn sl (fun A' c' w h => fit_s_no A' n c' X bs most w hm h 1 hc) (fun A' c' w h => fit_i_no A' n c' X bs most w hm h 1 hc)
    cases hb : (inB bs 0 5 && inB most 3 60)
    · have hc : codeR n X bs most 2 := .inr ⟨hv, hb, rfl⟩
      exact core A n c X bs most [] (by simp) 2 w hn sl (fun A' c' w h => fit_s_no A' n c' X bs most w hm h 2 hc) (fun A' c' w h => fit_i_no A' n c' X bs most w hm h 2 hc)
    · rw [Bool.and_eq_true] at hb
      have hl := stk_len (fitB X n bs) (most - 2).toNat
      have hmm := (inB_of hb.2).2
      exact core A n c X bs most (stk (fitB X n bs) (most - 2).toNat) (by omega) 0 w hn sl (fun A' c' w h => fit_s A' n c' X bs most w hm h hv hb.1 hb.2) (fun A' c' w h => fit_i A' n c' X bs most w hm h hv hb.1 hb.2)
  · exact big A n c bs most w (by omega) (by omega)

theorem own : ownKnob Try.prog.godebug = none := by kernel_rfl
theorem laidOut : laidOutB Try.prog = true := by kernel_rfl

set_option maxRecDepth 100000 in
theorem lifted (os : Os) (started : os.Started) (H : Type) (enc : TypeId × Value → H) :
    ReturnsInHanded {} Try.checked os 8 .any (Rows.fnExactStakesForRodsSpec.pre6 enc Try.prog Try.f8 Rows.fnExactStakesForRodsRow.domain false) (Rows.fnExactStakesForRodsSpec.post enc Try.prog Try.f8 false true false false) := by
  refine returnsInHanded_of_change (C := Try.checked) own started (by kernel_rfl) Try.func8
    (ChangeSpec.witness6 (enc := enc) (C := Try.checked) false ⟨#[], #[.slice none 0 0, .int .i64 0, .int .i64 0], []⟩ 8 (by kernel_rfl) (by kernel_rfl) (by kernel_rfl) (by kernel_rfl)) ?_
  intro W base args ds gs before hval0 hW hcnd hreach
  have hval : ∀ (j : Nat) t v, Try.f8.params[j]? = some t → args[j]? = some v → Value.okWide Try.prog W .any base t v := hval0
  have hW' := hW
  obtain ⟨p, q, hA0, hV, rfl, hfz, hnd⟩ := hW
  have hA : DataW.TrodAll enc Try.prog W 0 (fun _ => true) true Try.f8.params.toList args.toList ds p := hA0
  rw [Try.params8] at hA hval
  obtain ⟨v0, vs0, d0, ds0, p0, q0, hargs, rfl, rfl, h0, r0⟩ := trodAll_cons hA
  obtain ⟨v1, vs1, d1, ds1, p1, q1, hargs1, rfl, rfl, h1, r1⟩ := trodAll_cons r0
  obtain ⟨v2, vs2, d2, ds2, p2, q2, hargs2, rfl, rfl, h2, r2⟩ := trodAll_cons r1
  obtain ⟨rfl, rfl, rfl⟩ := trodAll_nil r2
  obtain rfl : args = #[v0, v1, v2] := by cases args; simp_all
  obtain ⟨rfl, rfl⟩ := trodVars_none hV
  have k0 := h0
  have lt0 : ∀ x ∈ p0, x.block < W.heap.size := by obtain ⟨m, hm⟩ := k0; exact DataW.trod_lt m _ _ _ hm
  obtain ⟨a0, len0, cap0, rfl⟩ := okWide_slice Try.underlying22 (hval 0 22 v0 rfl rfl)
  obtain ⟨le0, mx0, X0, sl0, wf0⟩ : len0 ≤ cap0 ∧ cap0 ≤ maxLen ∧ ∃ X : Nat → Int, Sl W a0 len0 1 X ∧ ∀ j, j < len0 * 1 → (Lit.int .i64 (X j)).wf = true := by
    obtain ⟨fuel, hf⟩ := h0
    exact open_nums Try.underlying22 Try.underlying2 (by kernel_rfl) hf
  have k1 := h1
  have lt1 : ∀ x ∈ p1, x.block < W.heap.size := by obtain ⟨m, hm⟩ := k1; exact DataW.trod_lt m _ _ _ hm
  obtain ⟨a1, rfl, rfl, rfl, w1⟩ := open_int Try.underlying2 (hval 1 2 v1 rfl rfl) h1
  have k2 := h2
  have lt2 : ∀ x ∈ p2, x.block < W.heap.size := by obtain ⟨m, hm⟩ := k2; exact DataW.trod_lt m _ _ _ hm
  obtain ⟨a2, rfl, rfl, rfl, w2⟩ := open_int Try.underlying2 (hval 2 2 v2 rfl rfl) h2
  clear hA0 hval0
  refine (walk a0 len0 cap0 X0 a1 a2 W le0 mx0 sl0 wf0 w1 w2).mono fun e W' ⟨he, bel⟩ => ?_
  subst he
  exact ⟨_, rfl, _, _, _, [], _, [], hW', trodAll_mk1 (shut_bool Try.underlying4 _), (trodAll_cons_mk (Below.trod laidOut (by kernel_rfl) (of_decide_eq_true (by kernel_rfl)) k0 bel lt0) (trodAll_cons_mk (Below.trod laidOut (by kernel_rfl) (of_decide_eq_true (by kernel_rfl)) k1 bel lt1) (trodAll_cons_mk (Below.trod laidOut (by kernel_rfl) (of_decide_eq_true (by kernel_rfl)) k2 bel lt2) trodAll_mk0))), rfl, bel.frame _, fun h => by cases h⟩

theorem over : Rows.fnExactStakesForRodsRow.holds Try.pinned (OpenSpec.ofChange Rows.fnExactStakesForRodsSpec) :=
  OpenClaim.holds_of_wide 8 Try.f8 rfl rfl rfl rfl rfl rfl rfl ⟨rfl, rfl, rfl, rfl, rfl⟩ rfl rfl rfl rfl rfl (by kernel_rfl) Try.func8 (by kernel_rfl)
    (of_decide_eq_true (by kernel_rfl)) (by unfold Func.isWrapper; first | (rw [if_pos (by decide +kernel)]; kernel_rfl) | (rw [if_neg (by decide +kernel)]; exact ⟨rfl, rfl⟩))
    (fun os started H enc _ => lifted os started H enc)

theorem proved : Rows.FnExactStakesForRodsSaid := over

end Go.Proofs.Ytjemhkjfahoelaa.fnExactStakesForRods
