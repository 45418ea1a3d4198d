/-
  For every text and all numbers, FnExactCoversOf returns true: CoversOf of the program gives the stakes and the code of the model, in a row of its own. No condition.
-/
import Derived.Test.YtgfnagkelhbplaaVc
import Derived.ShutString
import Derived.ChangeOld
import Derived.Lib.SmallJoins
namespace Go.Proofs.Ytgfnagkelhbplaa.fnExactCoversOf
open Go.ChangeShapes Go.WideShapes Go.ChangeAt Go.RowKit Go.Joins
open Go.ChangeMaps (open_string shut_string)
open Go.Proofs.Ytgfnagkelhbplaa.mem Go.Proofs.Ytgfnagkelhbplaa.rod Go.Proofs.Ytgfnagkelhbplaa.brd Go.Proofs.Ytgfnagkelhbplaa.nums
set_option linter.unusedVariables false

set_option maxHeartbeats 2000000 in
theorem core (s : ByteArray) (a k : Int) (l : List Int) (hl : l.length ≤ 1048576) (r1 : Int) (w : World) (hs : s.size ≤ 1048576)
    (hspec : Hid (∀ w, Calls Try.prog 19 #[.string s, .int .i64 a, .int .i64 k] w (fun e w' => ∃ A c, e = .returned (.tuple #[.slice A l.length c, .int .i64 r1]) ∧ l.length ≤ c ∧ c ≤ maxLen ∧ Row w' w.heap.size w'.heap.size A l.length 1 2 (fun j => l.getD j 0) ∧ Below w.heap.size w w')))
    (himpl : Hid (∀ w, Calls Try.prog 20 #[.string s, .int .i64 a, .int .i64 k] w (fun e w' => ∃ A c, e = .returned (.tuple #[.slice A l.length c, .int .i64 r1]) ∧ l.length ≤ c ∧ c ≤ maxLen ∧ Row w' w.heap.size w'.heap.size A l.length 1 2 (fun j => l.getD j 0) ∧ Below w.heap.size w w'))) :
    Calls Try.prog 5 #[.string s, .int .i64 a, .int .i64 k] w fun e w' => e = .returned (.bool true) ∧ Below w.heap.size w w' := by
  have hq : ¬ (1048576 : Int) < (s.size : Int) := by omega
  have hml : l.length ≤ maxLen := by unfold maxLen; omega
  generalize hL : l.length = L at *
  have HL := Lib.hid hL
  clear hL
  have hlt0 : ¬ (1 + (L : Int)) < 0 := by omega
  have b0 : Below w.heap.size w w := Below.refl _ _
  go_enter Try.func5, Try.ntmps5
  go_wp2_with fail
  refine (hspec.out _).mono ?_
  rintro e w1 ⟨A1, c1, he1, k1, m1, r1_, hb1⟩
  try rw [HL.out] at he1
  try rw [HL.out] at k1
  try rw [HL.out] at r1_
  subst he1
  have z1 := hb1.size
  have b1 : Below w.heap.size w w1 := b0.trans (hb1.mono (by omega))
  have R1_1 := Lib.hid r1_
  clear r1_ hb1 b0
  go_wp2_with fail
  refine (himpl.out _).mono ?_
  rintro e w2 ⟨A2, c2, he2, k2, m2, r2_, hb2⟩
  try rw [HL.out] at he2
  try rw [HL.out] at k2
  try rw [HL.out] at r2_
  subst he2
  have z2 := hb2.size
  have b2 : Below w.heap.size w w2 := b1.trans (hb2.mono (by omega))
  have R1_2 := Lib.hid (R1_1.out.below hb2 (by omega))
  have R2_2 := Lib.hid r2_
  clear R1_1 r2_ hb2 b1
  go_wp2_with fail
  refine (eqInts_b A2 A1 L c2 c1 (fun j => l.getD j 0) _ hml R2_2.out.sl R1_2.out.sl).mono ?_
  rintro e w3 ⟨rfl, hb3⟩
  have z3 := hb3.size
  have b3 : Below w.heap.size w w3 := b2.trans (hb3.mono (by omega))
  have R1_3 := Lib.hid (R1_2.out.below hb3 (by omega))
  have R2_3 := Lib.hid (R2_2.out.below hb3 (by omega))
  clear R1_2 R2_2 hb3 b2
  go_wp2_with fail
  refine (markInts_c A2 L c2 w1.heap.size w2.heap.size 1 (fun j => l.getD j 0) _ hl (by omega) (by omega) R2_3.out).mono ?_
  rintro e w4 ⟨rfl, r4_, hw4⟩
  have z4 := hw4.size
  have b4 : Below w.heap.size w w4 := b3.trans (hw4.below (by omega) (by omega))
  have R1_4 := Lib.hid (R1_3.out.wrote hw4 (by omega))
  have R2_4 := Lib.hid r4_
  clear R1_3 R2_3 r4_ hw4 b3
  go_wp2_with fail
  refine (heldInts_b A2 L c2 1 _ hl (by omega) (by omega) R2_4.out.sl).mono ?_
  rintro e w5 ⟨rfl, hb5⟩
  have z5 := hb5.size
  have b5 : Below w.heap.size w w5 := b4.trans (hb5.mono (by omega))
  have R1_5 := Lib.hid (R1_4.out.below hb5 (by omega))
  have R2_5 := Lib.hid (R2_4.out.below hb5 (by omega))
  clear R1_4 R2_4 hb5 b4
  go_wp2_with fail
  refine (himpl.out _).mono ?_
  rintro e w6 ⟨A6, c6, he6, k6, m6, r6_, hb6⟩
  try rw [HL.out] at he6
  try rw [HL.out] at k6
  try rw [HL.out] at r6_
  subst he6
  have z6 := hb6.size
  have b6 : Below w.heap.size w w6 := b5.trans (hb6.mono (by omega))
  have R1_6 := Lib.hid (R1_5.out.below hb6 (by omega))
  have R2_6 := Lib.hid (R2_5.out.below hb6 (by omega))
  have R6_6 := Lib.hid r6_
  clear R1_5 R2_5 r6_ hb6 b5
  go_wp2_with fail
  refine (eqInts_b A6 A1 L c6 c1 (fun j => l.getD j 0) _ hml R6_6.out.sl R1_6.out.sl).mono ?_
  rintro e w7 ⟨rfl, hb7⟩
  have z7 := hb7.size
  have b7 : Below w.heap.size w w7 := b6.trans (hb7.mono (by omega))
  have R2_7 := Lib.hid (R2_6.out.below hb7 (by omega))
  clear R1_6 R2_6 R6_6 hb7 b6
  go_wp2_with fail
  refine (heldInts_b A2 L c2 1 _ hl (by omega) (by omega) R2_7.out.sl).mono ?_
  rintro e w8 ⟨rfl, hb8⟩
  have b8 : Below w.heap.size w w8 := b7.trans (hb8.mono (by omega))
  clear hb8 b7
  go_wp2
  go_ret
  exact ⟨rfl, b8⟩

set_option maxHeartbeats 1000000 in
theorem big (s : ByteArray) (a k : Int) (w : World) (h : 1048576 < s.size) (hm : s.size ≤ maxLen) :
    Calls Try.prog 5 #[.string s, .int .i64 a, .int .i64 k] w fun e w' => e = .returned (.bool true) ∧ Below w.heap.size w w' := by
  unfold maxLen at hm
  have hq : (1048576 : Int) < (s.size : Int) := by omega
  go_enter Try.func5, Try.ntmps5
  go_wp2
  go_ret
  exact ⟨rfl, Below.refl _ _⟩

theorem walk (s : ByteArray) (a k : Int) (w : World) (wf : s.size ≤ maxLen) (x1 : (Lit.int .i64 a).wf = true) (x2 : (Lit.int .i64 k).wf = true) :
    Calls Try.prog 5 #[.string s, .int .i64 a, .int .i64 k] w fun e w' => e = .returned (.bool true) ∧ Below w.heap.size w w' := by
  by_cases h : s.size ≤ 1048576
  · by_cases hc : codeK s a k = 0
    · obtain ⟨q1, st, kk, rfl, rfl, h1, h2, h3⟩ := stakes_nat hc
      exact core s st kk (ovL s st kk s.size) (by rw [ovL_len]; have := cntB_le s s.size; omega) 0 w h (fun w => cov_s s st kk w q1 h1 h2 h3) (fun w => cov_i s st kk w q1 h1 h2 h3)
    · exact core s a k [] (by simp) (codeK s a k) w h (fun w => cov_s_no s a k _ w h rfl hc) (fun w => cov_i_no s a k _ w h rfl hc)
  · exact big s a k w (by omega) wf

theorem own : ownKnob Try.prog.godebug = none := by kernel_rfl
theorem laidOut : laidOutB Try.prog = true := by kernel_rfl

set_option maxRecDepth 100000 in
theorem lifted (os : Os) (started : os.Started) (H : Type) (enc : TypeId × Value → H) :
    ReturnsInHanded {} Try.checked os 5 .any (Rows.fnExactCoversOfSpec.pre6 enc Try.prog Try.f5 Rows.fnExactCoversOfRow.domain false) (Rows.fnExactCoversOfSpec.post enc Try.prog Try.f5 false true false false) := by
  refine returnsInHanded_of_change (C := Try.checked) own started (by kernel_rfl) Try.func5
    (ChangeSpec.witness6 (enc := enc) (C := Try.checked) false ⟨#[], #[.string ByteArray.empty, .int .i64 0, .int .i64 0], []⟩ 8 (by kernel_rfl) (by kernel_rfl) (by kernel_rfl) (by kernel_rfl)) ?_
  intro W base args ds gs before hval0 hW hcnd hreach
  have hval : ∀ (j : Nat) t v, Try.f5.params[j]? = some t → args[j]? = some v → Value.okWide Try.prog W .any base t v := hval0
  have hW' := hW
  obtain ⟨p, q, hA0, hV, rfl, hfz, hnd⟩ := hW
  have hA : DataW.TrodAll enc Try.prog W 0 (fun _ => true) true Try.f5.params.toList args.toList ds p := hA0
  rw [Try.params5] at hA hval
  obtain ⟨v0, vs0, d0, ds0, p0, q0, hargs, rfl, rfl, h0, r0⟩ := trodAll_cons hA
  obtain ⟨v1, vs1, d1, ds1, p1, q1, hargs1, rfl, rfl, h1, r1⟩ := trodAll_cons r0
  obtain ⟨v2, vs2, d2, ds2, p2, q2, hargs2, rfl, rfl, h2, r2⟩ := trodAll_cons r1
  obtain ⟨rfl, rfl, rfl⟩ := trodAll_nil r2
  obtain rfl : args = #[v0, v1, v2] := by cases args; simp_all
  obtain ⟨rfl, rfl⟩ := trodVars_none hV
  have k0 := h0
  have lt0 : ∀ x ∈ p0, x.block < W.heap.size := by obtain ⟨m, hm⟩ := k0; exact DataW.trod_lt m _ _ _ hm
  obtain ⟨s0, rfl, rfl, rfl, w0⟩ := open_string Try.underlying9 (hval 0 9 v0 rfl rfl) h0
  have k1 := h1
  have lt1 : ∀ x ∈ p1, x.block < W.heap.size := by obtain ⟨m, hm⟩ := k1; exact DataW.trod_lt m _ _ _ hm
  obtain ⟨a1, rfl, rfl, rfl, w1⟩ := open_int Try.underlying2 (hval 1 2 v1 rfl rfl) h1
  have k2 := h2
  have lt2 : ∀ x ∈ p2, x.block < W.heap.size := by obtain ⟨m, hm⟩ := k2; exact DataW.trod_lt m _ _ _ hm
  obtain ⟨a2, rfl, rfl, rfl, w2⟩ := open_int Try.underlying2 (hval 2 2 v2 rfl rfl) h2
  clear hA0 hval0
  refine (walk s0 a1 a2 W w0 w1 w2).mono fun e W' ⟨he, bel⟩ => ?_
  subst he
  exact ⟨_, rfl, _, _, _, [], _, [], hW', trodAll_mk1 (shut_bool Try.underlying4 _), (trodAll_cons_mk (Below.trod laidOut (by kernel_rfl) (of_decide_eq_true (by kernel_rfl)) k0 bel lt0) (trodAll_cons_mk (Below.trod laidOut (by kernel_rfl) (of_decide_eq_true (by kernel_rfl)) k1 bel lt1) (trodAll_cons_mk (Below.trod laidOut (by kernel_rfl) (of_decide_eq_true (by kernel_rfl)) k2 bel lt2) trodAll_mk0))), rfl, bel.frame _, fun h => by cases h⟩

theorem over : Rows.fnExactCoversOfRow.holds Try.pinned (OpenSpec.ofChange Rows.fnExactCoversOfSpec) :=
  OpenClaim.holds_of_wide 5 Try.f5 rfl rfl rfl rfl rfl rfl rfl ⟨rfl, rfl, rfl, rfl, rfl⟩ rfl rfl rfl rfl rfl (by kernel_rfl) Try.func5 (by kernel_rfl)
    (of_decide_eq_true (by kernel_rfl)) (by unfold Func.isWrapper; first | (rw [if_pos (by decide +kernel)]; kernel_rfl) | (rw [if_neg (by decide +kernel)]; exact ⟨rfl, rfl⟩))
    (fun os started H enc _ => lifted os started H enc)

theorem proved : Rows.FnExactCoversOfSaid := over

end Go.Proofs.Ytgfnagkelhbplaa.fnExactCoversOf
