/-
  For any two numbers, FnExactLockedWords returns true: LockedWords of the program gives the words and the code of the model, in a row of its own. No condition.
-/
import Derived.Test.YtgfnagkelhbplaaVj
import Derived.Test.YtgfnagkelhbplaaTexts
import Derived.ShutString
import Derived.ChangeOld
import Derived.Lib.SmallJoins
import Derived.Deep.DeepHandedRow
import Derived.Deep.DeepWitnessRowRef
namespace Go.Proofs.Ytgfnagkelhbplaa.fnExactLockedWords
open Go.ChangeShapes Go.WideShapes Go.ChangeAt Go.RowKit Go.Joins
open Go.ChangeMaps (open_string shut_string)
open Go.Proofs.Ytgfnagkelhbplaa.brd Go.Proofs.Ytgfnagkelhbplaa.rod Go.Proofs.Ytgfnagkelhbplaa.mem Go.Proofs.Ytgfnagkelhbplaa.nums
set_option linter.unusedVariables false

set_option maxHeartbeats 4000000 in
set_option maxRecDepth 100000 in
theorem core (a : Int) (b : Int) (m : Nat) (Tx : Nat → ByteArray) (hlR : m ≤ 1048576) (code : Int) (w : World) 
    (hspec : Hid (∀  (w : World), Calls Try.prog 37 #[.int .i64 a, .int .i64 b] w (fun e w' => ∃ A c, e = .returned (.tuple #[.slice A m c, .int .i64 code]) ∧ m ≤ c ∧ c ≤ maxLen ∧ Go.Proofs.Ytgfnagkelhbplaa.split.RowT w' w.heap.size w'.heap.size A m Tx ∧ Below w.heap.size w w')))
    (himpl : Hid (∀  (w : World), Calls Try.prog 38 #[.int .i64 a, .int .i64 b] w (fun e w' => ∃ A c, e = .returned (.tuple #[.slice A m c, .int .i64 code]) ∧ m ≤ c ∧ c ≤ maxLen ∧ Go.Proofs.Ytgfnagkelhbplaa.split.RowT w' w.heap.size w'.heap.size A m Tx ∧ Below w.heap.size w w'))) :
    Calls Try.prog 11 #[.int .i64 a, .int .i64 b] w fun e w' => e = .returned (.bool true) ∧ Below w.heap.size w w' := by
  have hmR : m ≤ maxLen := by unfold maxLen; omega
  have hlt0 : ¬ ((1 + m : Nat) : Int) < 0 := by omega
  have b0 : Below w.heap.size w w := Below.refl _ _
  go_enter Try.func11, Try.ntmps11
  go_wp2_with fail
  refine (hspec.out  _ ).mono ?_
  rintro e w1 ⟨Aw1, cw1, rfl, kc1, mc1, r1, hb1⟩
  have z1 := hb1.size
  try simp at z1
  have s1 : Below w.heap.size w w1 := Below.trans (by go_grown) (hb1.mono (by first | omega | (simp; done) | (simp; omega)))
  have b1 : Below w.heap.size w w1 := b0.trans (s1.mono (by omega))
  have R1_1 := Lib.hid (r1.wide (lo' := w.heap.size) (by first | omega | (simp; done) | (simp; omega)) (Nat.le_refl _))
  clear r1
  clear hb1 s1
  go_wp2_with fail
  refine (himpl.out  _ ).mono ?_
  rintro e w2 ⟨Aw2, cw2, rfl, kc2, mc2, r2, hb2⟩
  have z2 := hb2.size
  try simp at z2
  have s2 : Below w1.heap.size w1 w2 := Below.trans (by go_grown) (hb2.mono (by first | omega | (simp; done) | (simp; omega)))
  have b2 : Below w.heap.size w w2 := b1.trans (s2.mono (by omega))
  have R1_2 := Lib.hid (R1_1.out.below s2 (by omega))
  clear R1_1
  have R2_2 := Lib.hid (r2.wide (lo' := w1.heap.size) (by first | omega | (simp; done) | (simp; omega)) (Nat.le_refl _))
  clear r2
  clear hb2 s2
  go_wp2_with fail
  refine (Go.Proofs.Ytgfnagkelhbplaa.split.eqStrs_same Aw2 Aw1 m cw2 cw1 Tx _ hmR (R2_2.out.sl) (R1_2.out.sl)).mono ?_
  rintro e w3 ⟨rfl, m3, hd3⟩
  have hb3 : Below w2.heap.size w2 w3 := by rw [hd3]; exact drewN_below (Below.refl _ _) m3
  clear hd3
  have z3 := hb3.size
  try simp at z3
  have s3 : Below w2.heap.size w2 w3 := Below.trans (by go_grown) (hb3.mono (by first | omega | (simp; done) | (simp; omega)))
  have b3 : Below w.heap.size w w3 := b2.trans (s3.mono (by omega))
  have R1_3 := Lib.hid (R1_2.out.below s3 (by omega))
  clear R1_2
  have R2_3 := Lib.hid (R2_2.out.below s3 (by omega))
  clear R2_2
  clear hb3 s3
  go_wp2_with fail
  refine (Go.Proofs.Ytgfnagkelhbplaa.split.markStrs_c Aw2 m cw2 _ _ Tx _ (by omega) R2_3.out (by omega)).mono ?_
  rintro e w4 ⟨rfl, r4, hw4⟩
  have z4 := hw4.size
  try simp at z4
  have b4 : Below w.heap.size w w4 := b3.trans (hw4.below (by omega) (by omega))
  have R1_4 := Lib.hid (R1_3.out.wrote hw4 (by omega))
  clear R1_3
  have R2_4 := Lib.hid r4
  clear r4 hw4 R2_3
  go_wp2_with fail
  refine (Go.Proofs.Ytgfnagkelhbplaa.split.heldStrs_c Aw2 m cw2 _ (by omega) R2_4.out.sl).mono ?_
  rintro e w5 ⟨rfl, hb5⟩
  have z5 := hb5.size
  try simp at z5
  have s5 : Below w4.heap.size w4 w5 := Below.trans (by go_grown) (hb5.mono (by first | omega | (simp; done) | (simp; omega)))
  have b5 : Below w.heap.size w w5 := b4.trans (s5.mono (by omega))
  have R1_5 := Lib.hid (R1_4.out.below s5 (by omega))
  clear R1_4
  have R2_5 := Lib.hid (R2_4.out.below s5 (by omega))
  clear R2_4
  clear hb5 s5
  go_wp2_with fail
  refine (himpl.out  _ ).mono ?_
  rintro e w6 ⟨Aw6, cw6, rfl, kc6, mc6, r6, hb6⟩
  have z6 := hb6.size
  try simp at z6
  have s6 : Below w5.heap.size w5 w6 := Below.trans (by go_grown) (hb6.mono (by first | omega | (simp; done) | (simp; omega)))
  have b6 : Below w.heap.size w w6 := b5.trans (s6.mono (by omega))
  have R1_6 := Lib.hid (R1_5.out.below s6 (by omega))
  clear R1_5
  have R2_6 := Lib.hid (R2_5.out.below s6 (by omega))
  clear R2_5
  have R3_6 := Lib.hid (r6.wide (lo' := w5.heap.size) (by first | omega | (simp; done) | (simp; omega)) (Nat.le_refl _))
  clear r6
  clear hb6 s6
  go_wp2_with fail
  refine (Go.Proofs.Ytgfnagkelhbplaa.split.eqStrs_same Aw6 Aw1 m cw6 cw1 Tx _ hmR (R3_6.out.sl) (R1_6.out.sl)).mono ?_
  rintro e w7 ⟨rfl, m7, hd7⟩
  have hb7 : Below w6.heap.size w6 w7 := by rw [hd7]; exact drewN_below (Below.refl _ _) m7
  clear hd7
  have z7 := hb7.size
  try simp at z7
  have s7 : Below w6.heap.size w6 w7 := Below.trans (by go_grown) (hb7.mono (by first | omega | (simp; done) | (simp; omega)))
  have b7 : Below w.heap.size w w7 := b6.trans (s7.mono (by omega))
  have R1_7 := Lib.hid (R1_6.out.below s7 (by omega))
  clear R1_6
  have R2_7 := Lib.hid (R2_6.out.below s7 (by omega))
  clear R2_6
  have R3_7 := Lib.hid (R3_6.out.below s7 (by omega))
  clear R3_6
  clear hb7 s7
  go_wp2_with fail
  refine (Go.Proofs.Ytgfnagkelhbplaa.split.heldStrs_c Aw2 m cw2 _ (by omega) R2_7.out.sl).mono ?_
  rintro e w8 ⟨rfl, hb8⟩
  have z8 := hb8.size
  try simp at z8
  have s8 : Below w7.heap.size w7 w8 := Below.trans (by go_grown) (hb8.mono (by first | omega | (simp; done) | (simp; omega)))
  have b8 : Below w.heap.size w w8 := b7.trans (s8.mono (by omega))
  have R1_8 := Lib.hid (R1_7.out.below s8 (by omega))
  clear R1_7
  have R2_8 := Lib.hid (R2_7.out.below s8 (by omega))
  clear R2_7
  have R3_8 := Lib.hid (R3_7.out.below s8 (by omega))
  clear R3_7
  clear hb8 s8
  go_wp2
  go_ret
  exact ⟨rfl, b8⟩

theorem walk (a : Int) (b : Int) (w : World) (x1 : (Lit.int .i64 a).wf = true) (x2 : (Lit.int .i64 b).wf = true) :
    Calls Try.prog 11 #[.int .i64 a, .int .i64 b] w fun e w' => e = .returned (.bool true) ∧ Below w.heap.size w w' := by
  cases hv : lkB a b
  · exact core a b 0 (fun j => toB (([] : List (List Bool)).getD j [])) (by omega) 2 w (fun w => locked_s_no a b w x1 hv) (fun w => locked_i_no a b w hv)
  · unfold lkB at hv
    rw [Bool.and_eq_true] at hv
    have h1 := inB_of hv.1
    have h2 := inB_of hv.2
    obtain ⟨n, rfl⟩ : ∃ n : Nat, a = (n : Int) := ⟨a.toNat, by omega⟩
    obtain ⟨st, rfl⟩ : ∃ st : Nat, b = (st : Int) := ⟨b.toNat, by omega⟩
    have hl := listW_few (n := n) (by omega)
    have hf : (lckL st (listW n)).length ≤ (listW n).length := by unfold lckL; exact List.length_filter_le _ _
    exact core n st (lckL st (listW n)).length (fun j => toB ((lckL st (listW n)).getD j [])) (by omega) 0 w (fun w => locked_s n st w (by omega) (by omega) (by omega) (by omega)) (fun w => locked_i n st w (by omega) (by omega) (by omega) (by omega))

theorem own : ownKnob Try.prog.godebug = none := by kernel_rfl
theorem laidOut : laidOutB Try.prog = true := by kernel_rfl

set_option maxRecDepth 100000 in
theorem lifted (os : Os) (started : os.Started) (H : Type) (enc : TypeId × Value → H) :
    ReturnsInHanded {} Try.checked os 11 .any (Rows.fnExactLockedWordsSpec.pre6 enc Try.prog Try.f11 Rows.fnExactLockedWordsRow.domain false) (Rows.fnExactLockedWordsSpec.post enc Try.prog Try.f11 false true false false) := by
  refine returnsInHanded_of_change (C := Try.checked) own started (by kernel_rfl) Try.func11
    (ChangeSpec.witness6 (enc := enc) (C := Try.checked) false ⟨#[], #[.int .i64 0, .int .i64 0], []⟩ 8 (by kernel_rfl) (by kernel_rfl) (by kernel_rfl) (by kernel_rfl)) ?_
  intro W base args ds gs before hval0 hW hcnd hreach
  have hval : ∀ (j : Nat) t v, Try.f11.params[j]? = some t → args[j]? = some v → Value.okWide Try.prog W .any base t v := hval0
  have hW' := hW
  obtain ⟨p, q, hA0, hV, rfl, hfz, hnd⟩ := hW
  have hA : DataW.TrodAll enc Try.prog W 0 (fun _ => true) true Try.f11.params.toList args.toList ds p := hA0
  rw [Try.params11] at hA hval
  obtain ⟨v0, vs0, d0, ds0, p0, q0, hargs, rfl, rfl, h0, r0⟩ := trodAll_cons hA
  obtain ⟨v1, vs1, d1, ds1, p1, q1, hargs1, rfl, rfl, h1, r1⟩ := trodAll_cons r0
  obtain ⟨rfl, rfl, rfl⟩ := trodAll_nil r1
  obtain rfl : args = #[v0, v1] := by cases args; simp_all
  obtain ⟨rfl, rfl⟩ := trodVars_none hV
  have k0 := h0
  have lt0 : ∀ x ∈ p0, x.block < W.heap.size := by obtain ⟨m, hm⟩ := k0; exact DataW.trod_lt m _ _ _ hm
  obtain ⟨a0, rfl, rfl, rfl, w0⟩ := open_int Try.underlying2 (hval 0 2 v0 rfl rfl) h0
  have k1 := h1
  have lt1 : ∀ x ∈ p1, x.block < W.heap.size := by obtain ⟨m, hm⟩ := k1; exact DataW.trod_lt m _ _ _ hm
  obtain ⟨a1, rfl, rfl, rfl, w1⟩ := open_int Try.underlying2 (hval 1 2 v1 rfl rfl) h1
  clear hA0 hval0
  refine (walk a0 a1 W w0 w1).mono fun e W' ⟨he, bel⟩ => ?_
  subst he
  exact ⟨_, rfl, _, _, _, [], _, [], hW', trodAll_mk1 (shut_bool Try.underlying4 _), (trodAll_cons_mk (Below.trod laidOut (by kernel_rfl) (of_decide_eq_true (by kernel_rfl)) k0 bel lt0) (trodAll_cons_mk (Below.trod laidOut (by kernel_rfl) (of_decide_eq_true (by kernel_rfl)) k1 bel lt1) trodAll_mk0)), rfl, bel.frame _, fun h => by cases h⟩

theorem over : Rows.fnExactLockedWordsRow.holds Try.pinned (OpenSpec.ofChange Rows.fnExactLockedWordsSpec) :=
  OpenClaim.holds_of_wide 11 Try.f11 rfl rfl rfl rfl rfl rfl rfl ⟨rfl, rfl, rfl, rfl, rfl⟩ rfl rfl rfl rfl rfl (by kernel_rfl) Try.func11 (by kernel_rfl)
    (of_decide_eq_true (by kernel_rfl)) (by unfold Func.isWrapper; first | (rw [if_pos (by decide +kernel)]; kernel_rfl) | (rw [if_neg (by decide +kernel)]; exact ⟨rfl, rfl⟩))
    (fun os started H enc _ => lifted os started H enc)

theorem proved : Rows.FnExactLockedWordsSaid := over

end Go.Proofs.Ytgfnagkelhbplaa.fnExactLockedWords
