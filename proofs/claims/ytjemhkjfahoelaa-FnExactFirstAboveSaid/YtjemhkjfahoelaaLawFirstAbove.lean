/-
  For every number, list of numbers and number, FnExactFirstAbove returns true: FirstAbove of the program gives the number and the code of the model, and keeps the list. No condition.
-/
import Derived.Test.YtjemhkjfahoelaaJg
namespace Go.Proofs.Ytjemhkjfahoelaa.fnExactFirstAbove
open Go.ChangeShapes Go.WideShapes Go.ChangeAt Go.RowKit Go.Joins
open Go.ChangeMaps (open_string shut_string)
open Go.Proofs.Ytjemhkjfahoelaa.jns Go.Proofs.Ytjemhkjfahoelaa.rod Go.Proofs.Ytjemhkjfahoelaa.mem Go.Proofs.Ytjemhkjfahoelaa.nums
set_option linter.unusedVariables false

set_option maxHeartbeats 4000000 in
set_option maxRecDepth 100000 in
theorem core (st : Int) (A : Option Addr) (n c : Nat) (X : Nat → Int) (bs : Int) (r : Int) (code : Int) (w : World) (hnn : n ≤ 1048576) (hX : Sl w A n 1 X)
    (hspec : Hid (∀ (A' : Option Addr) (c' : Nat) (w : World), Sl w A' n 1 X → Calls Try.prog 20 #[.int .i64 st, .slice A' n c', .int .i64 bs] w (fun e w' => e = .returned (.tuple #[.int .i64 r, .int .i64 code]) ∧ Below w.heap.size w w')))
    (himpl : Hid (∀ (A' : Option Addr) (c' : Nat) (w : World), Sl w A' n 1 X → Calls Try.prog 21 #[.int .i64 st, .slice A' n c', .int .i64 bs] w (fun e w' => e = .returned (.tuple #[.int .i64 r, .int .i64 code]) ∧ Below w.heap.size w w'))) :
    Calls Try.prog 6 #[.int .i64 st, .slice A n c, .int .i64 bs] w fun e w' => e = .returned (.bool true) ∧ Below w.heap.size w w' := by
  have HX := Lib.hid hX
  clear hX
  have hmn : n ≤ maxLen := by unfold maxLen; omega
  have hqn : ¬ (1048576 : Int) < (n : Int) := by omega
  have b0 : Below w.heap.size w w := Below.refl _ _
  go_enter Try.func6, Try.ntmps6
  go_wp2_with fail
  refine (toInts_c A n c X _ hnn (Sl.below HX.out b0 (Nat.le_refl _))).mono ?_
  rintro e w1 ⟨Aw1, cw1, rfl, kc1, mc1, r1, hb1⟩
  have z1 := hb1.size
  try simp at z1
  have s1 : Below w.heap.size w w1 := Below.trans (by go_grown) (hb1.mono (by first | omega | (simp; done) | (simp; omega)))
  have b1 : Below w.heap.size w w1 := b0.trans (s1.mono (by omega))
  have R1_1 := Lib.hid (r1.wide (lo' := w.heap.size) (by first | omega | (simp; done) | (simp; omega)) (Nat.le_refl _))
  clear r1
  clear hb1 s1
  go_wp2_with fail
  refine (hspec.out _ _ _ (R1_1.out.sl)).mono ?_
  rintro e w2 ⟨rfl, hb2⟩
  have z2 := hb2.size
  try simp at z2
  have s2 : Below w1.heap.size w1 w2 := Below.trans (by go_grown) (hb2.mono (by first | omega | (simp; done) | (simp; omega)))
  have b2 : Below w.heap.size w w2 := b1.trans (s2.mono (by omega))
  have R1_2 := Lib.hid (R1_1.out.below s2 (by omega))
  clear R1_1
  clear hb2 s2
  clear R1_2
  go_wp2_with fail
  refine (toInts_c A n c X _ hnn (Sl.below HX.out b2 (Nat.le_refl _))).mono ?_
  rintro e w3 ⟨Aw3, cw3, rfl, kc3, mc3, r3, hb3⟩
  have z3 := hb3.size
  try simp at z3
  have s3 : Below w2.heap.size w2 w3 := Below.trans (by go_grown) (hb3.mono (by first | omega | (simp; done) | (simp; omega)))
  have b3 : Below w.heap.size w w3 := b2.trans (s3.mono (by omega))
  have R2_3 := Lib.hid (r3.wide (lo' := w2.heap.size) (by first | omega | (simp; done) | (simp; omega)) (Nat.le_refl _))
  clear r3
  clear hb3 s3
  go_wp2_with fail
  refine (himpl.out _ _ _ (R2_3.out.sl)).mono ?_
  rintro e w4 ⟨rfl, hb4⟩
  have z4 := hb4.size
  try simp at z4
  have s4 : Below w3.heap.size w3 w4 := Below.trans (by go_grown) (hb4.mono (by first | omega | (simp; done) | (simp; omega)))
  have b4 : Below w.heap.size w w4 := b3.trans (s4.mono (by omega))
  have R2_4 := Lib.hid (R2_3.out.below s4 (by omega))
  clear R2_3
  clear hb4 s4
  go_wp2_with fail
  refine (toInts_c A n c X _ hnn (Sl.below HX.out b4 (Nat.le_refl _))).mono ?_
  rintro e w5 ⟨Aw5, cw5, rfl, kc5, mc5, r5, hb5⟩
  have z5 := hb5.size
  try simp at z5
  have s5 : Below w4.heap.size w4 w5 := Below.trans (by go_grown) (hb5.mono (by first | omega | (simp; done) | (simp; omega)))
  have b5 : Below w.heap.size w w5 := b4.trans (s5.mono (by omega))
  have R2_5 := Lib.hid (R2_4.out.below s5 (by omega))
  clear R2_4
  have R3_5 := Lib.hid (r5.wide (lo' := w4.heap.size) (by first | omega | (simp; done) | (simp; omega)) (Nat.le_refl _))
  clear r5
  clear hb5 s5
  go_wp2_with fail
  refine (eqInts_b Aw3 Aw5 n cw3 cw5 X _ hmn (R2_5.out.sl) (R3_5.out.sl)).mono ?_
  rintro e w6 ⟨rfl, hb6⟩
  have z6 := hb6.size
  try simp at z6
  have s6 : Below w5.heap.size w5 w6 := Below.trans (by go_grown) (hb6.mono (by first | omega | (simp; done) | (simp; omega)))
  have b6 : Below w.heap.size w w6 := b5.trans (s6.mono (by omega))
  have R2_6 := Lib.hid (R2_5.out.below s6 (by omega))
  clear R2_5
  have R3_6 := Lib.hid (R3_5.out.below s6 (by omega))
  clear R3_5
  clear hb6 s6
  clear R3_6
  go_wp2
  go_ret
  exact ⟨rfl, b6⟩

set_option maxHeartbeats 1000000 in
theorem big (st : Int) (A : Option Addr) (n c : Nat) (bs : Int) (w : World) (hn : 1048576 < n) (hm : n ≤ maxLen) :
    Calls Try.prog 6 #[.int .i64 st, .slice A n c, .int .i64 bs] w fun e w' => e = .returned (.bool true) ∧ Below w.heap.size w w' := by
  unfold maxLen at hm
  have hn' : (1048576 : Int) < (n : Int) := by omega
  go_enter Try.func6, Try.ntmps6
  go_wp2
  go_ret
  exact ⟨rfl, Below.refl _ _⟩

theorem walk (st : Int) (A : Option Addr) (n c : Nat) (X : Nat → Int) (bs : Int) (w : World) (y0 : (Lit.int .i64 st).wf = true) (le : n ≤ c) (mx : c ≤ maxLen) (sl : Sl w A n 1 X) (wf : ∀ j, j < n * 1 → (Lit.int .i64 (X j)).wf = true) (x0 : (Lit.int .i64 bs).wf = true) :
    Calls Try.prog 6 #[.int .i64 st, .slice A n c, .int .i64 bs] w fun e w' => e = .returned (.bool true) ∧ Below w.heap.size w w' := by
  by_cases hn : n ≤ 1048576
  · have hm : n ≤ maxLen := by omega
    cases hv : laidB st n X
    · have hc : codeB st n X bs 1 := .inl ⟨hv, rfl⟩
      exact core st A n c X bs 0 1 w hn sl (fun A' c' w h => first_s_no st A' n c' X bs w hm h 1 hc) (fun A' c' w h => first_i_no st A' n c' X bs w hm h 1 hc)
    cases hb : inB bs 0 5
    · have hc : codeB st n X bs 2 := .inr ⟨hv, hb, rfl⟩
      exact core st A n c X bs 0 2 w hn sl (fun A' c' w h => first_s_no st A' n c' X bs w hm h 2 hc) (fun A' c' w h => first_i_no st A' n c' X bs w hm h 2 hc)
    by_cases hz : (abv X st bs n).length = 0
    · exact core st A n c X bs 0 3 w hn sl (fun A' c' w h => first_s_none st A' n c' X bs w hm h hv hb hz) (fun A' c' w h => first_i_none st A' n c' X bs w hm h hv hb hz)
    · exact core st A n c X bs _ 0 w hn sl (fun A' c' w h => first_s st A' n c' X bs w hm h hv hb (by omega)) (fun A' c' w h => first_i st A' n c' X bs w hm h hv hb (by omega))
  · exact big st A n c bs w (by omega) (by omega)

theorem own : ownKnob Try.prog.godebug = none := by kernel_rfl
theorem laidOut : laidOutB Try.prog = true := by kernel_rfl

set_option maxRecDepth 100000 in
theorem lifted (os : Os) (started : os.Started) (H : Type) (enc : TypeId × Value → H) :
    ReturnsInHanded {} Try.checked os 6 .any (Rows.fnExactFirstAboveSpec.pre6 enc Try.prog Try.f6 Rows.fnExactFirstAboveRow.domain false) (Rows.fnExactFirstAboveSpec.post enc Try.prog Try.f6 false true false false) := by
  refine returnsInHanded_of_change (C := Try.checked) own started (by kernel_rfl) Try.func6
    (ChangeSpec.witness6 (enc := enc) (C := Try.checked) false ⟨#[], #[.int .i64 0, .slice none 0 0, .int .i64 0], []⟩ 8 (by kernel_rfl) (by kernel_rfl) (by kernel_rfl) (by kernel_rfl)) ?_
  intro W base args ds gs before hval0 hW hcnd hreach
  have hval : ∀ (j : Nat) t v, Try.f6.params[j]? = some t → args[j]? = some v → Value.okWide Try.prog W .any base t v := hval0
  have hW' := hW
  obtain ⟨p, q, hA0, hV, rfl, hfz, hnd⟩ := hW
  have hA : DataW.TrodAll enc Try.prog W 0 (fun _ => true) true Try.f6.params.toList args.toList ds p := hA0
  rw [Try.params6] at hA hval
  obtain ⟨v0, vs0, d0, ds0, p0, q0, hargs, rfl, rfl, h0, r0⟩ := trodAll_cons hA
  obtain ⟨v1, vs1, d1, ds1, p1, q1, hargs1, rfl, rfl, h1, r1⟩ := trodAll_cons r0
  obtain ⟨v2, vs2, d2, ds2, p2, q2, hargs2, rfl, rfl, h2, r2⟩ := trodAll_cons r1
  obtain ⟨rfl, rfl, rfl⟩ := trodAll_nil r2
  obtain rfl : args = #[v0, v1, v2] := by cases args; simp_all
  obtain ⟨rfl, rfl⟩ := trodVars_none hV
  have k0 := h0
  have lt0 : ∀ x ∈ p0, x.block < W.heap.size := by obtain ⟨m, hm⟩ := k0; exact DataW.trod_lt m _ _ _ hm
  obtain ⟨a0, rfl, rfl, rfl, w0⟩ := open_int Try.underlying2 (hval 0 2 v0 rfl rfl) h0
  have k1 := h1
  have lt1 : ∀ x ∈ p1, x.block < W.heap.size := by obtain ⟨m, hm⟩ := k1; exact DataW.trod_lt m _ _ _ hm
  obtain ⟨a1, len1, cap1, rfl⟩ := okWide_slice Try.underlying22 (hval 1 22 v1 rfl rfl)
  obtain ⟨le1, mx1, X1, sl1, wf1⟩ : len1 ≤ cap1 ∧ cap1 ≤ maxLen ∧ ∃ X : Nat → Int, Sl W a1 len1 1 X ∧ ∀ j, j < len1 * 1 → (Lit.int .i64 (X j)).wf = true := by
    obtain ⟨fuel, hf⟩ := h1
    exact open_nums Try.underlying22 Try.underlying2 (by kernel_rfl) hf
  have k2 := h2
  have lt2 : ∀ x ∈ p2, x.block < W.heap.size := by obtain ⟨m, hm⟩ := k2; exact DataW.trod_lt m _ _ _ hm
  obtain ⟨a2, rfl, rfl, rfl, w2⟩ := open_int Try.underlying2 (hval 2 2 v2 rfl rfl) h2
  clear hA0 hval0
  refine (walk a0 a1 len1 cap1 X1 a2 W w0 le1 mx1 sl1 wf1 w2).mono fun e W' ⟨he, bel⟩ => ?_
  subst he
  exact ⟨_, rfl, _, _, _, [], _, [], hW', trodAll_mk1 (shut_bool Try.underlying4 _), (trodAll_cons_mk (Below.trod laidOut (by kernel_rfl) (of_decide_eq_true (by kernel_rfl)) k0 bel lt0) (trodAll_cons_mk (Below.trod laidOut (by kernel_rfl) (of_decide_eq_true (by kernel_rfl)) k1 bel lt1) (trodAll_cons_mk (Below.trod laidOut (by kernel_rfl) (of_decide_eq_true (by kernel_rfl)) k2 bel lt2) trodAll_mk0))), rfl, bel.frame _, fun h => by cases h⟩

theorem over : Rows.fnExactFirstAboveRow.holds Try.pinned (OpenSpec.ofChange Rows.fnExactFirstAboveSpec) :=
  OpenClaim.holds_of_wide 6 Try.f6 rfl rfl rfl rfl rfl rfl rfl ⟨rfl, rfl, rfl, rfl, rfl⟩ rfl rfl rfl rfl rfl (by kernel_rfl) Try.func6 (by kernel_rfl)
    (of_decide_eq_true (by kernel_rfl)) (by unfold Func.isWrapper; first | (rw [if_pos (by decide +kernel)]; kernel_rfl) | (rw [if_neg (by decide +kernel)]; exact ⟨rfl, rfl⟩))
    (fun os started H enc _ => lifted os started H enc)

theorem proved : Rows.FnExactFirstAboveSaid := over

end Go.Proofs.Ytjemhkjfahoelaa.fnExactFirstAbove
