/-
  For every list of rods, FnExactLongestFirst returns true: LongestFirst of the program gives the places and the code of the model, keeps the list, and its answer is memory of its own. No condition.
-/
import Derived.Test.YtcpaenmhnoagdabLong
import Derived.Test.YtcpaenmhnoagdabOpen
namespace Go.Proofs.Ytcpaenmhnoagdab.fnExactLongestFirst
open Go.ChangeShapes Go.WideShapes Go.ChangeAt Go.RowKit Go.Joins
open Go.ChangeMaps (open_string shut_string)
open Go.Proofs.Ytcpaenmhnoagdab.rod Go.Proofs.Ytcpaenmhnoagdab.mem Go.Proofs.Ytcpaenmhnoagdab.nums
set_option linter.unusedVariables false

set_option maxHeartbeats 4000000 in
set_option maxRecDepth 100000 in
theorem core (A : Option Addr) (n c : Nat) (X : Nat → Int) (l : List Int) (code : Int) (hl : l.length ≤ 1048576) (w : World) (hnn : n ≤ 1048576) (hX : Sl w A n 3 X)
    (hspec : Hid (∀ (A' : Option Addr) (c' : Nat) (w : World), Sl w A' n 3 X → Calls Try.prog 27 #[.slice A' n c'] w (NumsCode w 2 l code)))
    (himpl : Hid (∀ (A' : Option Addr) (c' : Nat) (w : World), Sl w A' n 3 X → Calls Try.prog 28 #[.slice A' n c'] w (NumsCode w 2 l code))) :
    Calls Try.prog 5 #[.slice A n c] w fun e w' => e = .returned (.bool true) ∧ Below w.heap.size w w' := by
  have HX := Lib.hid hX
  clear hX
  have hmn : n ≤ maxLen := by unfold maxLen; omega
  have hqn : ¬ (1048576 : Int) < (n : Int) := by omega
  have hrn : ¬ (1048576 - (n : Int)) < 0 := by omega
  have hml : l.length ≤ maxLen := by unfold maxLen; omega
  generalize hL : l.length = L at *
  have HL := Lib.hid hL
  clear hL
  have b0 : Below w.heap.size w w := Below.refl _ _
  go_enter Try.func5, Try.ntmps5
  go_wp2_with fail
  refine (sz_c A n c _ hnn).mono ?_
  rintro e w0 ⟨rfl, rfl⟩
  go_wp2_with fail
  refine (toRodS_c A n c X _ hnn HX.out).mono ?_
  rintro e w1 ⟨Aw1, cw1, rfl, kc1, mc1, r1, hb1⟩
  have z1 := hb1.size
  have b1 : Below w.heap.size w w1 := b0.trans (hb1.mono (by omega))
  have R1_1 := Lib.hid r1
  clear r1 hb1
  go_wp2_with fail
  refine (hspec.out _ _ _ R1_1.out.sl).mono ?_
  rintro e w2 ⟨Aw2, cw2, he2, kc2, mc2, r2, hb2⟩
  rw [HL.out] at he2 kc2 r2
  subst he2
  have z2 := hb2.size
  have b2 : Below w.heap.size w w2 := b1.trans (hb2.mono (by omega))
  have R1_2 := Lib.hid (R1_1.out.below hb2 (by omega))
  clear R1_1
  have R2_2 := Lib.hid r2
  clear r2 hb2
  clear R1_2
  go_wp2_with fail
  refine (toRodS_c A n c X _ hnn (Sl.below HX.out b2 (Nat.le_refl _))).mono ?_
  rintro e w3 ⟨Aw3, cw3, rfl, kc3, mc3, r3, hb3⟩
  have z3 := hb3.size
  have b3 : Below w.heap.size w w3 := b2.trans (hb3.mono (by omega))
  have R2_3 := Lib.hid (R2_2.out.below hb3 (by omega))
  clear R2_2
  have R3_3 := Lib.hid r3
  clear r3 hb3
  go_wp2_with fail
  refine (himpl.out _ _ _ R3_3.out.sl).mono ?_
  rintro e w4 ⟨Aw4, cw4, he4, kc4, mc4, r4, hb4⟩
  rw [HL.out] at he4 kc4 r4
  subst he4
  have z4 := hb4.size
  have b4 : Below w.heap.size w w4 := b3.trans (hb4.mono (by omega))
  have R2_4 := Lib.hid (R2_3.out.below hb4 (by omega))
  clear R2_3
  have R3_4 := Lib.hid (R3_3.out.below hb4 (by omega))
  clear R3_3
  have R4_4 := Lib.hid r4
  clear r4 hb4
  go_wp2_with fail
  refine (eqInts_b Aw4 Aw2 L cw4 cw2 (fun j => l.getD j 0) _ hml R4_4.out.sl R2_4.out.sl).mono ?_
  rintro e w5 ⟨rfl, hb5⟩
  have z5 := hb5.size
  have b5 : Below w.heap.size w w5 := b4.trans (hb5.mono (by omega))
  have R2_5 := Lib.hid (R2_4.out.below hb5 (by omega))
  clear R2_4
  have R3_5 := Lib.hid (R3_4.out.below hb5 (by omega))
  clear R3_4
  have R4_5 := Lib.hid (R4_4.out.below hb5 (by omega))
  clear R4_4
  clear hb5
  go_wp2_with fail
  refine (toRodS_c A n c X _ hnn (Sl.below HX.out b5 (Nat.le_refl _))).mono ?_
  rintro e w6 ⟨Aw6, cw6, rfl, kc6, mc6, r6, hb6⟩
  have z6 := hb6.size
  have b6 : Below w.heap.size w w6 := b5.trans (hb6.mono (by omega))
  have R2_6 := Lib.hid (R2_5.out.below hb6 (by omega))
  clear R2_5
  have R3_6 := Lib.hid (R3_5.out.below hb6 (by omega))
  clear R3_5
  have R4_6 := Lib.hid (R4_5.out.below hb6 (by omega))
  clear R4_5
  have R5_6 := Lib.hid r6
  clear r6 hb6
  go_wp2_with fail
  refine (eqRodS_same Aw3 Aw6 n cw3 cw6 X _ hmn R3_6.out.sl R5_6.out.sl).mono ?_
  rintro e w7 ⟨rfl, hb7⟩
  have z7 := hb7.size
  have b7 : Below w.heap.size w w7 := b6.trans (hb7.mono (by omega))
  have R2_7 := Lib.hid (R2_6.out.below hb7 (by omega))
  clear R2_6
  have R3_7 := Lib.hid (R3_6.out.below hb7 (by omega))
  clear R3_6
  have R4_7 := Lib.hid (R4_6.out.below hb7 (by omega))
  clear R4_6
  have R5_7 := Lib.hid (R5_6.out.below hb7 (by omega))
  clear R5_6
  clear hb7
  clear R5_7
  go_wp2_with fail
  refine (markRodS_c Aw3 n cw3 _ _ _ _ _ hnn (by omega) (by omega) R3_7.out).mono ?_
  rintro e w8 ⟨rfl, r8, hw8⟩
  have z8 := hw8.size
  have b8 : Below w.heap.size w w8 := b7.trans (hw8.below (by omega) (by omega))
  have R2_8 := Lib.hid (R2_7.out.wrote hw8 (by omega))
  clear R2_7
  have R4_8 := Lib.hid (R4_7.out.wrote hw8 (by omega))
  clear R4_7
  have R3_8 := Lib.hid r8
  clear r8 hw8 R3_7
  clear R3_8
  go_wp2_with fail
  refine (eqInts_b Aw4 Aw2 L cw4 cw2 (fun j => l.getD j 0) _ hml R4_8.out.sl R2_8.out.sl).mono ?_
  rintro e w9 ⟨rfl, hb9⟩
  have z9 := hb9.size
  have b9 : Below w.heap.size w w9 := b8.trans (hb9.mono (by omega))
  have R2_9 := Lib.hid (R2_8.out.below hb9 (by omega))
  clear R2_8
  have R4_9 := Lib.hid (R4_8.out.below hb9 (by omega))
  clear R4_8
  clear hb9
  go_wp2_with fail
  refine (markInts_c Aw4 L cw4 _ _ 1 _ _ hl (by omega) (by omega) R4_9.out).mono ?_
  rintro e w10 ⟨rfl, r10, hw10⟩
  have z10 := hw10.size
  have b10 : Below w.heap.size w w10 := b9.trans (hw10.below (by omega) (by omega))
  have R2_10 := Lib.hid (R2_9.out.wrote hw10 (by omega))
  clear R2_9
  have R4_10 := Lib.hid r10
  clear r10 hw10 R4_9
  go_wp2_with fail
  refine (heldInts_b Aw4 L cw4 1 _ hl (by omega) (by omega) R4_10.out.sl).mono ?_
  rintro e w11 ⟨rfl, hb11⟩
  have z11 := hb11.size
  have b11 : Below w.heap.size w w11 := b10.trans (hb11.mono (by omega))
  have R2_11 := Lib.hid (R2_10.out.below hb11 (by omega))
  clear R2_10
  have R4_11 := Lib.hid (R4_10.out.below hb11 (by omega))
  clear R4_10
  clear hb11
  go_wp2_with fail
  refine (toRodS_c A n c X _ hnn (Sl.below HX.out b11 (Nat.le_refl _))).mono ?_
  rintro e w12 ⟨Aw12, cw12, rfl, kc12, mc12, r12, hb12⟩
  have z12 := hb12.size
  have b12 : Below w.heap.size w w12 := b11.trans (hb12.mono (by omega))
  have R2_12 := Lib.hid (R2_11.out.below hb12 (by omega))
  clear R2_11
  have R4_12 := Lib.hid (R4_11.out.below hb12 (by omega))
  clear R4_11
  have R6_12 := Lib.hid r12
  clear r12 hb12
  go_wp2_with fail
  refine (himpl.out _ _ _ R6_12.out.sl).mono ?_
  rintro e w13 ⟨Aw13, cw13, he13, kc13, mc13, r13, hb13⟩
  rw [HL.out] at he13 kc13 r13
  subst he13
  have z13 := hb13.size
  have b13 : Below w.heap.size w w13 := b12.trans (hb13.mono (by omega))
  have R2_13 := Lib.hid (R2_12.out.below hb13 (by omega))
  clear R2_12
  have R4_13 := Lib.hid (R4_12.out.below hb13 (by omega))
  clear R4_12
  have R6_13 := Lib.hid (R6_12.out.below hb13 (by omega))
  clear R6_12
  have R7_13 := Lib.hid r13
  clear r13 hb13
  clear R6_13
  go_wp2_with fail
  refine (eqInts_b Aw13 Aw2 L cw13 cw2 (fun j => l.getD j 0) _ hml R7_13.out.sl R2_13.out.sl).mono ?_
  rintro e w14 ⟨rfl, hb14⟩
  have z14 := hb14.size
  have b14 : Below w.heap.size w w14 := b13.trans (hb14.mono (by omega))
  have R2_14 := Lib.hid (R2_13.out.below hb14 (by omega))
  clear R2_13
  have R4_14 := Lib.hid (R4_13.out.below hb14 (by omega))
  clear R4_13
  have R7_14 := Lib.hid (R7_13.out.below hb14 (by omega))
  clear R7_13
  clear hb14
  go_wp2_with fail
  refine (heldInts_b Aw4 L cw4 1 _ hl (by omega) (by omega) R4_14.out.sl).mono ?_
  rintro e w15 ⟨rfl, hb15⟩
  have z15 := hb15.size
  have b15 : Below w.heap.size w w15 := b14.trans (hb15.mono (by omega))
  have R2_15 := Lib.hid (R2_14.out.below hb15 (by omega))
  clear R2_14
  have R4_15 := Lib.hid (R4_14.out.below hb15 (by omega))
  clear R4_14
  have R7_15 := Lib.hid (R7_14.out.below hb15 (by omega))
  clear R7_14
  clear hb15
  go_wp2
  go_ret
  exact ⟨rfl, b15⟩

set_option maxHeartbeats 1000000 in
theorem big (A : Option Addr) (n c : Nat) (w : World) (hn : 1048576 < n) (hm : n ≤ maxLen) :
    Calls Try.prog 5 #[.slice A n c] w fun e w' => e = .returned (.bool true) ∧ Below w.heap.size w w' := by
  go_enter Try.func5, Try.ntmps5
  go_wp2_with fail
  refine (sz_big A n c _ hn hm).mono ?_
  rintro e w0 ⟨rfl, rfl⟩
  go_wp2
  go_ret
  exact ⟨rfl, Below.refl _ _⟩

theorem walk (A : Option Addr) (n c : Nat) (X : Nat → Int) (w : World) (le : n ≤ c) (mx : c ≤ maxLen) (sl : Sl w A n 3 X) (wf : ∀ j, j < n * 3 → (Lit.int .i64 (X j)).wf = true) :
    Calls Try.prog 5 #[.slice A n c] w fun e w' => e = .returned (.bool true) ∧ Below w.heap.size w w' := by
  by_cases hn : n ≤ 1048576
  · have hm : n ≤ maxLen := by omega
    cases hv : listB n X
    · exact core A n c X [] 1 (by simp) w hn sl (fun A c w h => longest_s_no A n c X w hm hv h) (fun A c w h => longest_i_no A n c X w hm hv h)
    · exact core A n c X _ 0 (by rw [soI_len]; exact hn) w hn sl (fun A c w h => longest_s A n c X w hv h) (fun A c w h => longest_i A n c X w hv h)
  · exact big A n c w (by omega) (by omega)

theorem own : ownKnob Try.prog.godebug = none := by kernel_rfl
theorem laidOut : laidOutB Try.prog = true := by kernel_rfl

set_option maxRecDepth 100000 in
theorem lifted (os : Os) (started : os.Started) (H : Type) (enc : TypeId × Value → H) :
    ReturnsInHanded {} Try.checked os 5 .any (Rows.fnExactLongestFirstSpec.pre6 enc Try.prog Try.f5 Rows.fnExactLongestFirstRow.domain false) (Rows.fnExactLongestFirstSpec.post enc Try.prog Try.f5 false true false false) := by
  refine returnsInHanded_of_change (C := Try.checked) own started (by kernel_rfl) Try.func5
    (ChangeSpec.witness6 (enc := enc) (C := Try.checked) false ⟨#[], #[.slice none 0 0], []⟩ 8 (by kernel_rfl) (by kernel_rfl) (by kernel_rfl) (by kernel_rfl)) ?_
  intro W base args ds gs before hval0 hW hcnd hreach
  have hval : ∀ (j : Nat) t v, Try.f5.params[j]? = some t → args[j]? = some v → Value.okWide Try.prog W .any base t v := hval0
  have hW' := hW
  obtain ⟨p, q, hA0, hV, rfl, hfz, hnd⟩ := hW
  have hA : DataW.TrodAll enc Try.prog W 0 (fun _ => true) true Try.f5.params.toList args.toList ds p := hA0
  rw [Try.params5] at hA hval
  obtain ⟨v0, vs0, d0, ds0, p0, q0, hargs, rfl, rfl, h0, r0⟩ := trodAll_cons hA
  obtain ⟨rfl, rfl, rfl⟩ := trodAll_nil r0
  obtain rfl : args = #[v0] := by cases args; simp_all
  obtain ⟨rfl, rfl⟩ := trodVars_none hV
  have k0 := h0
  have lt0 : ∀ x ∈ p0, x.block < W.heap.size := by obtain ⟨m, hm⟩ := k0; exact DataW.trod_lt m _ _ _ hm
  obtain ⟨a0, len0, cap0, rfl⟩ := okWide_slice Try.underlying22 (hval 0 22 v0 rfl rfl)
  obtain ⟨le0, mx0, X0, sl0, wf0⟩ : len0 ≤ cap0 ∧ cap0 ≤ maxLen ∧ ∃ X : Nat → Int, Sl W a0 len0 3 X ∧ ∀ j, j < len0 * 3 → (Lit.int .i64 (X j)).wf = true := by
    obtain ⟨fuel, hf⟩ := h0
    exact open_flat Try.underlying22 Try.underlying87 (by kernel_rfl) (by kernel_rfl) (by simp) (by intro j f hf; rcases j with _ | _ | _ | j <;> simp at hf <;> (subst hf; exact Try.underlying2)) hf
  clear hA0 hval0
  refine (walk a0 len0 cap0 X0 W le0 mx0 sl0 wf0).mono fun e W' ⟨he, bel⟩ => ?_
  subst he
  exact ⟨_, rfl, _, _, _, [], _, [], hW', trodAll_mk1 (shut_bool Try.underlying4 _), (trodAll_cons_mk (Below.trod laidOut (by kernel_rfl) (of_decide_eq_true (by kernel_rfl)) k0 bel lt0) trodAll_mk0), rfl, bel.frame _, fun h => by cases h⟩

theorem over : Rows.fnExactLongestFirstRow.holds Try.pinned (OpenSpec.ofChange Rows.fnExactLongestFirstSpec) :=
  OpenClaim.holds_of_wide 5 Try.f5 rfl rfl rfl rfl rfl rfl rfl ⟨rfl, rfl, rfl, rfl, rfl⟩ rfl rfl rfl rfl rfl (by kernel_rfl) Try.func5 (by kernel_rfl)
    (of_decide_eq_true (by kernel_rfl)) (by unfold Func.isWrapper; first | (rw [if_pos (by decide +kernel)]; kernel_rfl) | (rw [if_neg (by decide +kernel)]; exact ⟨rfl, rfl⟩))
    (fun os started H enc _ => lifted os started H enc)

theorem proved : Rows.FnExactLongestFirstSaid := over

end Go.Proofs.Ytcpaenmhnoagdab.fnExactLongestFirst
