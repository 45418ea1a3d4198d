/-
  For any two lists of bundles, FnExactSameBunches returns true: SameBunches of the program gives the answer of the model, and keeps both lists. No condition.
-/
import Derived.Test.YtcpaenmhnoagdaaSameU
import Derived.Test.YtcpaenmhnoagdaaOpen
namespace Go.Proofs.Ytcpaenmhnoagdaa.fnExactSameBunches
open Go.ChangeShapes Go.WideShapes Go.ChangeAt Go.RowKit Go.Joins
open Go.ChangeMaps (open_string shut_string)
open Go.Proofs.Ytcpaenmhnoagdaa.rod Go.Proofs.Ytcpaenmhnoagdaa.mem
set_option linter.unusedVariables false

set_option maxHeartbeats 4000000 in
set_option maxRecDepth 100000 in
theorem core (A : Option Addr) (n c : Nat) (X : Nat → Int) (A2 : Option Addr) (n2 c2 : Nat) (Z : Nat → Int) (v : Bool) (w : World) (hnn : n ≤ 1048576) (hX : Sl w A n 3 X) (hnn2 : n2 ≤ 1048576) (hZ : Sl w A2 n2 3 Z) (hsum : n + n2 ≤ 1048576)
    (hspec : Hid (∀ (A' : Option Addr) (c' : Nat) (A2' : Option Addr) (c2' : Nat) (w : World), Sl w A' n 3 X → Sl w A2' n2 3 Z → Calls Try.prog 18 #[.slice A' n c', .slice A2' n2 c2'] w (fun e w' => e = .returned (.bool v) ∧ Below w.heap.size w w')))
    (himpl : Hid (∀ (A' : Option Addr) (c' : Nat) (A2' : Option Addr) (c2' : Nat) (w : World), Sl w A' n 3 X → Sl w A2' n2 3 Z → Calls Try.prog 19 #[.slice A' n c', .slice A2' n2 c2'] w (fun e w' => e = .returned (.bool v) ∧ Below w.heap.size w w'))) :
    Calls Try.prog 4 #[.slice A n c, .slice A2 n2 c2] w fun e w' => e = .returned (.bool true) ∧ Below w.heap.size w w' := by
  have HX := Lib.hid hX
  clear hX
  have hmn : n ≤ maxLen := by unfold maxLen; omega
  have hqn : ¬ (1048576 : Int) < (n : Int) := by omega
  have HZ := Lib.hid hZ
  clear hZ
  have hmn2 : n2 ≤ maxLen := by unfold maxLen; omega
  have hqn2 : ¬ (1048576 : Int) < (n2 : Int) := by omega
  have hrn : ¬ (1048576 - (n : Int)) < 0 := by omega
  have hrn2 : ¬ ((1048576 - n) - (n2 : Int)) < 0 := by omega
  have b0 : Below w.heap.size w w := Below.refl _ _
  go_enter Try.func4, Try.ntmps4
  go_wp2_with fail
  refine (szBunchS_c A n c 1048576 _ (by omega) (by omega)).mono ?_
  rintro e w1 ⟨rfl, hb1⟩
  have z1 := hb1.size
  try simp at z1
  have s1 : Below w.heap.size w w1 := Below.trans (by go_grown) (hb1.mono (by first | omega | (simp; done) | (simp; omega)))
  have b1 : Below w.heap.size w w1 := b0.trans (s1.mono (by omega))
  clear hb1 s1
  go_wp2_with fail
  refine (szBunchS_c A2 n2 c2 (1048576 - n) _ (by omega) (by omega)).mono ?_
  rintro e w2 ⟨rfl, hb2⟩
  have z2 := hb2.size
  try simp at z2
  have s2 : Below w1.heap.size w1 w2 := Below.trans (by go_grown) (hb2.mono (by first | omega | (simp; done) | (simp; omega)))
  have b2 : Below w.heap.size w w2 := b1.trans (s2.mono (by omega))
  clear hb2 s2
  go_wp2_with fail
  refine (toBunchS_c A n c X _ hnn (Sl.below HX.out b2 (Nat.le_refl _))).mono ?_
  rintro e w3 ⟨Aw3, cw3, rfl, kc3, mc3, r3, hb3⟩
  have z3 := hb3.size
  try simp at z3
  have s3 : Below w2.heap.size w2 w3 := Below.trans (by go_grown) (hb3.mono (by first | omega | (simp; done) | (simp; omega)))
  have b3 : Below w.heap.size w w3 := b2.trans (s3.mono (by omega))
  have R1_3 := Lib.hid (r3.wide (lo' := w2.heap.size) (by first | omega | (simp; done) | (simp; omega)) (Nat.le_refl _))
  clear r3
  clear hb3 s3
  go_wp2_with fail
  refine (toBunchS_c A2 n2 c2 Z _ hnn2 (Sl.below HZ.out b3 (Nat.le_refl _))).mono ?_
  rintro e w4 ⟨Aw4, cw4, rfl, kc4, mc4, r4, hb4⟩
  have z4 := hb4.size
  try simp at z4
  have s4 : Below w3.heap.size w3 w4 := Below.trans (by go_grown) (hb4.mono (by first | omega | (simp; done) | (simp; omega)))
  have b4 : Below w.heap.size w w4 := b3.trans (s4.mono (by omega))
  have R1_4 := Lib.hid (R1_3.out.below s4 (by omega))
  clear R1_3
  have R2_4 := Lib.hid (r4.wide (lo' := w3.heap.size) (by first | omega | (simp; done) | (simp; omega)) (Nat.le_refl _))
  clear r4
  clear hb4 s4
  go_wp2_with fail
  refine (hspec.out _ _ _ _ _ (R1_4.out.sl) (R2_4.out.sl)).mono ?_
  rintro e w5 ⟨rfl, hb5⟩
  have z5 := hb5.size
  try simp at z5
  have s5 : Below w4.heap.size w4 w5 := Below.trans (by go_grown) (hb5.mono (by first | omega | (simp; done) | (simp; omega)))
  have b5 : Below w.heap.size w w5 := b4.trans (s5.mono (by omega))
  have R1_5 := Lib.hid (R1_4.out.below s5 (by omega))
  clear R1_4
  have R2_5 := Lib.hid (R2_4.out.below s5 (by omega))
  clear R2_4
  clear hb5 s5
  clear R1_5
  clear R2_5
  go_wp2_with fail
  refine (toBunchS_c A n c X _ hnn (Sl.below HX.out b5 (Nat.le_refl _))).mono ?_
  rintro e w6 ⟨Aw6, cw6, rfl, kc6, mc6, r6, hb6⟩
  have z6 := hb6.size
  try simp at z6
  have s6 : Below w5.heap.size w5 w6 := Below.trans (by go_grown) (hb6.mono (by first | omega | (simp; done) | (simp; omega)))
  have b6 : Below w.heap.size w w6 := b5.trans (s6.mono (by omega))
  have R3_6 := Lib.hid (r6.wide (lo' := w5.heap.size) (by first | omega | (simp; done) | (simp; omega)) (Nat.le_refl _))
  clear r6
  clear hb6 s6
  go_wp2_with fail
  refine (toBunchS_c A2 n2 c2 Z _ hnn2 (Sl.below HZ.out b6 (Nat.le_refl _))).mono ?_
  rintro e w7 ⟨Aw7, cw7, rfl, kc7, mc7, r7, hb7⟩
  have z7 := hb7.size
  try simp at z7
  have s7 : Below w6.heap.size w6 w7 := Below.trans (by go_grown) (hb7.mono (by first | omega | (simp; done) | (simp; omega)))
  have b7 : Below w.heap.size w w7 := b6.trans (s7.mono (by omega))
  have R3_7 := Lib.hid (R3_6.out.below s7 (by omega))
  clear R3_6
  have R4_7 := Lib.hid (r7.wide (lo' := w6.heap.size) (by first | omega | (simp; done) | (simp; omega)) (Nat.le_refl _))
  clear r7
  clear hb7 s7
  go_wp2_with fail
  refine (himpl.out _ _ _ _ _ (R3_7.out.sl) (R4_7.out.sl)).mono ?_
  rintro e w8 ⟨rfl, hb8⟩
  have z8 := hb8.size
  try simp at z8
  have s8 : Below w7.heap.size w7 w8 := Below.trans (by go_grown) (hb8.mono (by first | omega | (simp; done) | (simp; omega)))
  have b8 : Below w.heap.size w w8 := b7.trans (s8.mono (by omega))
  have R3_8 := Lib.hid (R3_7.out.below s8 (by omega))
  clear R3_7
  have R4_8 := Lib.hid (R4_7.out.below s8 (by omega))
  clear R4_7
  clear hb8 s8
  go_wp2_with fail
  refine (toBunchS_c A n c X _ hnn (Sl.below HX.out b8 (Nat.le_refl _))).mono ?_
  rintro e w9 ⟨Aw9, cw9, rfl, kc9, mc9, r9, hb9⟩
  have z9 := hb9.size
  try simp at z9
  have s9 : Below w8.heap.size w8 w9 := Below.trans (by go_grown) (hb9.mono (by first | omega | (simp; done) | (simp; omega)))
  have b9 : Below w.heap.size w w9 := b8.trans (s9.mono (by omega))
  have R3_9 := Lib.hid (R3_8.out.below s9 (by omega))
  clear R3_8
  have R4_9 := Lib.hid (R4_8.out.below s9 (by omega))
  clear R4_8
  have R5_9 := Lib.hid (r9.wide (lo' := w8.heap.size) (by first | omega | (simp; done) | (simp; omega)) (Nat.le_refl _))
  clear r9
  clear hb9 s9
  go_wp2_with fail
  refine (eqBunchS_same Aw6 Aw9 n cw6 cw9 X _ hmn (R3_9.out.sl) (R5_9.out.sl)).mono ?_
  rintro e w10 ⟨rfl, hb10⟩
  have z10 := hb10.size
  try simp at z10
  have s10 : Below w9.heap.size w9 w10 := Below.trans (by go_grown) (hb10.mono (by first | omega | (simp; done) | (simp; omega)))
  have b10 : Below w.heap.size w w10 := b9.trans (s10.mono (by omega))
  have R3_10 := Lib.hid (R3_9.out.below s10 (by omega))
  clear R3_9
  have R4_10 := Lib.hid (R4_9.out.below s10 (by omega))
  clear R4_9
  have R5_10 := Lib.hid (R5_9.out.below s10 (by omega))
  clear R5_9
  clear hb10 s10
  clear R5_10
  go_wp2_with fail
  refine (toBunchS_c A2 n2 c2 Z _ hnn2 (Sl.below HZ.out b10 (Nat.le_refl _))).mono ?_
  rintro e w11 ⟨Aw11, cw11, rfl, kc11, mc11, r11, hb11⟩
  have z11 := hb11.size
  try simp at z11
  have s11 : Below w10.heap.size w10 w11 := Below.trans (by go_grown) (hb11.mono (by first | omega | (simp; done) | (simp; omega)))
  have b11 : Below w.heap.size w w11 := b10.trans (s11.mono (by omega))
  have R3_11 := Lib.hid (R3_10.out.below s11 (by omega))
  clear R3_10
  have R4_11 := Lib.hid (R4_10.out.below s11 (by omega))
  clear R4_10
  have R6_11 := Lib.hid (r11.wide (lo' := w10.heap.size) (by first | omega | (simp; done) | (simp; omega)) (Nat.le_refl _))
  clear r11
  clear hb11 s11
  go_wp2_with fail
  refine (eqBunchS_same Aw7 Aw11 n2 cw7 cw11 Z _ hmn2 (R4_11.out.sl) (R6_11.out.sl)).mono ?_
  rintro e w12 ⟨rfl, hb12⟩
  have z12 := hb12.size
  try simp at z12
  have s12 : Below w11.heap.size w11 w12 := Below.trans (by go_grown) (hb12.mono (by first | omega | (simp; done) | (simp; omega)))
  have b12 : Below w.heap.size w w12 := b11.trans (s12.mono (by omega))
  have R3_12 := Lib.hid (R3_11.out.below s12 (by omega))
  clear R3_11
  have R4_12 := Lib.hid (R4_11.out.below s12 (by omega))
  clear R4_11
  have R6_12 := Lib.hid (R6_11.out.below s12 (by omega))
  clear R6_11
  clear hb12 s12
  clear R6_12
  go_wp2
  go_ret
  exact ⟨rfl, b12⟩

set_option maxHeartbeats 1000000 in
theorem big (A : Option Addr) (n c : Nat) (A2 : Option Addr) (n2 c2 : Nat) (w : World) (hm : n ≤ maxLen) (hm2 : n2 ≤ maxLen) (hn : 1048576 < n + n2) :
    Calls Try.prog 4 #[.slice A n c, .slice A2 n2 c2] w fun e w' => e = .returned (.bool true) ∧ Below w.heap.size w w' := by
  by_cases hb : 1048576 < n
  · go_enter Try.func4, Try.ntmps4
    go_wp2_with fail
    refine (szBunchS_big A n c 1048576 _ (by omega) (by omega) (by omega) hm).mono ?_
    rintro e w1 ⟨rfl, hb1⟩
    go_wp2
    go_ret
    exact ⟨rfl, hb1⟩
  · have hr : ¬ (1048576 - (n : Int)) < 0 := by omega
    go_enter Try.func4, Try.ntmps4
    go_wp2_with fail
    refine (szBunchS_c A n c 1048576 _ (by omega) (by omega)).mono ?_
    rintro e w1 ⟨rfl, hb1⟩
    go_wp2_with fail
    refine (szBunchS_big A2 n2 c2 (1048576 - n) _ (by omega) (by omega) (by omega) hm2).mono ?_
    rintro e w2 ⟨rfl, hb2⟩
    have g2 : Below w.heap.size w w2 := hb1.trans (hb2.mono hb1.size)
    clear hb1 hb2
    go_wp2
    go_ret
    exact ⟨rfl, g2⟩

theorem walk (A : Option Addr) (n c : Nat) (X : Nat → Int) (A2 : Option Addr) (n2 c2 : Nat) (Z : Nat → Int) (w : World) (le : n ≤ c) (mx : c ≤ maxLen) (sl : Sl w A n 3 X) (wf : ∀ j, j < n * 3 → (Lit.int .i64 (X j)).wf = true)
    (le2 : n2 ≤ c2) (mx2 : c2 ≤ maxLen) (sl2 : Sl w A2 n2 3 Z) (wf2 : ∀ j, j < n2 * 3 → (Lit.int .i64 (Z j)).wf = true) :
    Calls Try.prog 4 #[.slice A n c, .slice A2 n2 c2] w fun e w' => e = .returned (.bool true) ∧ Below w.heap.size w w' := by
  by_cases hn : n + n2 ≤ 1048576
  · exact core A n c X A2 n2 c2 Z (sameU n n2 X Z) w (by omega) sl (by omega) sl2 (by omega) (fun A' c' B' d' w h k => sameU_s A' B' n n2 c' d' X Z w (by omega) (by omega) h k) (fun A' c' B' d' w h k => sameU_i A' B' n n2 c' d' X Z w (by omega) (by omega) h k)
  · exact big A n c A2 n2 c2 w (by omega) (by omega) (by omega)

theorem own : ownKnob Try.prog.godebug = none := by kernel_rfl
theorem laidOut : laidOutB Try.prog = true := by kernel_rfl

set_option maxRecDepth 100000 in
theorem lifted (os : Os) (started : os.Started) (H : Type) (enc : TypeId × Value → H) :
    ReturnsInHanded {} Try.checked os 4 .any (Rows.fnExactSameBunchesSpec.pre6 enc Try.prog Try.f4 Rows.fnExactSameBunchesRow.domain false) (Rows.fnExactSameBunchesSpec.post enc Try.prog Try.f4 false true false false) := by
  refine returnsInHanded_of_change (C := Try.checked) own started (by kernel_rfl) Try.func4
    (ChangeSpec.witness6 (enc := enc) (C := Try.checked) false ⟨#[], #[.slice none 0 0, .slice none 0 0], []⟩ 8 (by kernel_rfl) (by kernel_rfl) (by kernel_rfl) (by kernel_rfl)) ?_
  intro W base args ds gs before hval0 hW hcnd hreach
  have hval : ∀ (j : Nat) t v, Try.f4.params[j]? = some t → args[j]? = some v → Value.okWide Try.prog W .any base t v := hval0
  have hW' := hW
  obtain ⟨p, q, hA0, hV, rfl, hfz, hnd⟩ := hW
  have hA : DataW.TrodAll enc Try.prog W 0 (fun _ => true) true Try.f4.params.toList args.toList ds p := hA0
  rw [Try.params4] at hA hval
  obtain ⟨v0, vs0, d0, ds0, p0, q0, hargs, rfl, rfl, h0, r0⟩ := trodAll_cons hA
  obtain ⟨v1, vs1, d1, ds1, p1, q1, hargs1, rfl, rfl, h1, r1⟩ := trodAll_cons r0
  obtain ⟨rfl, rfl, rfl⟩ := trodAll_nil r1
  obtain rfl : args = #[v0, v1] := by cases args; simp_all
  obtain ⟨rfl, rfl⟩ := trodVars_none hV
  have k0 := h0
  have lt0 : ∀ x ∈ p0, x.block < W.heap.size := by obtain ⟨m, hm⟩ := k0; exact DataW.trod_lt m _ _ _ hm
  obtain ⟨a0, len0, cap0, rfl⟩ := okWide_slice Try.underlying22 (hval 0 22 v0 rfl rfl)
  obtain ⟨le0, mx0, X0, sl0, wf0⟩ : len0 ≤ cap0 ∧ cap0 ≤ maxLen ∧ ∃ X : Nat → Int, Sl W a0 len0 3 X ∧ ∀ j, j < len0 * 3 → (Lit.int .i64 (X j)).wf = true := by
    obtain ⟨fuel, hf⟩ := h0
    exact open_flat Try.underlying22 Try.underlying59 (by kernel_rfl) (by kernel_rfl) (by simp) (by intro j f hf; rcases j with _ | _ | _ | j <;> simp at hf <;> (subst hf; exact Try.underlying2)) hf
  have k1 := h1
  have lt1 : ∀ x ∈ p1, x.block < W.heap.size := by obtain ⟨m, hm⟩ := k1; exact DataW.trod_lt m _ _ _ hm
  obtain ⟨a1, len1, cap1, rfl⟩ := okWide_slice Try.underlying22 (hval 1 22 v1 rfl rfl)
  obtain ⟨le1, mx1, X1, sl1, wf1⟩ : len1 ≤ cap1 ∧ cap1 ≤ maxLen ∧ ∃ X : Nat → Int, Sl W a1 len1 3 X ∧ ∀ j, j < len1 * 3 → (Lit.int .i64 (X j)).wf = true := by
    obtain ⟨fuel, hf⟩ := h1
    exact open_flat Try.underlying22 Try.underlying59 (by kernel_rfl) (by kernel_rfl) (by simp) (by intro j f hf; rcases j with _ | _ | _ | j <;> simp at hf <;> (subst hf; exact Try.underlying2)) hf
  clear hA0 hval0
  refine (walk a0 len0 cap0 X0 a1 len1 cap1 X1 W le0 mx0 sl0 wf0 le1 mx1 sl1 wf1).mono fun e W' ⟨he, bel⟩ => ?_
  subst he
  exact ⟨_, rfl, _, _, _, [], _, [], hW', trodAll_mk1 (shut_bool Try.underlying4 _), (trodAll_cons_mk (Below.trod laidOut (by kernel_rfl) (of_decide_eq_true (by kernel_rfl)) k0 bel lt0) (trodAll_cons_mk (Below.trod laidOut (by kernel_rfl) (of_decide_eq_true (by kernel_rfl)) k1 bel lt1) trodAll_mk0)), rfl, bel.frame _, fun h => by cases h⟩

theorem over : Rows.fnExactSameBunchesRow.holds Try.pinned (OpenSpec.ofChange Rows.fnExactSameBunchesSpec) :=
  OpenClaim.holds_of_wide 4 Try.f4 rfl rfl rfl rfl rfl rfl rfl ⟨rfl, rfl, rfl, rfl, rfl⟩ rfl rfl rfl rfl rfl (by kernel_rfl) Try.func4 (by kernel_rfl)
    (of_decide_eq_true (by kernel_rfl)) (by unfold Func.isWrapper; first | (rw [if_pos (by decide +kernel)]; kernel_rfl) | (rw [if_neg (by decide +kernel)]; exact ⟨rfl, rfl⟩))
    (fun os started H enc _ => lifted os started H enc)

theorem proved : Rows.FnExactSameBunchesSaid := over

end Go.Proofs.Ytcpaenmhnoagdaa.fnExactSameBunches
