/-
  For every list of rods, FnExactMostAlike returns true: MostAlike of the program gives the two places and the code of the model, and keeps the list. No condition.
-/
import Derived.Test.YtcpaenmhnoagdabMost
import Derived.Test.YtcpaenmhnoagdabNums
import Derived.Test.YtcpaenmhnoagdabOpen
namespace Go.Proofs.Ytcpaenmhnoagdab.fnExactMostAlike
open Go.ChangeShapes Go.WideShapes Go.ChangeAt Go.RowKit Go.Joins
open Go.ChangeMaps (open_string shut_string)
open Go.Proofs.Ytcpaenmhnoagdab.rod Go.Proofs.Ytcpaenmhnoagdab.mem Go.Proofs.Ytcpaenmhnoagdab.nums
set_option linter.unusedVariables false

set_option maxHeartbeats 1000000 in
theorem most_s_bad (A : Option Addr) (n c : Nat) (X : Nat → Int) (w : World) (hn : n ≤ maxLen) (hr : Sl w A n 3 X) (hv : listB n X = false) :
    Calls Try.prog 29 #[.slice A n c] w fun e w' => e = .returned (.tuple #[.int .i64 0, .int .i64 0, .int .i64 1]) ∧ Below w.heap.size w w' := by
  have HR := Lib.hid hr
  clear hr
  go_enter Try.func29, Try.ntmps29
  go_wp2_with (go_at_call 71; refine (ok_s _ n c X _ hn HR.out).mono ?_; rintro e w' ⟨rfl, m0, rfl⟩)
  go_ret3
  exact ⟨rfl, drewN_below (Below.refl _ _) _⟩
set_option maxHeartbeats 1000000 in
theorem most_i_bad (A : Option Addr) (n c : Nat) (X : Nat → Int) (w : World) (hn : n ≤ maxLen) (hr : Sl w A n 3 X) (hv : listB n X = false) :
    Calls Try.prog 30 #[.slice A n c] w fun e w' => e = .returned (.tuple #[.int .i64 0, .int .i64 0, .int .i64 1]) ∧ Below w.heap.size w w' := by
  have HR := Lib.hid hr
  clear hr
  go_enter Try.func30, Try.ntmps30
  go_wp2_with (go_at_call 18; refine (valid_i _ n c X _ hn HR.out).mono ?_; rintro e w1 ⟨rfl, b1⟩)
  go_ret3
  exact ⟨rfl, b1⟩

set_option maxHeartbeats 1000000 in
theorem most_s_few (A : Option Addr) (n c : Nat) (X : Nat → Int) (w : World) (hn : n ≤ maxLen) (hr : Sl w A n 3 X) (hv : listB n X = true) (h2 : n < 2) :
    Calls Try.prog 29 #[.slice A n c] w fun e w' => e = .returned (.tuple #[.int .i64 0, .int .i64 0, .int .i64 3]) ∧ Below w.heap.size w w' := by
  have HR := Lib.hid hr
  clear hr
  have hlt2 : (n : Int) < 2 := by omega
  go_enter Try.func29, Try.ntmps29
  go_wp2_with (go_at_call 71; refine (ok_s _ n c X _ hn HR.out).mono ?_; rintro e w' ⟨rfl, m0, rfl⟩)
  go_ret3
  exact ⟨rfl, drewN_below (Below.refl _ _) _⟩
set_option maxHeartbeats 1000000 in
theorem most_i_few (A : Option Addr) (n c : Nat) (X : Nat → Int) (w : World) (hn : n ≤ maxLen) (hr : Sl w A n 3 X) (hv : listB n X = true) (h2 : n < 2) :
    Calls Try.prog 30 #[.slice A n c] w fun e w' => e = .returned (.tuple #[.int .i64 0, .int .i64 0, .int .i64 3]) ∧ Below w.heap.size w w' := by
  have HR := Lib.hid hr
  clear hr
  have hlt2 : (n : Int) < 2 := by omega
  go_enter Try.func30, Try.ntmps30
  go_wp2_with (go_at_call 18; refine (valid_i _ n c X _ hn HR.out).mono ?_; rintro e w1 ⟨rfl, b1⟩)
  go_ret3
  exact ⟨rfl, b1⟩

set_option maxHeartbeats 4000000 in
set_option maxRecDepth 100000 in
theorem core (A : Option Addr) (n c : Nat) (X : Nat → Int) (r1 r2 code : Int) (w : World) (hnn : n ≤ 1048576) (hX : Sl w A n 3 X)
    (hspec : Hid (∀ (A' : Option Addr) (c' : Nat) (w : World), Sl w A' n 3 X → Calls Try.prog 29 #[.slice A' n c'] w fun e w' => e = .returned (.tuple #[.int .i64 r1, .int .i64 r2, .int .i64 code]) ∧ Below w.heap.size w w'))
    (himpl : Hid (∀ (A' : Option Addr) (c' : Nat) (w : World), Sl w A' n 3 X → Calls Try.prog 30 #[.slice A' n c'] w fun e w' => e = .returned (.tuple #[.int .i64 r1, .int .i64 r2, .int .i64 code]) ∧ Below w.heap.size w w')) :
    Calls Try.prog 6 #[.slice A n c] w fun e w' => e = .returned (.bool true) ∧ Below w.heap.size w w' := by
  have HX := Lib.hid hX
  clear hX
  have hmn : n ≤ maxLen := by unfold maxLen; omega
  have hqn : ¬ (1048576 : Int) < (n : Int) := by omega
  have hrn : ¬ (1048576 - (n : Int)) < 0 := by omega
  have b0 : Below w.heap.size w w := Below.refl _ _
  go_enter Try.func6, Try.ntmps6
  go_wp2_with fail
  refine (sz_c A n c _ hnn).mono ?_
  rintro e w0 ⟨rfl, rfl⟩
  go_wp2_with fail
  refine (toRodS_c A n c X _ hnn HX.out).mono ?_
  rintro e w1 ⟨A1, c1, rfl, kc1, mc1, r1, hb1⟩
  have z1 := hb1.size
  have b1 : Below w.heap.size w w1 := b0.trans (hb1.mono (by omega))
  have R1_1 := Lib.hid r1
  clear r1 hb1
  go_wp2_with fail
  refine (hspec.out _ _ _ R1_1.out.sl).mono ?_
  rintro e w2 ⟨rfl, hb2⟩
  have z2 := hb2.size
  have b2 : Below w.heap.size w w2 := b1.trans (hb2.mono (by omega))
  have R1_2 := Lib.hid (R1_1.out.below hb2 (by omega))
  clear R1_1
  clear hb2
  clear R1_2
  go_wp2_with fail
  refine (toRodS_c A n c X _ hnn (Sl.below HX.out b2 (Nat.le_refl _))).mono ?_
  rintro e w3 ⟨A3, c3, rfl, kc3, mc3, r3, hb3⟩
  have z3 := hb3.size
  have b3 : Below w.heap.size w w3 := b2.trans (hb3.mono (by omega))
  have R2_3 := Lib.hid r3
  clear r3 hb3
  go_wp2_with fail
  refine (himpl.out _ _ _ R2_3.out.sl).mono ?_
  rintro e w4 ⟨rfl, hb4⟩
  have z4 := hb4.size
  have b4 : Below w.heap.size w w4 := b3.trans (hb4.mono (by omega))
  have R2_4 := Lib.hid (R2_3.out.below hb4 (by omega))
  clear R2_3
  clear hb4
  go_wp2_with fail
  refine (toRodS_c A n c X _ hnn (Sl.below HX.out b4 (Nat.le_refl _))).mono ?_
  rintro e w5 ⟨A5, c5, rfl, kc5, mc5, r5, hb5⟩
  have z5 := hb5.size
  have b5 : Below w.heap.size w w5 := b4.trans (hb5.mono (by omega))
  have R2_5 := Lib.hid (R2_4.out.below hb5 (by omega))
  clear R2_4
  have R3_5 := Lib.hid r5
  clear r5 hb5
  go_wp2_with fail
  refine (eqRodS_same A3 A5 n c3 c5 X _ hmn R2_5.out.sl R3_5.out.sl).mono ?_
  rintro e w6 ⟨rfl, hb6⟩
  have z6 := hb6.size
  have b6 : Below w.heap.size w w6 := b5.trans (hb6.mono (by omega))
  have R2_6 := Lib.hid (R2_5.out.below hb6 (by omega))
  clear R2_5
  have R3_6 := Lib.hid (R3_5.out.below hb6 (by omega))
  clear R3_5
  clear hb6
  clear R3_6
  go_wp2
  go_ret
  exact ⟨rfl, b6⟩

set_option maxHeartbeats 1000000 in
theorem big (A : Option Addr) (n c : Nat) (w : World) (hn : 1048576 < n) (hm : n ≤ maxLen) :
    Calls Try.prog 6 #[.slice A n c] w fun e w' => e = .returned (.bool true) ∧ Below w.heap.size w w' := by
  go_enter Try.func6, Try.ntmps6
  go_wp2_with fail
  refine (sz_big A n c _ hn hm).mono ?_
  rintro e w0 ⟨rfl, rfl⟩
  go_wp2
  go_ret
  exact ⟨rfl, Below.refl _ _⟩

theorem walk (A : Option Addr) (n c : Nat) (X : Nat → Int) (w : World) (le : n ≤ c) (mx : c ≤ maxLen) (sl : Sl w A n 3 X) (wf : ∀ j, j < n * 3 → (Lit.int .i64 (X j)).wf = true) :
    Calls Try.prog 6 #[.slice A n c] w fun e w' => e = .returned (.bool true) ∧ Below w.heap.size w w' := by
  by_cases hn : n ≤ 1048576
  · have hm : n ≤ maxLen := by omega
    cases hv : listB n X
    · exact core A n c X 0 0 1 w hn sl (fun A c w h => most_s_bad A n c X w hm h hv) (fun A c w h => most_i_bad A n c X w hm h hv)
    by_cases h2 : n < 2
    · exact core A n c X 0 0 3 w hn sl (fun A c w h => most_s_few A n c X w hm h hv h2) (fun A c w h => most_i_few A n c X w hm h hv h2)
    · exact core A n c X _ _ 0 w hn sl (fun A c w h => (most_s A n c X w hm h hv (by omega)).mono fun _ _ ⟨p, m, q⟩ => ⟨p, by rw [q]; exact drewN_below (Below.refl _ _) m⟩) (fun A c w h => most_i A n c X w hm h hv (by omega))
  · exact big A n c w (by omega) (by omega)

theorem own : ownKnob Try.prog.godebug = none := by kernel_rfl
theorem laidOut : laidOutB Try.prog = true := by kernel_rfl

set_option maxRecDepth 100000 in
theorem lifted (os : Os) (started : os.Started) (H : Type) (enc : TypeId × Value → H) :
    ReturnsInHanded {} Try.checked os 6 .any (Rows.fnExactMostAlikeSpec.pre6 enc Try.prog Try.f6 Rows.fnExactMostAlikeRow.domain false) (Rows.fnExactMostAlikeSpec.post enc Try.prog Try.f6 false true false false) := by
  refine returnsInHanded_of_change (C := Try.checked) own started (by kernel_rfl) Try.func6
    (ChangeSpec.witness6 (enc := enc) (C := Try.checked) false ⟨#[], #[.slice none 0 0], []⟩ 8 (by kernel_rfl) (by kernel_rfl) (by kernel_rfl) (by kernel_rfl)) ?_
  intro W base args ds gs before hval0 hW hcnd hreach
  have hval : ∀ (j : Nat) t v, Try.f6.params[j]? = some t → args[j]? = some v → Value.okWide Try.prog W .any base t v := hval0
  have hW' := hW
  obtain ⟨p, q, hA0, hV, rfl, hfz, hnd⟩ := hW
  have hA : DataW.TrodAll enc Try.prog W 0 (fun _ => true) true Try.f6.params.toList args.toList ds p := hA0
  rw [Try.params6] at hA hval
  obtain ⟨v0, vs0, d0, ds0, p0, q0, hargs, rfl, rfl, h0, r0⟩ := trodAll_cons hA
  obtain ⟨rfl, rfl, rfl⟩ := trodAll_nil r0
  obtain rfl : args = #[v0] := by cases args; simp_all
  obtain ⟨rfl, rfl⟩ := trodVars_none hV
  have k0 := h0
  have lt0 : ∀ x ∈ p0, x.block < W.heap.size := by obtain ⟨m, hm⟩ := k0; exact DataW.trod_lt m _ _ _ hm
  obtain ⟨a0, len0, cap0, rfl⟩ := okWide_slice Try.underlying22 (hval 0 22 v0 rfl rfl)
  obtain ⟨le0, mx0, X0, sl0, wf0⟩ : len0 ≤ cap0 ∧ cap0 ≤ maxLen ∧ ∃ X : Nat → Int, Sl W a0 len0 3 X ∧ ∀ j, j < len0 * 3 → (Lit.int .i64 (X j)).wf = true := by
    obtain ⟨fuel, hf⟩ := h0
    exact open_flat Try.underlying22 Try.underlying87 (by kernel_rfl) (by kernel_rfl) (by simp) (by intro j f hf; rcases j with _ | _ | _ | j <;> simp at hf <;> (subst hf; exact Try.underlying2)) hf
  clear hA0 hval0
  refine (walk a0 len0 cap0 X0 W le0 mx0 sl0 wf0).mono fun e W' ⟨he, bel⟩ => ?_
  subst he
  exact ⟨_, rfl, _, _, _, [], _, [], hW', trodAll_mk1 (shut_bool Try.underlying4 _), (trodAll_cons_mk (Below.trod laidOut (by kernel_rfl) (of_decide_eq_true (by kernel_rfl)) k0 bel lt0) trodAll_mk0), rfl, bel.frame _, fun h => by cases h⟩

theorem over : Rows.fnExactMostAlikeRow.holds Try.pinned (OpenSpec.ofChange Rows.fnExactMostAlikeSpec) :=
  OpenClaim.holds_of_wide 6 Try.f6 rfl rfl rfl rfl rfl rfl rfl ⟨rfl, rfl, rfl, rfl, rfl⟩ rfl rfl rfl rfl rfl (by kernel_rfl) Try.func6 (by kernel_rfl)
    (of_decide_eq_true (by kernel_rfl)) (by unfold Func.isWrapper; first | (rw [if_pos (by decide +kernel)]; kernel_rfl) | (rw [if_neg (by decide +kernel)]; exact ⟨rfl, rfl⟩))
    (fun os started H enc _ => lifted os started H enc)

theorem proved : Rows.FnExactMostAlikeSaid := over

end Go.Proofs.Ytcpaenmhnoagdab.fnExactMostAlike
