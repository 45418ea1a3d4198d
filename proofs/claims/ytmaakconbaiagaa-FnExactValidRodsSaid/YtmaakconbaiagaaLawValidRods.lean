/-
  For every list of rods, FnExactValidRods returns true: ValidRods of the program answers as the model, and the list is as it was. No condition.
-/
import Derived.Test.YtmaakconbaiagaaRods
import Derived.Test.YtmaakconbaiagaaOpen
namespace Go.Proofs.Ytmaakconbaiagaa.fnExactValidRods
open Go.ChangeShapes Go.WideShapes Go.ChangeAt Go.RowKit Go.Joins
open Go.ChangeMaps (open_string shut_string)
open Go.Proofs.Ytmaakconbaiagaa.rod Go.Proofs.Ytmaakconbaiagaa.mem
set_option linter.unusedVariables false

set_option maxHeartbeats 1000000 in
theorem big (A : Option Addr) (n c : Nat) (w : World) (hn : 1048576 < n) (hm : n ≤ maxLen) :
    Calls Try.prog 9 #[.slice A n c] w fun e w' => e = .returned (.bool true) ∧ Below w.heap.size w w' := by
  go_enter Try.func9, Try.ntmps9
  go_wp2_with fail
  refine (sz_big A n c _ hn hm).mono ?_
  rintro e w0 ⟨rfl, rfl⟩
  go_wp2
  go_ret
  exact ⟨rfl, Below.refl _ _⟩

set_option maxHeartbeats 1000000 in
theorem small (A : Option Addr) (n c : Nat) (X : Nat → Int) (w : World) (hn : n ≤ 1048576) (hs : Sl w A n 3 X) :
    Calls Try.prog 9 #[.slice A n c] w fun e w' => e = .returned (.bool true) ∧ Below w.heap.size w w' := by
  have HS := Lib.hid hs
  clear hs
  have hm : n ≤ maxLen := by unfold maxLen; omega
  have hl : ¬ (1048576 - (n : Int)) < 0 := by omega
  go_enter Try.func9, Try.ntmps9
  go_wp2_with fail
  refine (sz_c A n c _ hn).mono ?_
  rintro e w0 ⟨rfl, rfl⟩
  go_wp2_with fail
  refine (toRodS_c A n c X _ hn HS.out).mono ?_
  rintro e w1 ⟨g1, rfl, hg1, ho1, hb1⟩
  have O1 := Lib.hid ho1
  have s1 := ho1.lt
  have z1 := hb1.size
  clear ho1
  go_wp2_with fail
  refine (valid_s g1 n n _ _ _ _ s1 hm (Rods.of_ints O1.out.ints)).mono ?_
  rintro e w2 ⟨rfl, m, rfl⟩
  go_wp2_with fail
  refine (toRodS_c A n c X _ hn (fun h => by obtain ⟨b, o, h1, h2, h3⟩ := HS.out h; exact ⟨b, o, h1, by simp; omega, (h3.below (drewN_below hb1 m) h2)⟩)).mono ?_
  rintro e w3 ⟨g3, rfl, hg3, ho3, hb3⟩
  have O3 := Lib.hid ho3
  have s3 := ho3.lt
  have z3 := hb3.size
  simp at z3 hg3
  have b3 : Below w.heap.size w w3 := (drewN_below hb1 m).trans (hb3.mono (by simp; omega))
  clear ho3 hb3 O1
  go_wp2_with fail
  refine (valid_i g3 n n _ _ _ _ s3 hm (Rods.of_ints O3.out.ints)).mono ?_
  rintro e w4 ⟨rfl, hb4⟩
  have z4 := hb4.size
  have b4 : Below w.heap.size w w4 := b3.trans (hb4.mono (by omega))
  have O4 := Lib.hid (O3.out.below hb4 s3)
  clear hb4 O3
  have hneq : (listB n (fun i => X (i * 3)) (fun i => X (i * 3 + 1)) (fun i => X (i * 3 + 2)) != listB n (fun i => X (i * 3)) (fun i => X (i * 3 + 1)) (fun i => X (i * 3 + 2))) = false := by simp
  generalize listB n (fun i => X (i * 3)) (fun i => X (i * 3 + 1)) (fun i => X (i * 3 + 2)) = v
  go_wp2_with fail
  refine (toRodS_c A n c X _ hn (fun h => by obtain ⟨b, o, h1, h2, h3⟩ := HS.out h; exact ⟨b, o, h1, by omega, (h3.below b4 h2)⟩)).mono ?_
  rintro e w5 ⟨g5, rfl, hg5, ho5, hb5⟩
  have O5 := Lib.hid ho5
  have s5 := ho5.lt
  have z5 := hb5.size
  have b5 : Below w.heap.size w w5 := b4.trans (hb5.mono (by omega))
  have O6 := Lib.hid (O4.out.below hb5 (by omega))
  clear ho5 hb5 O4
  go_wp2_with fail
  refine (eqRodS_same g3 g5 n n n X _ hn (by omega) s5 O6.out.ints O5.out.ints).mono ?_
  rintro e w6 ⟨rfl, hb6⟩
  have b6 : Below w.heap.size w w6 := b5.trans (hb6.mono (by omega))
  clear hb6
  go_wp2
  go_ret
  exact ⟨rfl, b6⟩

theorem walk (A : Option Addr) (n c : Nat) (X : Nat → Int) (w : World) (le : n ≤ c) (mx : c ≤ maxLen) (sl : Sl w A n 3 X) (wf : ∀ j, j < n * 3 → (Lit.int .i64 (X j)).wf = true) :
    Calls Try.prog 9 #[.slice A n c] w fun e w' => e = .returned (.bool true) ∧ Below w.heap.size w w' := by
  by_cases hn : n ≤ 1048576
  · exact small A n c X w hn sl
  · exact big A n c w (by omega) (by omega)

theorem own : ownKnob Try.prog.godebug = none := by kernel_rfl
theorem laidOut : laidOutB Try.prog = true := by kernel_rfl

set_option maxRecDepth 100000 in
theorem lifted (os : Os) (started : os.Started) (H : Type) (enc : TypeId × Value → H) :
    ReturnsInHanded {} Try.checked os 9 .any (Rows.fnExactValidRodsSpec.pre6 enc Try.prog Try.f9 Rows.fnExactValidRodsRow.domain false) (Rows.fnExactValidRodsSpec.post enc Try.prog Try.f9 false true false false) := by
  refine returnsInHanded_of_change (C := Try.checked) own started (by kernel_rfl) Try.func9
    (ChangeSpec.witness6 (enc := enc) (C := Try.checked) false ⟨#[], #[.slice none 0 0], []⟩ 8 (by kernel_rfl) (by kernel_rfl) (by kernel_rfl) (by kernel_rfl)) ?_
  intro W base args ds gs before hval0 hW hcnd hreach
  have hval : ∀ (j : Nat) t v, Try.f9.params[j]? = some t → args[j]? = some v → Value.okWide Try.prog W .any base t v := hval0
  have hW' := hW
  obtain ⟨p, q, hA0, hV, rfl, hfz, hnd⟩ := hW
  have hA : DataW.TrodAll enc Try.prog W 0 (fun _ => true) true Try.f9.params.toList args.toList ds p := hA0
  rw [Try.params9] at hA hval
  obtain ⟨v0, vs0, d0, ds0, p0, q0, hargs, rfl, rfl, h0, r0⟩ := trodAll_cons hA
  obtain ⟨rfl, rfl, rfl⟩ := trodAll_nil r0
  obtain rfl : args = #[v0] := by cases args; simp_all
  obtain ⟨rfl, rfl⟩ := trodVars_none hV
  have k0 := h0
  have lt0 : ∀ x ∈ p0, x.block < W.heap.size := by obtain ⟨m, hm⟩ := k0; exact DataW.trod_lt m _ _ _ hm
  obtain ⟨a0, len0, cap0, rfl⟩ := okWide_slice Try.underlying44 (hval 0 44 v0 rfl rfl)
  obtain ⟨le0, mx0, X0, sl0, wf0⟩ : len0 ≤ cap0 ∧ cap0 ≤ maxLen ∧ ∃ X : Nat → Int, Sl W a0 len0 3 X ∧ ∀ j, j < len0 * 3 → (Lit.int .i64 (X j)).wf = true := by
    obtain ⟨fuel, hf⟩ := h0
    exact open_flat Try.underlying44 Try.underlying30 (by kernel_rfl) (by kernel_rfl) (by simp) (by intro j f hf; rcases j with _ | _ | _ | j <;> simp at hf <;> (subst hf; exact Try.underlying2)) hf
  clear hA0 hval0
  refine (walk a0 len0 cap0 X0 W le0 mx0 sl0 wf0).mono fun e W' ⟨he, bel⟩ => ?_
  subst he
  exact ⟨_, rfl, _, _, _, [], _, [], hW', trodAll_mk1 (shut_bool Try.underlying4 _), (trodAll_cons_mk (Below.trod laidOut (by kernel_rfl) (of_decide_eq_true (by kernel_rfl)) k0 bel lt0) trodAll_mk0), rfl, bel.frame _, fun h => by cases h⟩

theorem over : Rows.fnExactValidRodsRow.holds Try.pinned (OpenSpec.ofChange Rows.fnExactValidRodsSpec) :=
  OpenClaim.holds_of_wide 9 Try.f9 rfl rfl rfl rfl rfl rfl rfl ⟨rfl, rfl, rfl, rfl, rfl⟩ rfl rfl rfl rfl rfl (by kernel_rfl) Try.func9 (by kernel_rfl)
    (of_decide_eq_true (by kernel_rfl)) (by unfold Func.isWrapper; first | (rw [if_pos (by decide +kernel)]; kernel_rfl) | (rw [if_neg (by decide +kernel)]; exact ⟨rfl, rfl⟩))
    (fun os started H enc _ => lifted os started H enc)

theorem proved : Rows.FnExactValidRodsSaid := over

end Go.Proofs.Ytmaakconbaiagaa.fnExactValidRods
