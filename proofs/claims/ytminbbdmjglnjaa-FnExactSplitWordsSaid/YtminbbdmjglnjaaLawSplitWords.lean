/-
  For every text, FnExactSplitWords returns true: SplitWords of the program gives the words of the model, and its answer is memory of its own. No condition.
-/
import Derived.Test.YtminbbdmjglnjaaWordsI
import Derived.Test.YtminbbdmjglnjaaTexts
import Derived.Test.YtminbbdmjglnjaaOpen
namespace Go.Proofs.Ytminbbdmjglnjaa.fnExactSplitWords
open Go.ChangeShapes Go.WideShapes Go.ChangeAt Go.RowKit Go.Joins
open Go.ChangeMaps (open_string shut_string)
open Go.Proofs.Ytminbbdmjglnjaa.split Go.Proofs.Ytminbbdmjglnjaa.mem
set_option linter.unusedVariables false

theorem words_len (s : ByteArray) (hs : s.size ≤ 1048576) : (words s.data.toList).length ≤ 1048577 := by
  have h1 := split_count 32 s.data.toList []
  have h2 : (words s.data.toList).length ≤ (split 32 s.data.toList).length := List.length_filter_le _ _
  have h3 : s.data.toList.length = s.size := size_len s
  unfold split at h2
  omega
/-- what both functions do -/
def Said (l : List (List UInt8)) (w : World) (e : Ending) (w' : World) : Prop := ∃ A c, e = .returned (.slice A l.length c) ∧ RowT w' w.heap.size w'.heap.size A l.length (txt l) ∧ Below w.heap.size w w'
theorem said_of {l : List (List UInt8)} {w w' : World} {e : Ending} (h : ∃ v, e = .returned v ∧ w'.ownsRow w.heap.size 9 1 v l.length (l.map strV) ∧ Below w.heap.size w w') : Said l w e w' := by
  obtain ⟨v, he, ho, hb⟩ := h
  obtain ⟨A, c, e1, _, _, hr⟩ := rowT_of ho
  exact ⟨A, c, by rw [he, e1], hr, hb⟩

set_option maxHeartbeats 4000000 in
set_option maxRecDepth 100000 in
theorem core (s : ByteArray) (l : List (List UInt8)) (hl : l.length ≤ 1048577) (hs : s.size ≤ 1048576) (w : World)
    (hspec : Hid (∀ w : World, Calls Try.prog 47 #[.string s] w (Said l w)))
    (himpl : Hid (∀ w : World, Calls Try.prog 48 #[.string s] w (Said l w))) :
    Calls Try.prog 12 #[.string s] w fun e w' => e = .returned (.bool true) ∧ Below w.heap.size w w' := by
  have hq : ¬ (1048576 : Int) < (s.size : Int) := by omega
  have hml : l.length ≤ maxLen := by unfold maxLen; omega
  generalize hL : l.length = L at *
  have HL := Lib.hid hL
  clear hL
  have hlt0 : ¬ ((1 + L : Nat) : Int) < 0 := by omega
  go_enter Try.func12, Try.ntmps12
  go_wp2_with fail
  refine (hspec.out _).mono ?_
  rintro e w1 ⟨A1, c1, he1, r1, hb1⟩
  rw [HL.out] at he1 r1
  subst he1
  have z1 := hb1.size
  have R1_1 := Lib.hid r1
  have b1 : Below w.heap.size w w1 := hb1
  clear r1 hb1
  go_wp2_with fail
  refine (himpl.out _).mono ?_
  rintro e w2 ⟨A2, c2, he2, r2, hb2⟩
  rw [HL.out] at he2 r2
  subst he2
  have z2 := hb2.size
  have b2 : Below w.heap.size w w2 := b1.trans (hb2.mono (by omega))
  have R1_2 := Lib.hid (R1_1.out.below hb2 (by omega))
  have R2_2 := Lib.hid r2
  clear R1_1 r2 hb2
  go_wp2_with fail
  refine (eqStrs_same A2 A1 L c2 c1 (txt l) _ hml R2_2.out.sl R1_2.out.sl).mono ?_
  rintro e w3 ⟨rfl, m3, hd3⟩
  have hb3 : Below w2.heap.size w2 w3 := by rw [hd3]; exact drewN_below (Below.refl _ _) m3
  have z3 := hb3.size
  have b3 : Below w.heap.size w w3 := b2.trans (hb3.mono (by omega))
  have R1_3 := Lib.hid (R1_2.out.below hb3 (by omega))
  have R2_3 := Lib.hid (R2_2.out.below hb3 (by omega))
  clear R1_2 R2_2 hb3 hd3
  go_wp2_with fail
  refine (markStrs_c A2 L c2 w1.heap.size w2.heap.size (txt l) _ hl R2_3.out (by omega)).mono ?_
  rintro e w4 ⟨rfl, r4, hw4⟩
  have z4 := hw4.size
  have b4 : Below w.heap.size w w4 := b3.trans (hw4.below (by omega) (by omega))
  have R1_4 := Lib.hid (R1_3.out.wrote hw4 (by omega))
  have R2_4 := Lib.hid r4
  clear R1_3 R2_3 r4 hw4
  go_wp2_with fail
  refine (heldStrs_c A2 L c2 _ hl R2_4.out.sl).mono ?_
  rintro e w5 ⟨rfl, hb5⟩
  have z5 := hb5.size
  have b5 : Below w.heap.size w w5 := b4.trans (hb5.mono (by omega))
  have R1_5 := Lib.hid (R1_4.out.below hb5 (by omega))
  have R2_5 := Lib.hid (R2_4.out.below hb5 (by omega))
  clear R1_4 R2_4 hb5
  go_wp2_with fail
  refine (himpl.out _).mono ?_
  rintro e w6 ⟨A6, c6, he6, r6, hb6⟩
  rw [HL.out] at he6 r6
  subst he6
  have z6 := hb6.size
  have b6 : Below w.heap.size w w6 := b5.trans (hb6.mono (by omega))
  have R1_6 := Lib.hid (R1_5.out.below hb6 (by omega))
  have R2_6 := Lib.hid (R2_5.out.below hb6 (by omega))
  have R6_6 := Lib.hid r6
  clear R1_5 R2_5 r6 hb6
  go_wp2_with fail
  refine (eqStrs_same A6 A1 L c6 c1 (txt l) _ hml R6_6.out.sl R1_6.out.sl).mono ?_
  rintro e w7 ⟨rfl, m7, hd7⟩
  have hb7 : Below w6.heap.size w6 w7 := by rw [hd7]; exact drewN_below (Below.refl _ _) m7
  have z7 := hb7.size
  have b7 : Below w.heap.size w w7 := b6.trans (hb7.mono (by omega))
  have R2_7 := Lib.hid (R2_6.out.below hb7 (by omega))
  clear R1_6 R2_6 R6_6 hb7 hd7
  go_wp2_with fail
  refine (heldStrs_c A2 L c2 _ hl R2_7.out.sl).mono ?_
  rintro e w8 ⟨rfl, hb8⟩
  have b8 : Below w.heap.size w w8 := b7.trans (hb8.mono (by omega))
  clear hb8
  go_wp2
  go_ret
  exact ⟨rfl, b8⟩

set_option maxHeartbeats 1000000 in
theorem big (s : ByteArray) (w : World) (h : 1048576 < s.size) (hm : s.size ≤ maxLen) :
    Calls Try.prog 12 #[.string s] w fun e w' => e = .returned (.bool true) ∧ Below w.heap.size w w' := by
  unfold maxLen at hm
  have hq : (1048576 : Int) < (s.size : Int) := by omega
  go_enter Try.func12, Try.ntmps12
  go_wp2
  go_ret
  exact ⟨rfl, Below.refl _ _⟩

theorem walk (s : ByteArray) (w : World) (wf : s.size ≤ maxLen) :
    Calls Try.prog 12 #[.string s] w fun e w' => e = .returned (.bool true) ∧ Below w.heap.size w w' := by
  by_cases h : s.size ≤ 1048576
  · exact core s (words s.data.toList) (words_len s h) h w (fun w => (words_s s h w).mono fun _ _ q => said_of q) (fun w => (words_i s h w).mono fun _ _ q => said_of q)
  · exact big s w (by omega) wf

theorem own : ownKnob Try.prog.godebug = none := by kernel_rfl
theorem laidOut : laidOutB Try.prog = true := by kernel_rfl

set_option maxRecDepth 100000 in
theorem lifted (os : Os) (started : os.Started) (H : Type) (enc : TypeId × Value → H) :
    ReturnsInHanded {} Try.checked os 12 .any (Rows.fnExactSplitWordsSpec.pre6 enc Try.prog Try.f12 Rows.fnExactSplitWordsRow.domain false) (Rows.fnExactSplitWordsSpec.post enc Try.prog Try.f12 false true false false) := by
  refine returnsInHanded_of_change (C := Try.checked) own started (by kernel_rfl) Try.func12
    (ChangeSpec.witness6 (enc := enc) (C := Try.checked) false ⟨#[], #[.string ByteArray.empty], []⟩ 8 (by kernel_rfl) (by kernel_rfl) (by kernel_rfl) (by kernel_rfl)) ?_
  intro W base args ds gs before hval0 hW hcnd hreach
  have hval : ∀ (j : Nat) t v, Try.f12.params[j]? = some t → args[j]? = some v → Value.okWide Try.prog W .any base t v := hval0
  have hW' := hW
  obtain ⟨p, q, hA0, hV, rfl, hfz, hnd⟩ := hW
  have hA : DataW.TrodAll enc Try.prog W 0 (fun _ => true) true Try.f12.params.toList args.toList ds p := hA0
  rw [Try.params12] at hA hval
  obtain ⟨v0, vs0, d0, ds0, p0, q0, hargs, rfl, rfl, h0, r0⟩ := trodAll_cons hA
  obtain ⟨rfl, rfl, rfl⟩ := trodAll_nil r0
  obtain rfl : args = #[v0] := by cases args; simp_all
  obtain ⟨rfl, rfl⟩ := trodVars_none hV
  have k0 := h0
  have lt0 : ∀ x ∈ p0, x.block < W.heap.size := by obtain ⟨m, hm⟩ := k0; exact DataW.trod_lt m _ _ _ hm
  obtain ⟨s0, rfl, rfl, rfl, w0⟩ := open_string Try.underlying9 (hval 0 9 v0 rfl rfl) h0
  clear hA0 hval0
  refine (walk s0 W w0).mono fun e W' ⟨he, bel⟩ => ?_
  subst he
  exact ⟨_, rfl, _, _, _, [], _, [], hW', trodAll_mk1 (shut_bool Try.underlying4 _), (trodAll_cons_mk (Below.trod laidOut (by kernel_rfl) (of_decide_eq_true (by kernel_rfl)) k0 bel lt0) trodAll_mk0), rfl, bel.frame _, fun h => by cases h⟩

theorem over : Rows.fnExactSplitWordsRow.holds Try.pinned (OpenSpec.ofChange Rows.fnExactSplitWordsSpec) :=
  OpenClaim.holds_of_wide 12 Try.f12 rfl rfl rfl rfl rfl rfl rfl ⟨rfl, rfl, rfl, rfl, rfl⟩ rfl rfl rfl rfl rfl (by kernel_rfl) Try.func12 (by kernel_rfl)
    (of_decide_eq_true (by kernel_rfl)) (by unfold Func.isWrapper; first | (rw [if_pos (by decide +kernel)]; kernel_rfl) | (rw [if_neg (by decide +kernel)]; exact ⟨rfl, rfl⟩))
    (fun os started H enc _ => lifted os started H enc)

theorem proved : Rows.FnExactSplitWordsSaid := over

end Go.Proofs.Ytminbbdmjglnjaa.fnExactSplitWords
