/-
  For every number, FnExactAreaOf returns true: AreaOf of the program gives the fraction and the code of the model. No condition.
-/
import Derived.Test.YtcpaenmhnoagdaaAreas
import Derived.Test.YtcpaenmhnoagdaaOpen
namespace Go.Proofs.Ytcpaenmhnoagdaa.fnExactAreaOf
open Go.ChangeShapes Go.WideShapes Go.ChangeAt Go.RowKit Go.Joins
open Go.ChangeMaps (open_string shut_string)
open Go.Proofs.Ytcpaenmhnoagdaa.rod Go.Proofs.Ytcpaenmhnoagdaa.mem
set_option linter.unusedVariables false

set_option maxHeartbeats 4000000 in
set_option maxRecDepth 100000 in
theorem core (g : Int) (n1 n2 : Int) (code : Int) (w : World) 
    (hspec : Hid (∀  (w : World), Calls Try.prog 20 #[.int .i64 g] w (fun e w' => e = .returned (.tuple #[.agg #[.int .i64 n1, .int .i64 n2], .int .i64 code]) ∧ Below w.heap.size w w')))
    (himpl : Hid (∀  (w : World), Calls Try.prog 21 #[.int .i64 g] w (fun e w' => e = .returned (.tuple #[.agg #[.int .i64 n1, .int .i64 n2], .int .i64 code]) ∧ Below w.heap.size w w'))) :
    Calls Try.prog 5 #[.int .i64 g] w fun e w' => e = .returned (.bool true) ∧ Below w.heap.size w w' := by
  have b0 : Below w.heap.size w w := Below.refl _ _
  go_enter Try.func5, Try.ntmps5
  go_wp2_with fail
  refine (hspec.out  _ ).mono ?_
  rintro e w1 ⟨rfl, hb1⟩
  have z1 := hb1.size
  try simp at z1
  have s1 : Below w.heap.size w w1 := Below.trans (by go_grown) (hb1.mono (by first | omega | (simp; done) | (simp; omega)))
  have b1 : Below w.heap.size w w1 := b0.trans (s1.mono (by omega))
  clear hb1 s1
  go_wp2_with fail
  refine (himpl.out  _ ).mono ?_
  rintro e w2 ⟨rfl, hb2⟩
  have z2 := hb2.size
  try simp at z2
  have s2 : Below w1.heap.size w1 w2 := Below.trans (by go_grown) (hb2.mono (by first | omega | (simp; done) | (simp; omega)))
  have b2 : Below w.heap.size w w2 := b1.trans (s2.mono (by omega))
  have p1 : w2.cell? ⟨w1.heap.size, 0, none⟩ = some (.int .i64 n1) := by rw [(bcell hb2).1 _ _ (by first | omega | (simp; done) | (simp; omega))]; go_simp
  have p2 : w2.cell? ⟨w1.heap.size, 1, none⟩ = some (.int .i64 n2) := by rw [(bcell hb2).1 _ _ (by first | omega | (simp; done) | (simp; omega))]; go_simp
  have y_w1 : w1.heap.size < w2.heap.size := by omega
  clear hb2 s2
  go_wp2_with fail
  refine (eqFraction_same n1 n2 _).mono ?_
  rintro e w3 ⟨rfl, hb3⟩
  have z3 := hb3.size
  try simp at z3
  have s3 : Below w2.heap.size w2 w3 := Below.trans (by go_grown) (hb3.mono (by first | omega | (simp; done) | (simp; omega)))
  have b3 : Below w.heap.size w w3 := b2.trans (s3.mono (by omega))
  replace p1 : w3.cell? ⟨w1.heap.size, 0, none⟩ = some (.int .i64 n1) := (s3.cell (p := ⟨w1.heap.size, 0, none⟩) (show w1.heap.size < w2.heap.size by omega)).trans p1
  replace p2 : w3.cell? ⟨w1.heap.size, 1, none⟩ = some (.int .i64 n2) := (s3.cell (p := ⟨w1.heap.size, 1, none⟩) (show w1.heap.size < w2.heap.size by omega)).trans p2
  have p3 : w3.cell? ⟨w2.heap.size, 0, none⟩ = some (.int .i64 n1) := by rw [(bcell hb3).1 _ _ (by first | omega | (simp; done) | (simp; omega))]; go_simp
  have p4 : w3.cell? ⟨w2.heap.size, 1, none⟩ = some (.int .i64 n2) := by rw [(bcell hb3).1 _ _ (by first | omega | (simp; done) | (simp; omega))]; go_simp
  replace y_w1 : w1.heap.size < w3.heap.size := by omega
  have y_w2 : w2.heap.size < w3.heap.size := by omega
  clear hb3 s3
  go_wp2
  go_ret
  exact ⟨rfl, b3⟩

theorem walk (g : Int) (w : World) (x0 : (Lit.int .i64 g).wf = true) :
    Calls Try.prog 5 #[.int .i64 g] w fun e w' => e = .returned (.bool true) ∧ Below w.heap.size w w' := by
  cases h : inB g 10 2000
  · exact core g 0 0 2 w (fun w => areaOf_s_no g w h) (fun w => areaOf_i_no g w h)
  · exact core g _ _ 0 w (fun w => areaOf_s g w h) (fun w => areaOf_i g w h)

theorem own : ownKnob Try.prog.godebug = none := by kernel_rfl
theorem laidOut : laidOutB Try.prog = true := by kernel_rfl

set_option maxRecDepth 100000 in
theorem lifted (os : Os) (started : os.Started) (H : Type) (enc : TypeId × Value → H) :
    ReturnsInHanded {} Try.checked os 5 .any (Rows.fnExactAreaOfSpec.pre6 enc Try.prog Try.f5 Rows.fnExactAreaOfRow.domain false) (Rows.fnExactAreaOfSpec.post enc Try.prog Try.f5 false true false false) := by
  refine returnsInHanded_of_change (C := Try.checked) own started (by kernel_rfl) Try.func5
    (ChangeSpec.witness6 (enc := enc) (C := Try.checked) false ⟨#[], #[.int .i64 0], []⟩ 8 (by kernel_rfl) (by kernel_rfl) (by kernel_rfl) (by kernel_rfl)) ?_
  intro W base args ds gs before hval0 hW hcnd hreach
  have hval : ∀ (j : Nat) t v, Try.f5.params[j]? = some t → args[j]? = some v → Value.okWide Try.prog W .any base t v := hval0
  have hW' := hW
  obtain ⟨p, q, hA0, hV, rfl, hfz, hnd⟩ := hW
  have hA : DataW.TrodAll enc Try.prog W 0 (fun _ => true) true Try.f5.params.toList args.toList ds p := hA0
  rw [Try.params5] at hA hval
  obtain ⟨v0, vs0, d0, ds0, p0, q0, hargs, rfl, rfl, h0, r0⟩ := trodAll_cons hA
  obtain ⟨rfl, rfl, rfl⟩ := trodAll_nil r0
  obtain rfl : args = #[v0] := by cases args; simp_all
  obtain ⟨rfl, rfl⟩ := trodVars_none hV
  have k0 := h0
  have lt0 : ∀ x ∈ p0, x.block < W.heap.size := by obtain ⟨m, hm⟩ := k0; exact DataW.trod_lt m _ _ _ hm
  obtain ⟨a0, rfl, rfl, rfl, w0⟩ := open_int Try.underlying2 (hval 0 2 v0 rfl rfl) h0
  clear hA0 hval0
  refine (walk a0 W w0).mono fun e W' ⟨he, bel⟩ => ?_
  subst he
  exact ⟨_, rfl, _, _, _, [], _, [], hW', trodAll_mk1 (shut_bool Try.underlying4 _), (trodAll_cons_mk (Below.trod laidOut (by kernel_rfl) (of_decide_eq_true (by kernel_rfl)) k0 bel lt0) trodAll_mk0), rfl, bel.frame _, fun h => by cases h⟩

theorem over : Rows.fnExactAreaOfRow.holds Try.pinned (OpenSpec.ofChange Rows.fnExactAreaOfSpec) :=
  OpenClaim.holds_of_wide 5 Try.f5 rfl rfl rfl rfl rfl rfl rfl ⟨rfl, rfl, rfl, rfl, rfl⟩ rfl rfl rfl rfl rfl (by kernel_rfl) Try.func5 (by kernel_rfl)
    (of_decide_eq_true (by kernel_rfl)) (by unfold Func.isWrapper; first | (rw [if_pos (by decide +kernel)]; kernel_rfl) | (rw [if_neg (by decide +kernel)]; exact ⟨rfl, rfl⟩))
    (fun os started H enc _ => lifted os started H enc)

theorem proved : Rows.FnExactAreaOfSaid := over

end Go.Proofs.Ytcpaenmhnoagdaa.fnExactAreaOf
