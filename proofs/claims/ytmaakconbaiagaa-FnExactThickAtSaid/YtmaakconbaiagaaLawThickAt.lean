/-
  For every rod and every number, FnExactThickAt returns true: ThickAt of the program gives the fraction and the code of the model. No condition.
-/
import Derived.Test.YtmaakconbaiagaaThickI
import Derived.ShutString
import Derived.ChangeOld
import Derived.Lib.SmallJoins
namespace Go.Proofs.Ytmaakconbaiagaa.fnExactThickAt
open Go.ChangeShapes Go.WideShapes Go.ChangeAt Go.RowKit Go.Joins
open Go.ChangeMaps (open_string shut_string)
open Go.Proofs.Ytmaakconbaiagaa.rod
set_option linter.unusedVariables false

set_option maxHeartbeats 1000000 in
theorem core (L B T d n m c : Int) (w : World)
    (hs : Hid (∀ w, Calls Try.prog 19 #[.agg #[.int .i64 L, .int .i64 B, .int .i64 T], .int .i64 d] w fun e w' => e = .returned (.tuple #[.agg #[.int .i64 n, .int .i64 m], .int .i64 c]) ∧ Below w.heap.size w w'))
    (hi : Hid (∀ w, Calls Try.prog 21 #[.agg #[.int .i64 L, .int .i64 B, .int .i64 T], .int .i64 d] w fun e w' => e = .returned (.tuple #[.agg #[.int .i64 n, .int .i64 m], .int .i64 c]) ∧ Below w.heap.size w w')) :
    Calls Try.prog 6 #[.agg #[.int .i64 L, .int .i64 B, .int .i64 T], .int .i64 d] w fun e w' => e = .returned (.bool true) ∧ Below w.heap.size w w' := by
  go_enter Try.func6, Try.ntmps6
  go_wp2_with fail
  refine (toRod_c L B T _).mono ?_
  rintro e w0 ⟨rfl, hb⟩
  have z0 := hb.size
  simp at z0
  have p0 : w0.cell? ⟨w.heap.size, 0, none⟩ = some (.int .i64 L) := by rw [(bcell hb).1 _ _ (by simp <;> omega)]; go_simp
  have p1 : w0.cell? ⟨w.heap.size, 1, none⟩ = some (.int .i64 B) := by rw [(bcell hb).1 _ _ (by simp <;> omega)]; go_simp
  have p2 : w0.cell? ⟨w.heap.size, 2, none⟩ = some (.int .i64 T) := by rw [(bcell hb).1 _ _ (by simp <;> omega)]; go_simp
  have g1 : Below w.heap.size w w0 := Below.trans (by go_grown) (hb.mono (by simp <;> omega))
  clear hb
  go_wp2_with fail
  refine (hs.out _).mono ?_
  rintro e w1 ⟨rfl, hb⟩
  have z1 := hb.size
  replace p0 : w1.cell? ⟨w.heap.size, 0, none⟩ = some (.int .i64 L) := by rw [(bcell hb).1 _ _ (by omega)]; exact p0
  replace p1 : w1.cell? ⟨w.heap.size, 1, none⟩ = some (.int .i64 B) := by rw [(bcell hb).1 _ _ (by omega)]; exact p1
  replace p2 : w1.cell? ⟨w.heap.size, 2, none⟩ = some (.int .i64 T) := by rw [(bcell hb).1 _ _ (by omega)]; exact p2
  replace g1 : Below w.heap.size w w1 := Below.trans g1 (hb.mono (by omega))
  have y1 : w.heap.size < w1.heap.size := by omega
  clear hb z1 z0
  go_wp2_with fail
  refine (toRod_c L B T _).mono ?_
  rintro e w2 ⟨rfl, hb⟩
  have z2 := hb.size
  simp at z2
  have q0 : w2.cell? ⟨w1.heap.size, 0, none⟩ = some (.int .i64 n) := by rw [(bcell hb).1 _ _ (by simp <;> omega)]; go_simp
  have q1 : w2.cell? ⟨w1.heap.size, 1, none⟩ = some (.int .i64 m) := by rw [(bcell hb).1 _ _ (by simp <;> omega)]; go_simp
  have g2 : Below w.heap.size w w2 := Below.trans (by go_grown) (hb.mono (by simp <;> omega))
  clear hb p0 p1 p2
  go_wp2_with fail
  refine (hi.out _).mono ?_
  rintro e w3 ⟨rfl, hb⟩
  have z3 := hb.size
  replace q0 : w3.cell? ⟨w1.heap.size, 0, none⟩ = some (.int .i64 n) := by rw [(bcell hb).1 _ _ (by omega)]; exact q0
  replace q1 : w3.cell? ⟨w1.heap.size, 1, none⟩ = some (.int .i64 m) := by rw [(bcell hb).1 _ _ (by omega)]; exact q1
  have g3 : Below w.heap.size w w3 := Below.trans g2 (hb.mono (by omega))
  have y3 : w1.heap.size < w3.heap.size := by omega
  clear hb z2 z3
  go_wp2_with fail
  refine (eqFraction_same n m _).mono ?_
  rintro e w4 ⟨rfl, hb⟩
  have g4 : Below w.heap.size w w4 := Below.trans (by go_grown) (hb.mono (by simp <;> omega))
  go_wp2
  go_ret
  exact ⟨rfl, g4⟩

theorem walk (L B T d : Int) (w : World) (x0 : (Lit.int .i64 L).wf = true) (x1 : (Lit.int .i64 B).wf = true) (x2 : (Lit.int .i64 T).wf = true) (x3 : (Lit.int .i64 d).wf = true) :
    Calls Try.prog 6 #[.agg #[.int .i64 L, .int .i64 B, .int .i64 T], .int .i64 d] w fun e w' => e = .returned (.bool true) ∧ Below w.heap.size w w' := by
  cases hr : rodB L B T
  · exact core L B T d 0 0 1 w (thickAt_s_bad L B T d hr) (thickAt_i_bad L B T d hr)
  · cases hd : inB d 0 L
    · exact core L B T d 0 0 2 w (thickAt_s_out L B T d hr hd) (thickAt_i_out L B T d hr hd)
    · exact core L B T d _ _ 0 w (thickAt_s L B T d hr hd) (thickAt_i L B T d hr hd)
theorem own : ownKnob Try.prog.godebug = none := by kernel_rfl
theorem laidOut : laidOutB Try.prog = true := by kernel_rfl

set_option maxRecDepth 100000 in
theorem lifted (os : Os) (started : os.Started) (H : Type) (enc : TypeId × Value → H) :
    ReturnsInHanded {} Try.checked os 6 .any (Rows.fnExactThickAtSpec.pre6 enc Try.prog Try.f6 Rows.fnExactThickAtRow.domain false) (Rows.fnExactThickAtSpec.post enc Try.prog Try.f6 false true false false) := by
  refine returnsInHanded_of_change (C := Try.checked) own started (by kernel_rfl) Try.func6
    (ChangeSpec.witness6 (enc := enc) (C := Try.checked) false ⟨#[], #[.agg #[.int .i64 0, .int .i64 0, .int .i64 0], .int .i64 0], []⟩ 8 (by kernel_rfl) (by kernel_rfl) (by kernel_rfl) (by kernel_rfl)) ?_
  intro W base args ds gs before hval0 hW hcnd hreach
  have hval : ∀ (j : Nat) t v, Try.f6.params[j]? = some t → args[j]? = some v → Value.okWide Try.prog W .any base t v := hval0
  have hW' := hW
  obtain ⟨p, q, hA0, hV, rfl, hfz, hnd⟩ := hW
  have hA : DataW.TrodAll enc Try.prog W 0 (fun _ => true) true Try.f6.params.toList args.toList ds p := hA0
  rw [Try.params6] at hA hval
  obtain ⟨v0, vs0, d0, ds0, p0, q0, hargs, rfl, rfl, h0, r0⟩ := trodAll_cons hA
  obtain ⟨v1, vs1, d1, ds1, p1, q1, hargs1, rfl, rfl, h1, r1⟩ := trodAll_cons r0
  obtain ⟨rfl, rfl, rfl⟩ := trodAll_nil r1
  obtain rfl : args = #[v0, v1] := by cases args; simp_all
  obtain ⟨rfl, rfl⟩ := trodVars_none hV
  have k0 := h0
  have lt0 : ∀ x ∈ p0, x.block < W.heap.size := by obtain ⟨m, hm⟩ := k0; exact DataW.trod_lt m _ _ _ hm
  obtain ⟨c0_0, c0_1, c0_2, y0_0, y0_1, y0_2, m0, rfl, rfl, rfl, hy0_0, hy0_1, hy0_2⟩ := open_agg3 Try.underlying30 (by kernel_rfl) (by kernel_rfl) (hval 0 30 v0 rfl rfl) h0
  obtain ⟨a0_0, e0_0, rfl, w0_0⟩ := DataW.trod_int Try.underlying2 hy0_0
  simp at e0_0
  subst e0_0
  obtain ⟨a0_1, e0_1, rfl, w0_1⟩ := DataW.trod_int Try.underlying2 hy0_1
  simp at e0_1
  subst e0_1
  obtain ⟨a0_2, e0_2, rfl, w0_2⟩ := DataW.trod_int Try.underlying2 hy0_2
  simp at e0_2
  subst e0_2
  have k1 := h1
  have lt1 : ∀ x ∈ p1, x.block < W.heap.size := by obtain ⟨m, hm⟩ := k1; exact DataW.trod_lt m _ _ _ hm
  obtain ⟨a1, rfl, rfl, rfl, w1⟩ := open_int Try.underlying2 (hval 1 2 v1 rfl rfl) h1
  clear hA0 hval0
  refine (walk a0_0 a0_1 a0_2 a1 W w0_0 w0_1 w0_2 w1).mono fun e W' ⟨he, bel⟩ => ?_
  subst he
  exact ⟨_, rfl, _, _, _, [], _, [], hW', trodAll_mk1 (shut_bool Try.underlying4 _), (trodAll_cons_mk (Below.trod laidOut (by kernel_rfl) (of_decide_eq_true (by kernel_rfl)) k0 bel lt0) (trodAll_cons_mk (Below.trod laidOut (by kernel_rfl) (of_decide_eq_true (by kernel_rfl)) k1 bel lt1) trodAll_mk0)), rfl, bel.frame _, fun h => by cases h⟩

theorem over : Rows.fnExactThickAtRow.holds Try.pinned (OpenSpec.ofChange Rows.fnExactThickAtSpec) :=
  OpenClaim.holds_of_wide 6 Try.f6 rfl rfl rfl rfl rfl rfl rfl ⟨rfl, rfl, rfl, rfl, rfl⟩ rfl rfl rfl rfl rfl (by kernel_rfl) Try.func6 (by kernel_rfl)
    (of_decide_eq_true (by kernel_rfl)) (by unfold Func.isWrapper; first | (rw [if_pos (by decide +kernel)]; kernel_rfl) | (rw [if_neg (by decide +kernel)]; exact ⟨rfl, rfl⟩))
    (fun os started H enc _ => lifted os started H enc)

theorem proved : Rows.FnExactThickAtSaid := over

end Go.Proofs.Ytmaakconbaiagaa.fnExactThickAt
