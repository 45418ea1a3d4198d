/-
  For every base and all numbers, FnExactStakesFrom returns true: StakesFrom of the program gives the number and the code of the model. No condition.
-/
import Derived.Test.YthcpkmdgipepgaaBe
import Derived.ShutString
import Derived.ChangeOld
import Derived.Lib.SmallJoins
namespace Go.Proofs.Ythcpkmdgipepgaa.fnExactStakesFrom
open Go.ChangeShapes Go.WideShapes Go.ChangeAt Go.RowKit Go.Joins
open Go.ChangeMaps (open_string shut_string)
open Go.Proofs.Ythcpkmdgipepgaa.rod Go.Proofs.Ythcpkmdgipepgaa.ba Go.Proofs.Ythcpkmdgipepgaa.mem
set_option linter.unusedVariables false

set_option maxHeartbeats 1000000 in
theorem core (S M R K a l : Int) (v c : Int) (w : World)
    (hs : Hid (∀ w, Calls Try.prog 18 #[.agg #[.int .i64 S, .int .i64 M, .int .i64 R, .int .i64 K], .int .i64 a, .int .i64 l] w (fun e w' => e = .returned (.tuple #[.int .i64 v, .int .i64 c]) ∧ Below w.heap.size w w')))
    (hi : Hid (∀ w, Calls Try.prog 19 #[.agg #[.int .i64 S, .int .i64 M, .int .i64 R, .int .i64 K], .int .i64 a, .int .i64 l] w (fun e w' => e = .returned (.tuple #[.int .i64 v, .int .i64 c]) ∧ Below w.heap.size w w'))) :
    Calls Try.prog 5 #[.agg #[.int .i64 S, .int .i64 M, .int .i64 R, .int .i64 K], .int .i64 a, .int .i64 l] w fun e w' => e = .returned (.bool true) ∧ Below w.heap.size w w' := by
  go_enter Try.func5, Try.ntmps5
  go_wp2_with fail
  refine (toBase_c S M R K _).mono ?_
  rintro e w0 ⟨rfl, hb⟩
  have z0 := hb.size
  simp at z0
  have p0 : w0.cell? ⟨w.heap.size, 0, none⟩ = some (.int .i64 S) := by rw [(bcell hb).1 _ _ (by simp <;> omega)]; go_simp
  have p1 : w0.cell? ⟨w.heap.size, 1, none⟩ = some (.int .i64 M) := by rw [(bcell hb).1 _ _ (by simp <;> omega)]; go_simp
  have p2 : w0.cell? ⟨w.heap.size, 2, none⟩ = some (.int .i64 R) := by rw [(bcell hb).1 _ _ (by simp <;> omega)]; go_simp
  have p3 : w0.cell? ⟨w.heap.size, 3, none⟩ = some (.int .i64 K) := by rw [(bcell hb).1 _ _ (by simp <;> omega)]; go_simp
  have g1 : Below w.heap.size w w0 := Below.trans (by go_grown) (hb.mono (by simp <;> omega))
  clear hb
  go_wp2_with fail
  refine (hs.out _).mono ?_
  rintro e w1 ⟨rfl, hb⟩
  have z1 := hb.size
  replace p0 : w1.cell? ⟨w.heap.size, 0, none⟩ = some (.int .i64 S) := by rw [(bcell hb).1 _ _ (by omega)]; exact p0
  replace p1 : w1.cell? ⟨w.heap.size, 1, none⟩ = some (.int .i64 M) := by rw [(bcell hb).1 _ _ (by omega)]; exact p1
  replace p2 : w1.cell? ⟨w.heap.size, 2, none⟩ = some (.int .i64 R) := by rw [(bcell hb).1 _ _ (by omega)]; exact p2
  replace p3 : w1.cell? ⟨w.heap.size, 3, none⟩ = some (.int .i64 K) := by rw [(bcell hb).1 _ _ (by omega)]; exact p3
  replace g1 : Below w.heap.size w w1 := Below.trans g1 (hb.mono (by omega))
  have y1 : w.heap.size < w1.heap.size := by omega
  clear hb z1 z0
  go_wp2_with fail
  refine (toBase_c S M R K _).mono ?_
  rintro e w2 ⟨rfl, hb⟩
  have z2 := hb.size
  have g2 : Below w.heap.size w w2 := Below.trans g1 (hb.mono (by omega))
  clear hb p0 p1 p2 p3
  go_wp2_with fail
  refine (hi.out _).mono ?_
  rintro e w3 ⟨rfl, hb⟩
  have g3 : Below w.heap.size w w3 := Below.trans g2 (hb.mono (by omega))
  clear hb
  go_wp2
  go_ret
  exact ⟨rfl, g3⟩

theorem walk (S M R K a l : Int) (w : World) (x0 : (Lit.int .i64 S).wf = true) (x1 : (Lit.int .i64 M).wf = true) (x2 : (Lit.int .i64 R).wf = true) (x3 : (Lit.int .i64 K).wf = true) (x4 : (Lit.int .i64 a).wf = true) (x5 : (Lit.int .i64 l).wf = true) :
    Calls Try.prog 5 #[.agg #[.int .i64 S, .int .i64 M, .int .i64 R, .int .i64 K], .int .i64 a, .int .i64 l] w fun e w' => e = .returned (.bool true) ∧ Below w.heap.size w w' := by
  cases hr : baseB S M R K
  · exact core S M R K a l 0 1 w (fun w => stakes_s_no S M R K a l hr w) (fun w => stakes_i_no S M R K a l hr w)
  cases h1 : inB a 1 2
  · exact core S M R K a l 0 2 w (fun w => stakes_s_each S M R K a l hr h1 w) (fun w => stakes_i_each S M R K a l hr h1 w)
  cases h2 : inB l 0 4
  · exact core S M R K a l 0 2 w (fun w => stakes_s_few S M R K a l hr h1 h2 w) (fun w => stakes_i_few S M R K a l hr h1 h2 w)
  by_cases h3 : a * (2 * (S + M)) - l < 3
  · exact core S M R K a l 0 6 w (fun w => stakes_s_state S M R K a l hr h1 h2 h3 w) (fun w => stakes_i_state S M R K a l hr h1 h2 h3 w)
  · exact core S M R K a l _ 0 w (fun w => stakes_s_yes S M R K a l hr h1 h2 h3 w) (fun w => stakes_i_yes S M R K a l hr h1 h2 h3 w)

theorem own : ownKnob Try.prog.godebug = none := by kernel_rfl
theorem laidOut : laidOutB Try.prog = true := by kernel_rfl

set_option maxRecDepth 100000 in
theorem lifted (os : Os) (started : os.Started) (H : Type) (enc : TypeId × Value → H) :
    ReturnsInHanded {} Try.checked os 5 .any (Rows.fnExactStakesFromSpec.pre6 enc Try.prog Try.f5 Rows.fnExactStakesFromRow.domain false) (Rows.fnExactStakesFromSpec.post enc Try.prog Try.f5 false true false false) := by
  refine returnsInHanded_of_change (C := Try.checked) own started (by kernel_rfl) Try.func5
    (ChangeSpec.witness6 (enc := enc) (C := Try.checked) false ⟨#[], #[.agg #[.int .i64 0, .int .i64 0, .int .i64 0, .int .i64 0], .int .i64 0, .int .i64 0], []⟩ 8 (by kernel_rfl) (by kernel_rfl) (by kernel_rfl) (by kernel_rfl)) ?_
  intro W base args ds gs before hval0 hW hcnd hreach
  have hval : ∀ (j : Nat) t v, Try.f5.params[j]? = some t → args[j]? = some v → Value.okWide Try.prog W .any base t v := hval0
  have hW' := hW
  obtain ⟨p, q, hA0, hV, rfl, hfz, hnd⟩ := hW
  have hA : DataW.TrodAll enc Try.prog W 0 (fun _ => true) true Try.f5.params.toList args.toList ds p := hA0
  rw [Try.params5] at hA hval
  obtain ⟨v0, vs0, d0, ds0, p0, q0, hargs, rfl, rfl, h0, r0⟩ := trodAll_cons hA
  obtain ⟨v1, vs1, d1, ds1, p1, q1, hargs1, rfl, rfl, h1, r1⟩ := trodAll_cons r0
  obtain ⟨v2, vs2, d2, ds2, p2, q2, hargs2, rfl, rfl, h2, r2⟩ := trodAll_cons r1
  obtain ⟨rfl, rfl, rfl⟩ := trodAll_nil r2
  obtain rfl : args = #[v0, v1, v2] := by cases args; simp_all
  obtain ⟨rfl, rfl⟩ := trodVars_none hV
  have k0 := h0
  have lt0 : ∀ x ∈ p0, x.block < W.heap.size := by obtain ⟨m, hm⟩ := k0; exact DataW.trod_lt m _ _ _ hm
  obtain ⟨c0_0, c0_1, c0_2, c0_3, y0_0, y0_1, y0_2, y0_3, m0, rfl, rfl, rfl, hy0_0, hy0_1, hy0_2, hy0_3⟩ := open_agg4 Try.underlying23 (by kernel_rfl) (by kernel_rfl) (hval 0 23 v0 rfl rfl) h0
  obtain ⟨a0_0, e0_0, rfl, w0_0⟩ := DataW.trod_int Try.underlying2 hy0_0
  simp at e0_0
  subst e0_0
  obtain ⟨a0_1, e0_1, rfl, w0_1⟩ := DataW.trod_int Try.underlying2 hy0_1
  simp at e0_1
  subst e0_1
  obtain ⟨a0_2, e0_2, rfl, w0_2⟩ := DataW.trod_int Try.underlying2 hy0_2
  simp at e0_2
  subst e0_2
  obtain ⟨a0_3, e0_3, rfl, w0_3⟩ := DataW.trod_int Try.underlying2 hy0_3
  simp at e0_3
  subst e0_3
  have k1 := h1
  have lt1 : ∀ x ∈ p1, x.block < W.heap.size := by obtain ⟨m, hm⟩ := k1; exact DataW.trod_lt m _ _ _ hm
  obtain ⟨a1, rfl, rfl, rfl, w1⟩ := open_int Try.underlying2 (hval 1 2 v1 rfl rfl) h1
  have k2 := h2
  have lt2 : ∀ x ∈ p2, x.block < W.heap.size := by obtain ⟨m, hm⟩ := k2; exact DataW.trod_lt m _ _ _ hm
  obtain ⟨a2, rfl, rfl, rfl, w2⟩ := open_int Try.underlying2 (hval 2 2 v2 rfl rfl) h2
  clear hA0 hval0
  refine (walk a0_0 a0_1 a0_2 a0_3 a1 a2 W w0_0 w0_1 w0_2 w0_3 w1 w2).mono fun e W' ⟨he, bel⟩ => ?_
  subst he
  exact ⟨_, rfl, _, _, _, [], _, [], hW', trodAll_mk1 (shut_bool Try.underlying4 _), (trodAll_cons_mk (Below.trod laidOut (by kernel_rfl) (of_decide_eq_true (by kernel_rfl)) k0 bel lt0) (trodAll_cons_mk (Below.trod laidOut (by kernel_rfl) (of_decide_eq_true (by kernel_rfl)) k1 bel lt1) (trodAll_cons_mk (Below.trod laidOut (by kernel_rfl) (of_decide_eq_true (by kernel_rfl)) k2 bel lt2) trodAll_mk0))), rfl, bel.frame _, fun h => by cases h⟩

theorem over : Rows.fnExactStakesFromRow.holds Try.pinned (OpenSpec.ofChange Rows.fnExactStakesFromSpec) :=
  OpenClaim.holds_of_wide 5 Try.f5 rfl rfl rfl rfl rfl rfl rfl ⟨rfl, rfl, rfl, rfl, rfl⟩ rfl rfl rfl rfl rfl (by kernel_rfl) Try.func5 (by kernel_rfl)
    (of_decide_eq_true (by kernel_rfl)) (by unfold Func.isWrapper; first | (rw [if_pos (by decide +kernel)]; kernel_rfl) | (rw [if_neg (by decide +kernel)]; exact ⟨rfl, rfl⟩))
    (fun os started H enc _ => lifted os started H enc)

theorem proved : Rows.FnExactStakesFromSaid := over

end Go.Proofs.Ythcpkmdgipepgaa.fnExactStakesFrom
