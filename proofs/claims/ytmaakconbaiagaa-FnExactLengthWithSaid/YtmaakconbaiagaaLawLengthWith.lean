/-
  For every rod and every number, FnExactLengthWith returns true: LengthWith of the program gives the distance and the code of the model. No condition.
-/
import Derived.Test.YtmaakconbaiagaaThickI
import Derived.ShutString
import Derived.ChangeOld
import Derived.Lib.SmallJoins
namespace Go.Proofs.Ytmaakconbaiagaa.fnExactLengthWith
open Go.ChangeShapes Go.WideShapes Go.ChangeAt Go.RowKit Go.Joins
open Go.ChangeMaps (open_string shut_string)
open Go.Proofs.Ytmaakconbaiagaa.rod
set_option linter.unusedVariables false

theorem prod_bd {L B T t : Int} (h : rodB L B T = true) (h0 : T < t) (h1 : t ≤ B) :
    0 ≤ (B - t) * L ∧ (B - t) * L ≤ 900000 := by
  obtain ⟨a1, a2, b1, b2, c1, c2⟩ := rodB_of h
  have e1 : 0 ≤ (B - t) * L := Int.mul_nonneg (by omega) (by omega)
  have e2 : (B - t) * L ≤ 300 * 3000 := Int.mul_le_mul (by omega) a2 (by omega) (by omega)
  omega
set_option maxHeartbeats 1000000 in
theorem len_s_bad (L B T t : Int) (hr : rodB L B T = false) (w : World) :
    Calls Try.prog 23 #[.agg #[.int .i64 L, .int .i64 B, .int .i64 T], .int .i64 t] w fun e w' => e = .returned (.tuple #[.int .i64 0, .int .i64 1]) ∧ Below w.heap.size w w' := by
  go_enter Try.func23, Try.ntmps23
  go_wp2_with fail
  refine (one_s _ _ L B T _ (by go_simp) (by go_simp) (by go_simp)).mono ?_
  rintro e w' ⟨rfl, n, rfl⟩
  go_wp2_with (go_at_call 33; refine (in_s _ _ _ _).mono ?_; rintro e w' ⟨rfl, rfl⟩)
  go_returns
  exact ⟨rfl, by go_grown; exact drewN_below (by go_grown) _⟩

set_option maxHeartbeats 1000000 in
theorem len_s_out (L B T t : Int) (hr : rodB L B T = true) (hd : inB t 1 300 = false) (w : World) :
    Calls Try.prog 23 #[.agg #[.int .i64 L, .int .i64 B, .int .i64 T], .int .i64 t] w fun e w' => e = .returned (.tuple #[.int .i64 0, .int .i64 2]) ∧ Below w.heap.size w w' := by
  go_enter Try.func23, Try.ntmps23
  go_wp2_with fail
  refine (one_s _ _ L B T _ (by go_simp) (by go_simp) (by go_simp)).mono ?_
  rintro e w' ⟨rfl, n, rfl⟩
  go_wp2_with (go_at_call 33; refine (in_s _ _ _ _).mono ?_; rintro e w' ⟨rfl, rfl⟩)
  go_returns
  exact ⟨rfl, by go_grown; exact drewN_below (by go_grown) _⟩

set_option maxHeartbeats 1000000 in
theorem len_s_thin (L B T t : Int) (hr : rodB L B T = true) (hd : inB t 1 300 = true) (ht : B < t) (w : World) :
    Calls Try.prog 23 #[.agg #[.int .i64 L, .int .i64 B, .int .i64 T], .int .i64 t] w fun e w' => e = .returned (.tuple #[.int .i64 0, .int .i64 3]) ∧ Below w.heap.size w w' := by
  go_enter Try.func23, Try.ntmps23
  go_wp2_with fail
  refine (one_s _ _ L B T _ (by go_simp) (by go_simp) (by go_simp)).mono ?_
  rintro e w' ⟨rfl, n, rfl⟩
  go_wp2_with (go_at_call 33; refine (in_s _ _ _ _).mono ?_; rintro e w' ⟨rfl, rfl⟩)
  go_returns
  exact ⟨rfl, by go_grown; exact drewN_below (by go_grown) _⟩

set_option maxHeartbeats 1000000 in
theorem len_s_all (L B T t : Int) (hr : rodB L B T = true) (hd : inB t 1 300 = true) (ht : t ≤ B) (hu : t ≤ T) (w : World) :
    Calls Try.prog 23 #[.agg #[.int .i64 L, .int .i64 B, .int .i64 T], .int .i64 t] w fun e w' => e = .returned (.tuple #[.int .i64 L, .int .i64 0]) ∧ Below w.heap.size w w' := by
  obtain ⟨l1, l2⟩ := inB_of hd
  go_enter Try.func23, Try.ntmps23
  go_wp2_with fail
  refine (one_s _ _ L B T _ (by go_simp) (by go_simp) (by go_simp)).mono ?_
  rintro e w' ⟨rfl, n, rfl⟩
  go_wp2_with (go_at_call 33; refine (in_s _ _ _ _).mono ?_; rintro e w' ⟨rfl, rfl⟩)
  go_returns
  exact ⟨rfl, by go_grown; exact drewN_below (by go_grown) _⟩

set_option maxHeartbeats 1000000 in
theorem len_s_part (L B T t : Int) (hr : rodB L B T = true) (hd : inB t 1 300 = true) (ht : t ≤ B) (hu : T < t) (w : World) :
    Calls Try.prog 23 #[.agg #[.int .i64 L, .int .i64 B, .int .i64 T], .int .i64 t] w fun e w' => e = .returned (.tuple #[.int .i64 ((B - t) * L / (B - T)), .int .i64 0]) ∧ Below w.heap.size w w' := by
  obtain ⟨l1, l2⟩ := inB_of hd
  obtain ⟨m1, m2⟩ := prod_bd hr hu ht
  obtain ⟨a1, a2, b1, b2, c1', c2'⟩ := rodB_of hr
  have r1 : (B - t) * L / (B - T) ≤ (B - t) * L := Int.ediv_le_self _ m1
  have r0 : 0 ≤ (B - t) * L / (B - T) := Int.ediv_nonneg m1 (by omega)
  go_enter Try.func23, Try.ntmps23
  go_wp2_with fail
  refine (one_s _ _ L B T _ (by go_simp) (by go_simp) (by go_simp)).mono ?_
  rintro e w' ⟨rfl, n, rfl⟩
  go_wp2_with (go_at_call 33; refine (in_s _ _ _ _).mono ?_; rintro e w' ⟨rfl, rfl⟩)
  go_returns
  exact ⟨rfl, by go_grown; exact drewN_below (by go_grown) _⟩

set_option maxHeartbeats 1000000 in
theorem len_i_bad (L B T t : Int) (hr : rodB L B T = false) (w : World) :
    Calls Try.prog 24 #[.agg #[.int .i64 L, .int .i64 B, .int .i64 T], .int .i64 t] w fun e w' => e = .returned (.tuple #[.int .i64 0, .int .i64 1]) ∧ Below w.heap.size w w' := by
  go_enter Try.func24, Try.ntmps24
  go_wp2_with fail
  refine (rod_i L B T _).mono ?_
  rintro e w1 ⟨rfl, hb⟩
  have c0 : w1.cell? ⟨w.heap.size, 0, none⟩ = some (.int .i64 L) := by rw [(bcell hb).1 _ _ (by simp <;> omega)]; go_simp
  have c1 : w1.cell? ⟨w.heap.size, 1, none⟩ = some (.int .i64 B) := by rw [(bcell hb).1 _ _ (by simp <;> omega)]; go_simp
  have c2 : w1.cell? ⟨w.heap.size, 2, none⟩ = some (.int .i64 T) := by rw [(bcell hb).1 _ _ (by simp <;> omega)]; go_simp
  have hg : Below w.heap.size w w1 := Below.trans (by go_grown) (hb.mono (by simp <;> omega))
  clear hb
  go_wp2_with (go_at_call 34; refine (in_i _ _ _ _).mono ?_; rintro e w' ⟨rfl, rfl⟩)
  go_returns
  exact ⟨rfl, hg⟩

set_option maxHeartbeats 1000000 in
theorem len_i_out (L B T t : Int) (hr : rodB L B T = true) (hd : inB t 1 300 = false) (w : World) :
    Calls Try.prog 24 #[.agg #[.int .i64 L, .int .i64 B, .int .i64 T], .int .i64 t] w fun e w' => e = .returned (.tuple #[.int .i64 0, .int .i64 2]) ∧ Below w.heap.size w w' := by
  go_enter Try.func24, Try.ntmps24
  go_wp2_with fail
  refine (rod_i L B T _).mono ?_
  rintro e w1 ⟨rfl, hb⟩
  have c0 : w1.cell? ⟨w.heap.size, 0, none⟩ = some (.int .i64 L) := by rw [(bcell hb).1 _ _ (by simp <;> omega)]; go_simp
  have c1 : w1.cell? ⟨w.heap.size, 1, none⟩ = some (.int .i64 B) := by rw [(bcell hb).1 _ _ (by simp <;> omega)]; go_simp
  have c2 : w1.cell? ⟨w.heap.size, 2, none⟩ = some (.int .i64 T) := by rw [(bcell hb).1 _ _ (by simp <;> omega)]; go_simp
  have hg : Below w.heap.size w w1 := Below.trans (by go_grown) (hb.mono (by simp <;> omega))
  clear hb
  go_wp2_with (go_at_call 34; refine (in_i _ _ _ _).mono ?_; rintro e w' ⟨rfl, rfl⟩)
  go_returns
  exact ⟨rfl, hg⟩

set_option maxHeartbeats 1000000 in
theorem len_i_thin (L B T t : Int) (hr : rodB L B T = true) (hd : inB t 1 300 = true) (ht : B < t) (w : World) :
    Calls Try.prog 24 #[.agg #[.int .i64 L, .int .i64 B, .int .i64 T], .int .i64 t] w fun e w' => e = .returned (.tuple #[.int .i64 0, .int .i64 3]) ∧ Below w.heap.size w w' := by
  go_enter Try.func24, Try.ntmps24
  go_wp2_with fail
  refine (rod_i L B T _).mono ?_
  rintro e w1 ⟨rfl, hb⟩
  have c0 : w1.cell? ⟨w.heap.size, 0, none⟩ = some (.int .i64 L) := by rw [(bcell hb).1 _ _ (by simp <;> omega)]; go_simp
  have c1 : w1.cell? ⟨w.heap.size, 1, none⟩ = some (.int .i64 B) := by rw [(bcell hb).1 _ _ (by simp <;> omega)]; go_simp
  have c2 : w1.cell? ⟨w.heap.size, 2, none⟩ = some (.int .i64 T) := by rw [(bcell hb).1 _ _ (by simp <;> omega)]; go_simp
  have hg : Below w.heap.size w w1 := Below.trans (by go_grown) (hb.mono (by simp <;> omega))
  clear hb
  go_wp2_with (go_at_call 34; refine (in_i _ _ _ _).mono ?_; rintro e w' ⟨rfl, rfl⟩)
  go_returns
  exact ⟨rfl, hg⟩

set_option maxHeartbeats 1000000 in
theorem len_i_all (L B T t : Int) (hr : rodB L B T = true) (hd : inB t 1 300 = true) (ht : t ≤ B) (hu : t ≤ T) (w : World) :
    Calls Try.prog 24 #[.agg #[.int .i64 L, .int .i64 B, .int .i64 T], .int .i64 t] w fun e w' => e = .returned (.tuple #[.int .i64 L, .int .i64 0]) ∧ Below w.heap.size w w' := by
  obtain ⟨l1, l2⟩ := inB_of hd
  go_enter Try.func24, Try.ntmps24
  go_wp2_with fail
  refine (rod_i L B T _).mono ?_
  rintro e w1 ⟨rfl, hb⟩
  have c0 : w1.cell? ⟨w.heap.size, 0, none⟩ = some (.int .i64 L) := by rw [(bcell hb).1 _ _ (by simp <;> omega)]; go_simp
  have c1 : w1.cell? ⟨w.heap.size, 1, none⟩ = some (.int .i64 B) := by rw [(bcell hb).1 _ _ (by simp <;> omega)]; go_simp
  have c2 : w1.cell? ⟨w.heap.size, 2, none⟩ = some (.int .i64 T) := by rw [(bcell hb).1 _ _ (by simp <;> omega)]; go_simp
  have hg : Below w.heap.size w w1 := Below.trans (by go_grown) (hb.mono (by simp <;> omega))
  clear hb
  go_wp2_with (go_at_call 34; refine (in_i _ _ _ _).mono ?_; rintro e w' ⟨rfl, rfl⟩)
  go_returns
  exact ⟨rfl, hg⟩

set_option maxHeartbeats 1000000 in
theorem len_i_part (L B T t : Int) (hr : rodB L B T = true) (hd : inB t 1 300 = true) (ht : t ≤ B) (hu : T < t) (w : World) :
    Calls Try.prog 24 #[.agg #[.int .i64 L, .int .i64 B, .int .i64 T], .int .i64 t] w fun e w' => e = .returned (.tuple #[.int .i64 ((B - t) * L / (B - T)), .int .i64 0]) ∧ Below w.heap.size w w' := by
  obtain ⟨l1, l2⟩ := inB_of hd
  obtain ⟨m1, m2⟩ := prod_bd hr hu ht
  obtain ⟨a1, a2, b1, b2, c1', c2'⟩ := rodB_of hr
  have r1 : (B - t) * L / (B - T) ≤ (B - t) * L := Int.ediv_le_self _ m1
  have r0 : 0 ≤ (B - t) * L / (B - T) := Int.ediv_nonneg m1 (by omega)
  go_enter Try.func24, Try.ntmps24
  go_wp2_with fail
  refine (rod_i L B T _).mono ?_
  rintro e w1 ⟨rfl, hb⟩
  have c0 : w1.cell? ⟨w.heap.size, 0, none⟩ = some (.int .i64 L) := by rw [(bcell hb).1 _ _ (by simp <;> omega)]; go_simp
  have c1 : w1.cell? ⟨w.heap.size, 1, none⟩ = some (.int .i64 B) := by rw [(bcell hb).1 _ _ (by simp <;> omega)]; go_simp
  have c2 : w1.cell? ⟨w.heap.size, 2, none⟩ = some (.int .i64 T) := by rw [(bcell hb).1 _ _ (by simp <;> omega)]; go_simp
  have hg : Below w.heap.size w w1 := Below.trans (by go_grown) (hb.mono (by simp <;> omega))
  clear hb
  go_wp2_with (go_at_call 34; refine (in_i _ _ _ _).mono ?_; rintro e w' ⟨rfl, rfl⟩)
  go_returns
  exact ⟨rfl, hg⟩

set_option maxHeartbeats 1000000 in
theorem core (L B T d v c : Int) (w : World)
    (hs : Hid (∀ w, Calls Try.prog 23 #[.agg #[.int .i64 L, .int .i64 B, .int .i64 T], .int .i64 d] w fun e w' => e = .returned (.tuple #[.int .i64 v, .int .i64 c]) ∧ Below w.heap.size w w'))
    (hi : Hid (∀ w, Calls Try.prog 24 #[.agg #[.int .i64 L, .int .i64 B, .int .i64 T], .int .i64 d] w fun e w' => e = .returned (.tuple #[.int .i64 v, .int .i64 c]) ∧ Below w.heap.size w w')) :
    Calls Try.prog 7 #[.agg #[.int .i64 L, .int .i64 B, .int .i64 T], .int .i64 d] w fun e w' => e = .returned (.bool true) ∧ Below w.heap.size w w' := by
  go_enter Try.func7, Try.ntmps7
  go_wp2_with fail
  refine (toRod_c L B T _).mono ?_
  rintro e w0 ⟨rfl, hb⟩
  have z0 := hb.size
  simp at z0
  have p0 : w0.cell? ⟨w.heap.size, 0, none⟩ = some (.int .i64 L) := by rw [(bcell hb).1 _ _ (by simp <;> omega)]; go_simp
  have p1 : w0.cell? ⟨w.heap.size, 1, none⟩ = some (.int .i64 B) := by rw [(bcell hb).1 _ _ (by simp <;> omega)]; go_simp
  have p2 : w0.cell? ⟨w.heap.size, 2, none⟩ = some (.int .i64 T) := by rw [(bcell hb).1 _ _ (by simp <;> omega)]; go_simp
  have g1 : Below w.heap.size w w0 := Below.trans (by go_grown) (hb.mono (by simp <;> omega))
  clear hb
  go_wp2_with fail
  refine (hs.out _).mono ?_
  rintro e w1 ⟨rfl, hb⟩
  have z1 := hb.size
  replace p0 : w1.cell? ⟨w.heap.size, 0, none⟩ = some (.int .i64 L) := by rw [(bcell hb).1 _ _ (by omega)]; exact p0
  replace p1 : w1.cell? ⟨w.heap.size, 1, none⟩ = some (.int .i64 B) := by rw [(bcell hb).1 _ _ (by omega)]; exact p1
  replace p2 : w1.cell? ⟨w.heap.size, 2, none⟩ = some (.int .i64 T) := by rw [(bcell hb).1 _ _ (by omega)]; exact p2
  replace g1 : Below w.heap.size w w1 := Below.trans g1 (hb.mono (by omega))
  have y1 : w.heap.size < w1.heap.size := by omega
  clear hb z1 z0
  go_wp2_with fail
  refine (toRod_c L B T _).mono ?_
  rintro e w2 ⟨rfl, hb⟩
  have z2 := hb.size
  have g2 : Below w.heap.size w w2 := Below.trans g1 (hb.mono (by omega))
  clear hb p0 p1 p2
  go_wp2_with fail
  refine (hi.out _).mono ?_
  rintro e w3 ⟨rfl, hb⟩
  have g3 : Below w.heap.size w w3 := Below.trans g2 (hb.mono (by omega))
  clear hb
  go_wp2
  go_ret
  exact ⟨rfl, g3⟩

theorem walk (L B T t : Int) (w : World) (x0 : (Lit.int .i64 L).wf = true) (x1 : (Lit.int .i64 B).wf = true) (x2 : (Lit.int .i64 T).wf = true) (x3 : (Lit.int .i64 t).wf = true) :
    Calls Try.prog 7 #[.agg #[.int .i64 L, .int .i64 B, .int .i64 T], .int .i64 t] w fun e w' => e = .returned (.bool true) ∧ Below w.heap.size w w' := by
  cases hr : rodB L B T
  · exact core L B T t 0 1 w (len_s_bad L B T t hr) (len_i_bad L B T t hr)
  cases hd : inB t 1 300
  · exact core L B T t 0 2 w (len_s_out L B T t hr hd) (len_i_out L B T t hr hd)
  by_cases ht : B < t
  · exact core L B T t 0 3 w (len_s_thin L B T t hr hd ht) (len_i_thin L B T t hr hd ht)
  by_cases hu : t ≤ T
  · exact core L B T t L 0 w (len_s_all L B T t hr hd (by omega) hu) (len_i_all L B T t hr hd (by omega) hu)
  · exact core L B T t _ 0 w (len_s_part L B T t hr hd (by omega) (by omega)) (len_i_part L B T t hr hd (by omega) (by omega))
theorem own : ownKnob Try.prog.godebug = none := by kernel_rfl
theorem laidOut : laidOutB Try.prog = true := by kernel_rfl

set_option maxRecDepth 100000 in
theorem lifted (os : Os) (started : os.Started) (H : Type) (enc : TypeId × Value → H) :
    ReturnsInHanded {} Try.checked os 7 .any (Rows.fnExactLengthWithSpec.pre6 enc Try.prog Try.f7 Rows.fnExactLengthWithRow.domain false) (Rows.fnExactLengthWithSpec.post enc Try.prog Try.f7 false true false false) := by
  refine returnsInHanded_of_change (C := Try.checked) own started (by kernel_rfl) Try.func7
    (ChangeSpec.witness6 (enc := enc) (C := Try.checked) false ⟨#[], #[.agg #[.int .i64 0, .int .i64 0, .int .i64 0], .int .i64 0], []⟩ 8 (by kernel_rfl) (by kernel_rfl) (by kernel_rfl) (by kernel_rfl)) ?_
  intro W base args ds gs before hval0 hW hcnd hreach
  have hval : ∀ (j : Nat) t v, Try.f7.params[j]? = some t → args[j]? = some v → Value.okWide Try.prog W .any base t v := hval0
  have hW' := hW
  obtain ⟨p, q, hA0, hV, rfl, hfz, hnd⟩ := hW
  have hA : DataW.TrodAll enc Try.prog W 0 (fun _ => true) true Try.f7.params.toList args.toList ds p := hA0
  rw [Try.params7] at hA hval
  obtain ⟨v0, vs0, d0, ds0, p0, q0, hargs, rfl, rfl, h0, r0⟩ := trodAll_cons hA
  obtain ⟨v1, vs1, d1, ds1, p1, q1, hargs1, rfl, rfl, h1, r1⟩ := trodAll_cons r0
  obtain ⟨rfl, rfl, rfl⟩ := trodAll_nil r1
  obtain rfl : args = #[v0, v1] := by cases args; simp_all
  obtain ⟨rfl, rfl⟩ := trodVars_none hV
  have k0 := h0
  have lt0 : ∀ x ∈ p0, x.block < W.heap.size := by obtain ⟨m, hm⟩ := k0; exact DataW.trod_lt m _ _ _ hm
  obtain ⟨c0_0, c0_1, c0_2, y0_0, y0_1, y0_2, m0, rfl, rfl, rfl, hy0_0, hy0_1, hy0_2⟩ := open_agg3 Try.underlying30 (by kernel_rfl) (by kernel_rfl) (hval 0 30 v0 rfl rfl) h0
  obtain ⟨a0_0, e0_0, rfl, w0_0⟩ := DataW.trod_int Try.underlying2 hy0_0
  simp at e0_0
  subst e0_0
  obtain ⟨a0_1, e0_1, rfl, w0_1⟩ := DataW.trod_int Try.underlying2 hy0_1
  simp at e0_1
  subst e0_1
  obtain ⟨a0_2, e0_2, rfl, w0_2⟩ := DataW.trod_int Try.underlying2 hy0_2
  simp at e0_2
  subst e0_2
  have k1 := h1
  have lt1 : ∀ x ∈ p1, x.block < W.heap.size := by obtain ⟨m, hm⟩ := k1; exact DataW.trod_lt m _ _ _ hm
  obtain ⟨a1, rfl, rfl, rfl, w1⟩ := open_int Try.underlying2 (hval 1 2 v1 rfl rfl) h1
  clear hA0 hval0
  refine (walk a0_0 a0_1 a0_2 a1 W w0_0 w0_1 w0_2 w1).mono fun e W' ⟨he, bel⟩ => ?_
  subst he
  exact ⟨_, rfl, _, _, _, [], _, [], hW', trodAll_mk1 (shut_bool Try.underlying4 _), (trodAll_cons_mk (Below.trod laidOut (by kernel_rfl) (of_decide_eq_true (by kernel_rfl)) k0 bel lt0) (trodAll_cons_mk (Below.trod laidOut (by kernel_rfl) (of_decide_eq_true (by kernel_rfl)) k1 bel lt1) trodAll_mk0)), rfl, bel.frame _, fun h => by cases h⟩

theorem over : Rows.fnExactLengthWithRow.holds Try.pinned (OpenSpec.ofChange Rows.fnExactLengthWithSpec) :=
  OpenClaim.holds_of_wide 7 Try.f7 rfl rfl rfl rfl rfl rfl rfl ⟨rfl, rfl, rfl, rfl, rfl⟩ rfl rfl rfl rfl rfl (by kernel_rfl) Try.func7 (by kernel_rfl)
    (of_decide_eq_true (by kernel_rfl)) (by unfold Func.isWrapper; first | (rw [if_pos (by decide +kernel)]; kernel_rfl) | (rw [if_neg (by decide +kernel)]; exact ⟨rfl, rfl⟩))
    (fun os started H enc _ => lifted os started H enc)

theorem proved : Rows.FnExactLengthWithSaid := over

end Go.Proofs.Ytmaakconbaiagaa.fnExactLengthWith
