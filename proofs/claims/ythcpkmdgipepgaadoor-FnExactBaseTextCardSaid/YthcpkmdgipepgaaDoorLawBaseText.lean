/-
  For every base, FnExactBaseText returns true: BaseText of the program gives the text of the model. The library's variables hold what its text lays there (the card ties them). No condition.
-/
import Derived.Test.YthcpkmdgipepgaaDoorBt
import Derived.Test.YthcpkmdgipepgaaDoorCloFnExactBaseText
import Derived.Test.YthcpkmdgipepgaaDoorCards
import Derived.Test.YthcpkmdgipepgaaDoorTie
import Derived.Deep.DeepHandedRow
import Derived.Deep.DeepWitnessRowRef
import Derived.ShutString
import Derived.ChangeOld
import Derived.Lib.SmallJoins
namespace Go.Proofs.YthcpkmdgipepgaaDoor.fnExactBaseText
open Go.ChangeShapes Go.WideShapes Go.ChangeAt Go.RowKit Go.Joins
open Go.ChangeMaps (open_string shut_string)
open Go.Proofs.YthcpkmdgipepgaaDoor.rod Go.Proofs.YthcpkmdgipepgaaDoor.ba Go.Proofs.YthcpkmdgipepgaaDoor.mem
set_option linter.unusedVariables false

open Go.Proofs.YthcpkmdgipepgaaDoor.dec in
theorem tab_of {W : World} (hL : laidMetH Tryd.prog Rows.fnExactBaseTextRow.laid W) : Tab W := by
  have h : laidMet Tryd.prog Rows.fnExactBaseTextRow.laid W := hL
  obtain ⟨ps, hlv, _⟩ := h
  obtain ⟨g, t, cs, fuel, p, hg, hty, hvar, hd⟩ := Lib.LaidVars_reads hlv powName Rows.laid_internal_strconv_uint64pow10 (.tail _ (.tail _ (.head _)))
  obtain rfl := Option.some.inj (g_pow.symm.trans hg)
  have hc := Lib.cells_of_tab (k := .u64) (zs := Lib.pow10Tab) Tryd.underlying76 Tryd.underlying62 (by kernel_rfl) (by kernel_rfl) (by
    have e : (Tryd.prog.globals[0]?).map (·.type) = some 76 := by kernel_rfl
    obtain rfl := Option.some.inj (e.symm.trans hty)
    exact hd)
  show W.var? Tryd.prog powName = _
  rw [hvar, ← hc]

set_option maxHeartbeats 1000000 in
theorem core (S M R K : Int) (v : ByteArray) (w : World)
    (hs : Hid (∀ w, Calls Tryd.prog 5 #[.agg #[.int .i64 S, .int .i64 M, .int .i64 R, .int .i64 K]] w (fun e w' => e = .returned (.string v) ∧ Below w.heap.size w w')))
    (hi : Hid (∀ w', Below w.heap.size w w' → Calls Tryd.prog 7 #[.agg #[.int .i64 S, .int .i64 M, .int .i64 R, .int .i64 K]] w' (fun e w2 => e = .returned (.string v) ∧ Below w'.heap.size w' w2))) :
    Calls Tryd.prog 3 #[.agg #[.int .i64 S, .int .i64 M, .int .i64 R, .int .i64 K]] w fun e w' => e = .returned (.bool true) ∧ Below w.heap.size w w' := by
  go_enter Tryd.func3, Tryd.ntmps3
  go_wp2_with fail
  refine (toBase_c S M R K _).mono ?_
  rintro e w0 ⟨rfl, hb⟩
  have z0 := hb.size
  simp at z0
  have p0 : w0.cell? ⟨w.heap.size, 0, none⟩ = some (.int .i64 S) := by rw [(bcell hb).1 _ _ (by simp <;> omega)]; go_simp
  have p1 : w0.cell? ⟨w.heap.size, 1, none⟩ = some (.int .i64 M) := by rw [(bcell hb).1 _ _ (by simp <;> omega)]; go_simp
  have p2 : w0.cell? ⟨w.heap.size, 2, none⟩ = some (.int .i64 R) := by rw [(bcell hb).1 _ _ (by simp <;> omega)]; go_simp
  have p3 : w0.cell? ⟨w.heap.size, 3, none⟩ = some (.int .i64 K) := by rw [(bcell hb).1 _ _ (by simp <;> omega)]; go_simp
  have g1 : Below w.heap.size w w0 := Below.trans (by go_grown) (hb.mono (by simp <;> omega))
  clear hb
  go_wp2_with fail
  refine (hs.out _).mono ?_
  rintro e w1 ⟨rfl, hb⟩
  have z1 := hb.size
  replace p0 : w1.cell? ⟨w.heap.size, 0, none⟩ = some (.int .i64 S) := by rw [(bcell hb).1 _ _ (by omega)]; exact p0
  replace p1 : w1.cell? ⟨w.heap.size, 1, none⟩ = some (.int .i64 M) := by rw [(bcell hb).1 _ _ (by omega)]; exact p1
  replace p2 : w1.cell? ⟨w.heap.size, 2, none⟩ = some (.int .i64 R) := by rw [(bcell hb).1 _ _ (by omega)]; exact p2
  replace p3 : w1.cell? ⟨w.heap.size, 3, none⟩ = some (.int .i64 K) := by rw [(bcell hb).1 _ _ (by omega)]; exact p3
  replace g1 : Below w.heap.size w w1 := Below.trans g1 (hb.mono (by omega))
  have y1 : w.heap.size < w1.heap.size := by omega
  clear hb z1 z0
  go_wp2_with fail
  refine (toBase_c S M R K _).mono ?_
  rintro e w2 ⟨rfl, hb⟩
  have z2 := hb.size
  have g2 : Below w.heap.size w w2 := Below.trans g1 (hb.mono (by omega))
  clear hb p0 p1 p2 p3
  go_wp2_with fail
  refine (hi.out _ g2).mono ?_
  rintro e w3 ⟨rfl, hb⟩
  have g3 : Below w.heap.size w w3 := Below.trans g2 (hb.mono (by omega))
  clear hb
  go_wp2
  go_ret
  exact ⟨rfl, g3⟩

theorem walk (S M R K : Int) (w : World) (x0 : (Lit.int .i64 S).wf = true) (x1 : (Lit.int .i64 M).wf = true) (x2 : (Lit.int .i64 R).wf = true) (x3 : (Lit.int .i64 K).wf = true) (hL : laidMetH Tryd.prog Rows.fnExactBaseTextRow.laid w) :
    Calls Tryd.prog 3 #[.agg #[.int .i64 S, .int .i64 M, .int .i64 R, .int .i64 K]] w fun e w' => e = .returned (.bool true) ∧ Below w.heap.size w w' := by
  have ht := tab_of hL
  cases hr : baseB S M R K
  · exact core S M R K _ w (fun w => bt_s_no S M R K w hr) (fun w' _ => bt_i_no S M R K w' hr)
  · exact core S M R K _ w (fun w => bt_s S M R K w hr) (fun w' hb => bt_i S M R K w' hr (Go.Proofs.YthcpkmdgipepgaaDoor.dec.tab_below ht hb))

theorem own : ownKnob Tryd.prog.godebug = none := by kernel_rfl
theorem laidOut : laidOutB Tryd.prog = true := by kernel_rfl

set_option maxRecDepth 100000 in
theorem contract (H : Type) (enc : TypeId × Value → H) (W : World) (base : Nat) (args : Array Value) (ds gs : List (DataW H)) (before : List MemPlace)
    (hval : ∀ (j : Nat) t v, Tryd.f3.params[j]? = some t → args[j]? = some v → Value.okWide Tryd.prog W .any base t v)
    (hW : DataW.Whole enc Tryd.prog Tryd.f3.params.toList Rows.fnExactBaseTextSpec.vars false W args.toList ds gs before) (hL : laidMetH Tryd.prog Rows.fnExactBaseTextRow.laid W) :
    Calls Tryd.prog 3 args W fun e W' => ∃ v, e = .returned v ∧ Rows.fnExactBaseTextSpec.post enc Tryd.prog Tryd.f3 false true false false W args v W' := by
  have hW' := hW
  obtain ⟨p, q, hA0, hV, rfl, hfz, hnd⟩ := hW
  have hA : DataW.TrodAll enc Tryd.prog W 0 (fun _ => true) true Tryd.f3.params.toList args.toList ds p := hA0
  rw [Tryd.params3] at hA hval
  obtain ⟨v0, vs0, d0, ds0, p0, q0, hargs, rfl, rfl, h0, r0⟩ := trodAll_cons hA
  obtain ⟨rfl, rfl, rfl⟩ := trodAll_nil r0
  obtain rfl : args = #[v0] := by cases args; simp_all
  obtain ⟨rfl, rfl⟩ := trodVars_none hV
  have k0 := h0
  have lt0 : ∀ x ∈ p0, x.block < W.heap.size := by obtain ⟨m, hm⟩ := k0; exact DataW.trod_lt m _ _ _ hm
  obtain ⟨c0_0, c0_1, c0_2, c0_3, y0_0, y0_1, y0_2, y0_3, m0, rfl, rfl, rfl, hy0_0, hy0_1, hy0_2, hy0_3⟩ := open_agg4 Tryd.underlying23 (by kernel_rfl) (by kernel_rfl) (hval 0 23 v0 rfl rfl) h0
  obtain ⟨a0_0, e0_0, rfl, w0_0⟩ := DataW.trod_int Tryd.underlying2 hy0_0
  simp at e0_0
  subst e0_0
  obtain ⟨a0_1, e0_1, rfl, w0_1⟩ := DataW.trod_int Tryd.underlying2 hy0_1
  simp at e0_1
  subst e0_1
  obtain ⟨a0_2, e0_2, rfl, w0_2⟩ := DataW.trod_int Tryd.underlying2 hy0_2
  simp at e0_2
  subst e0_2
  obtain ⟨a0_3, e0_3, rfl, w0_3⟩ := DataW.trod_int Tryd.underlying2 hy0_3
  simp at e0_3
  subst e0_3
  clear hA0
  refine (walk a0_0 a0_1 a0_2 a0_3 W w0_0 w0_1 w0_2 w0_3 hL).mono fun e W' ⟨he, bel⟩ => ?_
  subst he
  exact ⟨_, rfl, _, _, _, [], _, [], hW', trodAll_mk1 (shut_bool Tryd.underlying4 _), (trodAll_cons_mk (Below.trod laidOut (by kernel_rfl) (of_decide_eq_true (by kernel_rfl)) k0 bel lt0) trodAll_mk0), rfl, bel.frame _, fun h => by cases h⟩



set_option maxRecDepth 100000 in
noncomputable def laidWorld (os : Os) : World :=
  { World.holding Tryd.prog os ⟨#[], #[], []⟩ with heap := ((((World.holding Tryd.prog os ⟨#[], #[], []⟩).heap.modify 1 fun
      | .cells _ t frozen => .cells #[.int .u8 0, .int .u8 1, .int .u8 28, .int .u8 2, .int .u8 29, .int .u8 14, .int .u8 24, .int .u8 3, .int .u8 30, .int .u8 22, .int .u8 20, .int .u8 15, .int .u8 25, .int .u8 17, .int .u8 4, .int .u8 8, .int .u8 31, .int .u8 27, .int .u8 13, .int .u8 23, .int .u8 21, .int .u8 19, .int .u8 16, .int .u8 7, .int .u8 26, .int .u8 12, .int .u8 18, .int .u8 6, .int .u8 11, .int .u8 5, .int .u8 10, .int .u8 9] t frozen
      | o => o).modify 2 fun
      | .cells _ t frozen => .cells #[.int .u8 0, .int .u8 1, .int .u8 56, .int .u8 2, .int .u8 57, .int .u8 49, .int .u8 28, .int .u8 3, .int .u8 61, .int .u8 58, .int .u8 42, .int .u8 50, .int .u8 38, .int .u8 29, .int .u8 17, .int .u8 4, .int .u8 62, .int .u8 47, .int .u8 59, .int .u8 36, .int .u8 45, .int .u8 43, .int .u8 51, .int .u8 22, .int .u8 53, .int .u8 39, .int .u8 33, .int .u8 30, .int .u8 24, .int .u8 18, .int .u8 12, .int .u8 5, .int .u8 63, .int .u8 55, .int .u8 48, .int .u8 27, .int .u8 60, .int .u8 41, .int .u8 37, .int .u8 16, .int .u8 46, .int .u8 35, .int .u8 44, .int .u8 21, .int .u8 52, .int .u8 32, .int .u8 23, .int .u8 11, .int .u8 54, .int .u8 26, .int .u8 40, .int .u8 15, .int .u8 34, .int .u8 20, .int .u8 31, .int .u8 10, .int .u8 25, .int .u8 14, .int .u8 19, .int .u8 9, .int .u8 13, .int .u8 8, .int .u8 7, .int .u8 6] t frozen
      | o => o).modify 0 fun
      | .cells _ t frozen => .cells #[.int .u64 1, .int .u64 10, .int .u64 100, .int .u64 1000, .int .u64 10000, .int .u64 100000, .int .u64 1000000, .int .u64 10000000, .int .u64 100000000, .int .u64 1000000000, .int .u64 10000000000, .int .u64 100000000000, .int .u64 1000000000000, .int .u64 10000000000000, .int .u64 100000000000000, .int .u64 1000000000000000, .int .u64 10000000000000000, .int .u64 100000000000000000, .int .u64 1000000000000000000, .int .u64 10000000000000000000] t frozen
      | o => o) }
set_option maxRecDepth 100000 in
theorem laid_met (os : Os) : laidMet Tryd.prog Rows.fnExactBaseTextRow.laid ((laidWorld os).forCall (fun _ _ => 0) ⟨#[], #[.agg #[.int .i64 0, .int .i64 0, .int .i64 0, .int .i64 0]], []⟩).memory :=
  laidMet_of_run' 8 (by kernel_rfl) (by kernel_rfl)
set_option maxRecDepth 100000 in
theorem reads (os : Os) {H : Type} (enc : TypeId × Value → H) : ∃ places, DataW.whole enc Tryd.prog ((laidWorld os).forCall (fun _ _ => 0) ⟨#[], #[.agg #[.int .i64 0, .int .i64 0, .int .i64 0, .int .i64 0]], []⟩).memory Tryd.f3.params.toList Rows.fnExactBaseTextSpec.vars false #[.agg #[.int .i64 0, .int .i64 0, .int .i64 0, .int .i64 0]].toList 8 = some ([.agg [.lit (.int .i64 0), .lit (.int .i64 0), .lit (.int .i64 0), .lit (.int .i64 0)]], [], places) :=
  ⟨[], by kernel_rfl⟩

set_option maxRecDepth 100000 in
theorem lifted (os : Os) (started : os.Started) (H : Type) (enc : TypeId × Value → H) (F : Stop.Interp) :
    ReturnsInHanded {} Tryd.checked os 3 .any ((OpenSpec.ofChange Rows.fnExactBaseTextSpec).preRow enc Tryd.prog Tryd.f3 Rows.fnExactBaseTextRow.domain false Rows.fnExactBaseTextRow.laid) (((OpenSpec.ofChange Rows.fnExactBaseTextSpec).at F).post enc Tryd.prog Tryd.f3 false true false false) := by
  obtain ⟨places, hx⟩ := reads os enc
  refine returnsInHanded_of_row (C := Tryd.checked) (s := OpenSpec.ofChange Rows.fnExactBaseTextSpec) own started (by kernel_rfl) Tryd.func3
    (witness_row_at (enc := enc) (C := Tryd.checked) false (laidWorld os) #[.agg #[.int .i64 0, .int .i64 0, .int .i64 0, .int .i64 0]] rfl (by kernel_rfl) (by kernel_rfl) (by kernel_rfl)
      (OpenSpec.preRow_of_cond 8 hx (by kernel_rfl) (fun k hk => by cases hk) (by kernel_rfl) (laid_met os))) ?_
  intro W base args ds gs before hval hW _ _ _ hL _ _
  exact contract H enc W base args ds gs before hval hW hL

theorem said : Rows.FnExactBaseTextSaid :=
  OpenClaim.holds_of_cond 3 Tryd.f3 rfl rfl rfl rfl rfl rfl rfl ⟨rfl, rfl, rfl, rfl, rfl⟩ rfl rfl rfl rfl rfl (by kernel_rfl) Tryd.func3 clo.facts_FnExactBaseText
    (of_decide_eq_true (by kernel_rfl)) (by unfold Func.isWrapper; first | (rw [if_pos (by decide +kernel)]; kernel_rfl) | (rw [if_neg (by decide +kernel)]; exact ⟨rfl, rfl⟩))
    (fun os started H enc _ F => by rw [OpenClaim.pre_eq_preRow]; exact lifted os started H enc F)

theorem plain (f : FuncId) (fn : Func) (hf : Tryd.pinned.checked.prog.funcNamed Rows.fnExactBaseTextRow.func = some f) (hfn : Tryd.pinned.checked.prog.funcs[f]? = some fn) :
    false = Tryd.pinned.checked.prog.looks [] ∧ ∀ (j : Nat) t, fn.params[j]? = some t → Tryd.pinned.checked.prog.wantsStandIn t = false := by
  obtain rfl : f = 3 := Option.some.inj ((show Tryd.prog.funcNamed Rows.fnExactBaseTextRow.func = some 3 by kernel_rfl).symm.trans hf) |>.symm
  obtain rfl : fn = Tryd.f3 := (Option.some.inj (Tryd.func3.symm.trans hfn)).symm
  refine ⟨by kernel_rfl, fun j t ht => ?_⟩
  rw [Tryd.params3] at ht
  have hall : ∀ t ∈ [23], Tryd.prog.wantsStandIn t = false := by
    intro t h
    simp only [List.mem_cons, List.not_mem_nil, or_false] at h
    subst h; kernel_rfl
  exact hall t (by simpa using Array.mem_of_getElem? ht)

theorem card : Rows.FnExactBaseTextCardSaid :=
  Claim7.holds_tied_plain_at .later [] _ _ _ _ said (fun _ h => by cases h) (by kernel_rfl) (fun _ h => by cases h) fnExactBaseText_row_tie rfl ⟨rfl, rfl⟩ (by kernel_rfl) rfl plain (by kernel_rfl)

end Go.Proofs.YthcpkmdgipepgaaDoor.fnExactBaseText
