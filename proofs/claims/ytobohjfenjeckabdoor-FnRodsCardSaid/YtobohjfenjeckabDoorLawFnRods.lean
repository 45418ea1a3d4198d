/-
  For every two arguments FnRods returns true: rods are thick enough just up to the told length, a rod without its tip is as thick as before, and rods are read back from their texts; the arguments are as they were. The library's variables hold what its text lays there (the card ties them). No other condition.
-/
import Derived.Test.YtobohjfenjeckabDoorReadI
import Derived.Test.YtobohjfenjeckabDoorRodText
import Derived.Test.YtobohjfenjeckabDoorFnRods
import Derived.Test.YtobohjfenjeckabDoorCards
import Derived.Test.YtobohjfenjeckabDoorTie
import Derived.ShutString
import Derived.ChangeOld
import Derived.Lib.SmallJoins
import Derived.Deep.DeepHandedRow
import Derived.Deep.DeepWitnessRowRef
namespace Go.Proofs.YtobohjfenjeckabDoor.fnRods
open Go.ChangeShapes Go.WideShapes Go.ChangeAt Go.RowKit Go.Joins
open Go.ChangeMaps (open_string shut_string)
open Go.Proofs.YtobohjfenjeckabDoor.dec Go.Proofs.YtobohjfenjeckabDoor.mem Go.Proofs.YtobohjfenjeckabDoor.num Go.Proofs.YtobohjfenjeckabDoor.rod Go.Proofs.YtobohjfenjeckabDoor.src
set_option linter.unusedVariables false

theorem tab_of {W : World} (hL : laidMetH Tryd.prog Rows.fnRodsRow.laid W) : Tab W := by
  have h : laidMet Tryd.prog Rows.fnRodsRow.laid W := hL
  obtain ⟨ps, hlv, _⟩ := h
  obtain ⟨g, t, cs, fuel, p, hg, hty, hvar, hd⟩ := Lib.LaidVars_reads hlv powName Rows.laid_internal_strconv_uint64pow10 (.tail _ (.tail _ (.head _)))
  obtain rfl := Option.some.inj (g_pow.symm.trans hg)
  have hc := Lib.cells_of_tab (k := .u64) (zs := Lib.pow10Tab) Tryd.underlying85 Tryd.underlying52 (by kernel_rfl) (by kernel_rfl) (by
    have e : (Tryd.prog.globals[1]?).map (·.type) = some 85 := by kernel_rfl
    obtain rfl := Option.some.inj (e.symm.trans hty)
    exact hd)
  show W.var? Tryd.prog powName = _
  rw [hvar, ← hc]
theorem star : "*" ++ "errors.errorString" = "*errors.errorString" := by decide
theorem rowPtr (u : TypeId) (h : Tryd.prog.typeName? 3 u = some "*errors.errorString") : u = 100 :=
  typeName_ptr_named (nm := "errors.errorString") (by rw [star]; kernel_rfl) (by kernel_rfl) (by decide) u (by rw [star]; exact h)
theorem errs_of {W : World} (hL : laidMetH Tryd.prog Rows.fnRodsRow.laid W) : Errs W := by
  have h : laidMet Tryd.prog Rows.fnRodsRow.laid W := hL
  obtain ⟨a0, s0, h0, _⟩ := laid_sentinel h.tail.tail.tail (g := 3) (by kernel_rfl) (by kernel_rfl) Tryd.underlying64 rowPtr Tryd.underlying100 Tryd.underlying102 rfl rfl Tryd.underlying9 (by kernel_rfl) (by kernel_rfl)
  obtain ⟨a1, s1, h1, _⟩ := laid_sentinel h.tail.tail.tail.tail (g := 2) (by kernel_rfl) (by kernel_rfl) Tryd.underlying64 rowPtr Tryd.underlying100 Tryd.underlying102 rfl rfl Tryd.underlying9 (by kernel_rfl) (by kernel_rfl)
  exact ⟨⟨_, _, h1⟩, ⟨_, _, h0⟩⟩


theorem rodT_list (L B T : Int) : (rodT L B T).data.toList = Lib.itoa L ++ ([32, 109, 109, 32] ++ (Lib.itoa B ++ 45 :: Lib.itoa T)) := by
  unfold rodT decB
  simp
theorem rodT_size {L B T : Int} (h : rodB L B T = true) : (rodT L B T).size ≤ 1048576 := by
  obtain ⟨a1, a2, b1, b2, c1, c2⟩ := rodB_of h
  have h1 := decB_size (n := L) (by omega) (by omega)
  have h2 := decB_size (n := B) (by omega) (by omega)
  have h3 := decB_size (n := T) (by omega) (by omega)
  unfold rodT
  simp only [ByteArray.size_append]
  have e1 : (⟨#[32, 109, 109, 32]⟩ : ByteArray).size = 4 := rfl
  have e2 : (⟨#[45]⟩ : ByteArray).size = 1 := rfl
  omega
theorem dig_itoa {n : Int} (h : 0 ≤ n) : ∀ c ∈ Lib.itoa n, dig c := by
  have e : Lib.itoa n = Lib.decDigits n.toNat := by unfold Lib.itoa; rw [if_neg (by omega)]
  rw [e]
  exact dig_dec _
theorem read_back {L B T : Int} (h : rodB L B T = true) : readI (rodT L B T).data.toList = some (L, B, T) := by
  obtain ⟨a1, a2, b1, b2, c1, c2⟩ := rodB_of h
  have sm : ∀ n : Int, 0 ≤ n → n ≤ 3000 → small n := fun n h0 h1 => by unfold small; omega
  have e1 : Lib.cut (rodT L B T).data.toList [32, 109, 109, 32] = (Lib.itoa L, Lib.itoa B ++ 45 :: Lib.itoa T, true) := by
    rw [rodT_list]
    exact cut_first (no_dig (dig_itoa (by omega)) not32)
  have e2 : Lib.cut (Lib.itoa B ++ 45 :: Lib.itoa T) [45] = (Lib.itoa B, Lib.itoa T, true) := cut_first (d := 45) (sub := []) (no_dig (dig_itoa (by omega)) not45)
  unfold readI
  rw [e1]
  simp only [e2]
  rw [ans_yes (sm L (by omega) (by omega)) rfl, ans_yes (sm B (by omega) (by omega)) rfl, ans_yes (sm T (by omega) (by omega)) rfl]
  unfold rodOf
  rw [if_pos h]

set_option maxHeartbeats 2000000 in
set_option maxRecDepth 100000 in
theorem walk (A : Option Addr) (n c : Nat) (X : Nat → Int) (A2 : Option Addr) (m c2 : Nat) (X2 : Nat → Int) (w : World) (le : n ≤ c) (mx : c ≤ maxLen) (sl : Sb w A n X) (le2 : m ≤ c2) (mx2 : c2 ≤ maxLen) (sl2 : Sb w A2 m X2) (hL : laidMetH Tryd.prog Rows.fnRodsRow.laid w) (hSh : w.ShapedOpen Tryd.prog) :
    Calls Tryd.prog 3 #[.slice A n c, .slice A2 m c2] w fun e w' => e = .returned (.bool true) ∧ Below w.heap.size w w' := by
  have HT := tab_of hL
  have HE := errs_of hL
  have HM : MaxAt w := Tryd.laysM145.s1_3 w hSh
  clear hL hSh
  by_cases hb : n ≤ 3000 ∧ m ≤ 3000
  · refine rods_walk A n c X A2 m c2 X2 rodT w hb.1 hb.2 sl sl2 (fun L B T W hr hW => rodText_i L B T W hr (tab_below HT hW)) (fun L B T W hr hW => ?_)
    have := read_rod_i (rodT L B T) (rodT_size hr) W (tab_below HT hW) (errs_below HE hW) (maxAt_below HM hW)
    rw [read_back hr] at this
    exact this
  · go_enter Tryd.func3, Tryd.ntmps3
    go_wp2_with fail
    refine (long_no A A2 n m c c2 _ (by omega) (by omega) (by omega)).mono ?_
    rintro e w' ⟨rfl, rfl⟩
    go_wp2
    go_ret
    exact ⟨rfl, Below.refl _ _⟩

theorem own : ownKnob Tryd.prog.godebug = none := by kernel_rfl
theorem laidOut : laidOutB Tryd.prog = true := by kernel_rfl

set_option maxRecDepth 100000 in
theorem contract (H : Type) (enc : TypeId × Value → H) (W : World) (base : Nat) (args : Array Value) (ds gs : List (DataW H)) (before : List MemPlace)
    (hval : ∀ (j : Nat) t v, Tryd.f3.params[j]? = some t → args[j]? = some v → Value.okWide Tryd.prog W .any base t v)
    (hW : DataW.Whole enc Tryd.prog Tryd.f3.params.toList Rows.fnRodsSpec.vars false W args.toList ds gs before) (hL : laidMetH Tryd.prog Rows.fnRodsRow.laid W) (hSh : W.ShapedOpen Tryd.prog) :
    Calls Tryd.prog 3 args W fun e W' => ∃ v, e = .returned v ∧ Rows.fnRodsSpec.post enc Tryd.prog Tryd.f3 false true false false W args v W' := by
  have hW' := hW
  obtain ⟨p, q, hA0, hV, rfl, hfz, hnd⟩ := hW
  have hA : DataW.TrodAll enc Tryd.prog W 0 (fun _ => true) true Tryd.f3.params.toList args.toList ds p := hA0
  rw [Tryd.params3] at hA hval
  obtain ⟨v0, vs0, d0, ds0, p0, q0, hargs, rfl, rfl, h0, r0⟩ := trodAll_cons hA
  obtain ⟨v1, vs1, d1, ds1, p1, q1, hargs1, rfl, rfl, h1, r1⟩ := trodAll_cons r0
  obtain ⟨rfl, rfl, rfl⟩ := trodAll_nil r1
  obtain rfl : args = #[v0, v1] := by cases args; simp_all
  obtain ⟨rfl, rfl⟩ := trodVars_none hV
  have k0 := h0
  have lt0 : ∀ x ∈ p0, x.block < W.heap.size := by obtain ⟨m, hm⟩ := k0; exact DataW.trod_lt m _ _ _ hm
  obtain ⟨a0, len0, cap0, rfl⟩ := okWide_slice Tryd.underlying22 (hval 0 22 v0 rfl rfl)
  obtain ⟨le0, mx0, X0, sl0⟩ : len0 ≤ cap0 ∧ cap0 ≤ maxLen ∧ ∃ X : Nat → Int, Sb W a0 len0 X := by
    obtain ⟨fuel, hf⟩ := h0
    exact open_bytes Tryd.underlying22 Tryd.underlying5 (by kernel_rfl) hf
  have k1 := h1
  have lt1 : ∀ x ∈ p1, x.block < W.heap.size := by obtain ⟨m, hm⟩ := k1; exact DataW.trod_lt m _ _ _ hm
  obtain ⟨a1, len1, cap1, rfl⟩ := okWide_slice Tryd.underlying22 (hval 1 22 v1 rfl rfl)
  obtain ⟨le1, mx1, X1, sl1⟩ : len1 ≤ cap1 ∧ cap1 ≤ maxLen ∧ ∃ X : Nat → Int, Sb W a1 len1 X := by
    obtain ⟨fuel, hf⟩ := h1
    exact open_bytes Tryd.underlying22 Tryd.underlying5 (by kernel_rfl) hf
  clear hA0
  refine (walk a0 len0 cap0 X0 a1 len1 cap1 X1 W le0 mx0 sl0 le1 mx1 sl1 hL hSh).mono fun e W' ⟨he, bel⟩ => ?_
  subst he
  exact ⟨_, rfl, _, _, _, [], _, [], hW', trodAll_mk1 (shut_bool Tryd.underlying4 _), (trodAll_cons_mk (Below.trod laidOut (by kernel_rfl) (of_decide_eq_true (by kernel_rfl)) k0 bel lt0) (trodAll_cons_mk (Below.trod laidOut (by kernel_rfl) (of_decide_eq_true (by kernel_rfl)) k1 bel lt1) trodAll_mk0)), rfl, bel.frame _, fun h => by cases h⟩


noncomputable def low : Nat := (World.holding Tryd.prog default ⟨#[], #[], []⟩).heap.size
set_option maxRecDepth 100000 in
noncomputable def laidWorld (os : Os) : World :=
  { World.holding Tryd.prog os ⟨#[.cells #[.string ⟨#[118, 97, 108, 117, 101, 32, 111, 117, 116, 32, 111, 102, 32, 114, 97, 110, 103, 101]⟩] 102, .cells #[.string ⟨#[105, 110, 118, 97, 108, 105, 100, 32, 115, 121, 110, 116, 97, 120]⟩] 102], #[], []⟩ with heap := ((((((World.holding Tryd.prog os ⟨#[.cells #[.string ⟨#[118, 97, 108, 117, 101, 32, 111, 117, 116, 32, 111, 102, 32, 114, 97, 110, 103, 101]⟩] 102, .cells #[.string ⟨#[105, 110, 118, 97, 108, 105, 100, 32, 115, 121, 110, 116, 97, 120]⟩] 102], #[], []⟩).heap.modify 4 fun
      | .cells _ t frozen => .cells #[.int .u8 0, .int .u8 1, .int .u8 28, .int .u8 2, .int .u8 29, .int .u8 14, .int .u8 24, .int .u8 3, .int .u8 30, .int .u8 22, .int .u8 20, .int .u8 15, .int .u8 25, .int .u8 17, .int .u8 4, .int .u8 8, .int .u8 31, .int .u8 27, .int .u8 13, .int .u8 23, .int .u8 21, .int .u8 19, .int .u8 16, .int .u8 7, .int .u8 26, .int .u8 12, .int .u8 18, .int .u8 6, .int .u8 11, .int .u8 5, .int .u8 10, .int .u8 9] t frozen
      | o => o).modify 5 fun
      | .cells _ t frozen => .cells #[.int .u8 0, .int .u8 1, .int .u8 56, .int .u8 2, .int .u8 57, .int .u8 49, .int .u8 28, .int .u8 3, .int .u8 61, .int .u8 58, .int .u8 42, .int .u8 50, .int .u8 38, .int .u8 29, .int .u8 17, .int .u8 4, .int .u8 62, .int .u8 47, .int .u8 59, .int .u8 36, .int .u8 45, .int .u8 43, .int .u8 51, .int .u8 22, .int .u8 53, .int .u8 39, .int .u8 33, .int .u8 30, .int .u8 24, .int .u8 18, .int .u8 12, .int .u8 5, .int .u8 63, .int .u8 55, .int .u8 48, .int .u8 27, .int .u8 60, .int .u8 41, .int .u8 37, .int .u8 16, .int .u8 46, .int .u8 35, .int .u8 44, .int .u8 21, .int .u8 52, .int .u8 32, .int .u8 23, .int .u8 11, .int .u8 54, .int .u8 26, .int .u8 40, .int .u8 15, .int .u8 34, .int .u8 20, .int .u8 31, .int .u8 10, .int .u8 25, .int .u8 14, .int .u8 19, .int .u8 9, .int .u8 13, .int .u8 8, .int .u8 7, .int .u8 6] t frozen
      | o => o).modify 1 fun
      | .cells _ t frozen => .cells #[.int .u64 1, .int .u64 10, .int .u64 100, .int .u64 1000, .int .u64 10000, .int .u64 100000, .int .u64 1000000, .int .u64 10000000, .int .u64 100000000, .int .u64 1000000000, .int .u64 10000000000, .int .u64 100000000000, .int .u64 1000000000000, .int .u64 10000000000000, .int .u64 100000000000000, .int .u64 1000000000000000, .int .u64 10000000000000000, .int .u64 100000000000000000, .int .u64 1000000000000000000, .int .u64 10000000000000000000] t frozen
      | o => o).modify 3 fun
      | .cells _ t frozen => .cells #[.iface 100 (.pointer (some ⟨low + 0, 0, none⟩))] t frozen
      | o => o).modify 2 fun
      | .cells _ t frozen => .cells #[.iface 100 (.pointer (some ⟨low + 1, 0, none⟩))] t frozen
      | o => o) }
set_option maxRecDepth 100000 in
theorem laid_met (os : Os) : laidMet Tryd.prog Rows.fnRodsRow.laid ((laidWorld os).forCall (fun _ _ => 0) ⟨#[], #[.slice none 0 0, .slice none 0 0], []⟩).memory :=
  laidMet_of_run' 8 (by kernel_rfl) (by kernel_rfl)
set_option maxRecDepth 100000 in
theorem reads (os : Os) {H : Type} (enc : TypeId × Value → H) : ∃ places, DataW.whole enc Tryd.prog ((laidWorld os).forCall (fun _ _ => 0) ⟨#[], #[.slice none 0 0, .slice none 0 0], []⟩).memory Tryd.f3.params.toList Rows.fnRodsSpec.vars false #[.slice none 0 0, .slice none 0 0].toList 8 = some ([.nil, .nil], [], places) :=
  ⟨[], by kernel_rfl⟩

set_option maxRecDepth 100000 in
theorem lifted (os : Os) (started : os.Started) (H : Type) (enc : TypeId × Value → H) (F : Stop.Interp) :
    ReturnsInHanded {} Tryd.checked os 3 .any ((OpenSpec.ofChange Rows.fnRodsSpec).preRow enc Tryd.prog Tryd.f3 Rows.fnRodsRow.domain false Rows.fnRodsRow.laid) (((OpenSpec.ofChange Rows.fnRodsSpec).at F).post enc Tryd.prog Tryd.f3 false true false false) := by
  obtain ⟨places, hx⟩ := reads os enc
  refine returnsInHanded_of_row (C := Tryd.checked) (s := OpenSpec.ofChange Rows.fnRodsSpec) own started (by kernel_rfl) Tryd.func3
    (witness_row_atRef (enc := enc) (C := Tryd.checked) false (laidWorld os) #[.slice none 0 0, .slice none 0 0] rfl (by kernel_rfl) (by kernel_rfl) (by kernel_rfl)
      (OpenSpec.preRow_of_cond 8 hx (by kernel_rfl) (fun k hk => by cases hk) (by kernel_rfl) (laid_met os))) ?_
  intro W base args ds gs before hval hW _ _ _ hL hSh _
  exact contract H enc W base args ds gs before hval hW hL hSh

theorem said : Rows.FnRodsSaid :=
  OpenClaim.holds_of_cond 3 Tryd.f3 rfl rfl rfl rfl rfl rfl rfl ⟨rfl, rfl, rfl, rfl, rfl⟩ rfl rfl rfl rfl rfl (by kernel_rfl) Tryd.func3 (by kernel_rfl)
    (of_decide_eq_true (by kernel_rfl)) (by unfold Func.isWrapper; first | (rw [if_pos (by decide +kernel)]; kernel_rfl) | (rw [if_neg (by decide +kernel)]; exact ⟨rfl, rfl⟩))
    (fun os started H enc _ F => by rw [OpenClaim.pre_eq_preRow]; exact lifted os started H enc F)

theorem plain (f : FuncId) (fn : Func) (hf : Tryd.pinned.checked.prog.funcNamed Rows.fnRodsRow.func = some f) (hfn : Tryd.pinned.checked.prog.funcs[f]? = some fn) :
    true = Tryd.pinned.checked.prog.looks [] ∧ ∀ (j : Nat) t, fn.params[j]? = some t → Tryd.pinned.checked.prog.wantsStandIn t = false := by
  obtain rfl : f = 3 := Option.some.inj ((show Tryd.prog.funcNamed Rows.fnRodsRow.func = some 3 by kernel_rfl).symm.trans hf) |>.symm
  obtain rfl : fn = Tryd.f3 := (Option.some.inj (Tryd.func3.symm.trans hfn)).symm
  refine ⟨by kernel_rfl, fun j t ht => ?_⟩
  rw [Tryd.params3] at ht
  have hall : ∀ t ∈ [22, 22], Tryd.prog.wantsStandIn t = false := by
    intro t h
    simp only [List.mem_cons, List.not_mem_nil, or_false] at h
    rcases h with rfl | rfl <;> kernel_rfl
  exact hall t (by simpa using Array.mem_of_getElem? ht)

theorem card : Rows.FnRodsCardSaid :=
  Claim7.holds_tied_plain_at .later [] _ _ _ _ said (fun _ h => by cases h) (by kernel_rfl) (fun _ h => by cases h) fnRods_row_tie rfl ⟨rfl, rfl⟩ (by kernel_rfl) rfl plain (by kernel_rfl)

end Go.Proofs.YtobohjfenjeckabDoor.fnRods
