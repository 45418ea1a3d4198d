/-
  A plan that is known, or found and kept: the table's method. No condition of a statement lies here.
-/
import Derived.Test.YtldeeilgmogjjaaHr
import Derived.Test.YtldeeilgmogjjaaHe
import Derived.Test.YtldeeilgmogjjaaOpen
import Derived.Test.YtldeeilgmogjjaaNums
import Derived.Test.YtldeeilgmogjjaaIn
namespace Go.Proofs.Ytldeeilgmogjjaa.shp
open Go.ChangeShapes Go.WideShapes Go.ChangeAt Go.RowKit Go.Proofs.Ytldeeilgmogjjaa.mem Go.Proofs.Ytldeeilgmogjjaa.rod Go.Proofs.Ytldeeilgmogjjaa.nums
set_option linter.unusedVariables false
set_option maxRecDepth 100000

theorem _root_.Go.Proofs.Ytldeeilgmogjjaa.mem.WroteIn.frozen {w w' : World} {lo hi b o : Nat} (h : WroteIn w w' lo hi) (hb : b < w.heap.size) (hd : ¬ (lo ≤ b ∧ b < hi)) : w'.frozen? ⟨b, o, none⟩ = w.frozen? ⟨b, o, none⟩ := by
  have e := h.block b hb hd
  unfold World.frozen?
  simp only [e]
theorem wrote_grown {w w' : World} {b : Nat} (h : w.grownBy w' (some b)) : WroteIn w w' b (b + 1) :=
  ⟨h.os, h.tape, h.output, h.size, fun k hk hd => h.block k hk (fun e => by injection e with e; omega)⟩
theorem wrote_new {w w' : World} {b : Nat} (h : Below w.heap.size w w') : WroteIn w w' b (b + 1) := ⟨h.os, h.tape, h.output, h.size, fun k hk _ => h.block k hk⟩
theorem wrote_set {w w' : World} {b g i : Nat} {v : Value} (h : WroteIn w w' b (b + 1)) (hg : w.heap.size ≤ g) : WroteIn w (w'.setCell ⟨g, i, none⟩ v) b (b + 1) :=
  ⟨h.os, h.tape, h.output, by simpa using h.size, fun k hk hd => (Below.heap_setCell _ _ _ _ (fun e => by simp at e; omega)).trans (h.block k hk hd)⟩

theorem PlanV.keepT {w w' : World} {K b : Nat} {v : Value} {l : List Int} (h : PlanV w K b v l) (hk : ∀ g c, g ≠ b → w.heap[g]? = some (.cells c 2 (0, 0)) → w'.heap[g]? = w.heap[g]?) : PlanV w' K b v l := by
  obtain ⟨g, c, e, h1, h2, h3, h4, cs, hg, hs⟩ := h
  exact ⟨g, c, e, h1, h2, h3, h4, cs, (hk g cs h4 hg).trans hg, hs⟩
theorem OptV.keepT {w w' : World} {K b : Nat} {v : Value} {o : Option (List Int)} (h : OptV w K b v o) (hk : ∀ g c, g ≠ b → w.heap[g]? = some (.cells c 2 (0, 0)) → w'.heap[g]? = w.heap[g]?) : OptV w' K b v o := by
  cases o with
  | none => exact h
  | some l => exact PlanV.keepT h hk
theorem Memo.keepT {w w' : World} {b K n : Nat} {F : Nat → Int → Option (List Int)} (h : Memo w b K n F) (hb' : w'.heap[b]? = w.heap[b]?) (hk : ∀ g c, g ≠ b → w.heap[g]? = some (.cells c 2 (0, 0)) → w'.heap[g]? = w.heap[g]?) : Memo w' b K n F := by
  obtain ⟨es, clock, hb, h1⟩ := h
  exact ⟨es, clock, hb'.trans hb, fun e he => by
    obtain ⟨i, s, a1, a2, a3, a4, a5⟩ := h1 e he
    exact ⟨i, s, a1, a2, a3, a4, a5.keepT hk⟩⟩
/-- a cell of another kind than a plan's row is written: all stands -/
theorem Stand.set {w : World} {K rb b n X : Nat} {V : Nat → Value} {F : Nat → Int → Option (List Int)} {cs : Array Value} (h : Stand w K rb b n V F) (hX : w.heap[X]? = some (.cells cs 50 (0, 0))) (hb : X ≠ b) (hr : X ≠ rb) (v : Value) : Stand (w.setCell ⟨X, 0, none⟩ v) K rb b n V F :=
  ⟨h.rules.setOther (fun e => hr e.symm) v, h.memo.keepT (Below.heap_setCell _ _ _ _ (fun e => hb (by simpa using e.symm))) (fun g c _ hg => Below.heap_setCell _ _ _ _ (fun e => by
    simp at e
    first | subst e | (subst_vars)
    rw [hX] at hg
    injection hg with hg
    injection hg with _ hg _
    revert hg
    decide)), h.far, h.n12, by simpa using h.base⟩
theorem OptV.set {w : World} {K b X : Nat} {u : Value} {o : Option (List Int)} {cs : Array Value} (h : OptV w K b u o) (hX : w.heap[X]? = some (.cells cs 50 (0, 0))) (v : Value) : OptV (w.setCell ⟨X, 0, none⟩ v) K b u o :=
  h.keepT (fun g c _ hg => Below.heap_setCell _ _ _ _ (fun e => by
    simp at e
    first | subst e | (subst_vars)
    rw [hX] at hg
    injection hg with hg
    injection hg with _ hg _
    revert hg
    decide))
theorem Stand.grown {w w' : World} {K rb b n : Nat} {V : Nat → Value} {F : Nat → Int → Option (List Int)} (h : Stand w K rb b n V F) (hm : Memo w' b K n F) (hg : w.grownBy w' (some b)) : Stand w' K rb b n V F :=
  ⟨h.rules.of_block (hg.block rb h.rules.lt (fun e => h.far (Option.some.inj e))), hm, h.far, h.n12, Nat.le_trans h.base hg.size⟩

set_option maxHeartbeats 2000000 in
theorem store_d (K rb b n : Nat) (V : Nat → Value) (F : Nat → Int → Option (List Int)) (i : Nat) (s : Int) (v : Value) (vb mb kb : Nat) (u : FrameMode) (w : World) (hst : Stand w K rb b n V F) (hi : i < n) (s0 : 3 ≤ s) (s1 : s ≤ 60) (hv : OptV w K b v (F i s))
    (pv : w.cell? ⟨vb, 0, none⟩ = some v) (pm : w.cell? ⟨mb, 0, none⟩ = some (.map (some b))) (p0 : w.cell? ⟨kb, 0, none⟩ = some (.int .i64 (i : Int))) (p1 : w.cell? ⟨kb, 1, none⟩ = some (.int .i64 s)) :
    CallsD Try.prog 44 #[.pointer (some ⟨vb, 0, none⟩), .pointer (some ⟨mb, 0, none⟩), .pointer (some ⟨kb, 0, none⟩)] u w fun e u' w' => u' = u ∧ (e = .returned (.tuple #[]) ∧ Memo w' b K n F ∧ w.grownBy w' (some b)) := by
  obtain ⟨w2, hrun, hm2, hg2⟩ := hst.memo.update hst.n12 hi s0 s1 hv
  unfold pk at hrun
  have HM := Lib.hid hm2
  have HG := Lib.hid hg2
  clear hm2 hg2 hv hst
  go_enter_d Try.func44, Try.ntmps44
  go_wp2
  go_end0
  exact ⟨rfl, HM.out, HG.out⟩

set_option maxHeartbeats 4000000 in
set_option maxRecDepth 100000 in
theorem value_i (K rb b n : Nat) (V : Nat → Value) (F : Nat → Int → Option (List Int)) (i : Nat) (s : Int) (pv : Value) (w : World) (hst : Stand w K rb b n V F) (hi : i < n) (s0 : 3 ≤ s) (s1 : s ≤ 60)
    (hfind : ∀ w, Stand w K rb b n V F → Calls Try.prog 34 #[pv, .agg #[.int .i64 (i : Int), .int .i64 s]] w (Got K rb b n V F w (F i s))) :
    Calls Try.prog 33 #[.map (some b), .agg #[.int .i64 (i : Int), .int .i64 s], .func (.func 34) #[pv] #[]] w (Got K rb b n V F w (F i s)) := by
  have hbl := hst.memo.lt
  have HF := Lib.hid hfind
  have hB3 : Below w.heap.size w (((w.alloc (Obj.cells #[.map (some b)] 47)).alloc (Obj.cells #[.int .i64 (i : Int), .int .i64 s] 72)).alloc (Obj.cells #[.slice none 0 0] 50)) := by go_grown
  have hst3 := hst.below hB3
  have hl := hst.memo.lookup (fun g hg => hB3.block g hg) hst.n12 hi s0 s1
  have q1 : Hid (Stand _ _ _ _ _ _ _) := Lib.hid hst3
  have q2 := Lib.hid hB3
  have HS := Lib.hid hst
  have hmf : ∀ (fn : Fn) (first cap : Array Value) (w : World), (Instr.makeFunc fn first cap).run Try.prog w = .ok (.func fn first cap) w := fun _ _ _ _ => rfl
  unfold pk at hl
  clear hfind hst3 hB3 hst
  rcases hl with hl | ⟨v, hl, hv⟩
  · go_enter_defers Try.func33, Try.ntmps33
    go_wp2_with fail
    refine (HF.out _ q1.out).mono ?_
    rintro e w4 ⟨v, rfl, hv, hs4, hw4⟩
    have z4 := hw4.size
    simp at z4
    have g6 : ¬ (b ≤ w.heap.size + 1 + 1 ∧ w.heap.size + 1 + 1 < b + 1) := by omega
    have p6 : w4.cell? ⟨w.heap.size + 1 + 1, 0, none⟩ = some (.slice none 0 0) := by rw [hw4.cell (by simp) (by omega)]; go_simp
    have f6 : w4.frozen? ⟨w.heap.size + 1 + 1, 0, none⟩ = false := by rw [hw4.frozen (by simp) (by omega)]; go_simp
    have p3 : w4.cell? ⟨w.heap.size, 0, none⟩ = some (.map (some b)) := by rw [hw4.cell (by simp; omega) (by omega)]; go_simp
    have p4 : w4.cell? ⟨w.heap.size + 1, 0, none⟩ = some (.int .i64 (i : Int)) := by rw [hw4.cell (by simp) (by omega)]; go_simp
    have p5 : w4.cell? ⟨w.heap.size + 1, 1, none⟩ = some (.int .i64 s) := by rw [hw4.cell (by simp) (by omega)]; go_simp
    have W4 := Lib.hid (show WroteIn w w4 b (b + 1) from (wrote_new q2.out).then hw4)
    have HV := Lib.hid hv
    have S4 := Lib.hid hs4
    have hX : w4.heap[w.heap.size + 1 + 1]? = some (.cells #[.slice none 0 0] 50 (0, 0)) := by
      rw [hw4.block _ (by simp) (by omega)]
      have := heap_alloc_new ((w.alloc (Obj.cells #[.map (some b)] 47)).alloc (Obj.cells #[.int .i64 (i : Int), .int .i64 s] 72)) (Obj.cells #[.slice none 0 0] 50)
      simpa using this
    have hrl := HS.out.rules.lt
    have S5 := Lib.hid (hs4.set hX (by omega) (by omega) v)
    have V5 := Lib.hid (hv.set hX v)
    obtain ⟨A4, l4, c4, rfl⟩ := hv.slice
    clear hw4 hv hs4 q1 q2 HF HV S4 hl hX
    go_wp2
    have P6 : (w4.setCell ⟨w.heap.size + 1 + 1, 0, none⟩ (.slice A4 l4 c4)).cell? ⟨w.heap.size + 1 + 1, 0, none⟩ = some (.slice A4 l4 c4) := by go_simp
    refine leaves_cons (f := 44) (args := #[.pointer (some ⟨w.heap.size + 1 + 1, 0, none⟩), .pointer (some ⟨w.heap.size, 0, none⟩), .pointer (some ⟨w.heap.size + 1, 0, none⟩)]) (by simp) (by simp [go_sem]) ?_
    refine (store_d K rb b n V F i s (.slice A4 l4 c4) _ _ _ .returning _ S5.out hi s0 s1 V5.out P6 (by go_simp) (by go_simp) (by go_simp)).mono ?_
    rintro e u' w6 ⟨rfl, rfl, hm6, hg6⟩
    have P7 : w6.cell? ⟨w.heap.size + 1 + 1, 0, none⟩ = some (.slice A4 l4 c4) := ((wrote_grown hg6).cell (by simp <;> omega) (by omega)).trans P6
    have S6 := S5.out.grown hm6 hg6
    have V6 : OptV w6 K b (.slice A4 l4 c4) (F i s) := V5.out.keep fun g hg hne => hg6.block g hg (fun e => hne (Option.some.inj e))
    have W6 : WroteIn w w6 b (b + 1) := (wrote_set W4.out (by omega)).then (wrote_grown hg6)
    clear hm6 hg6 P6
    simp [Leaves, settle, results, Try.results33, go_sem, P7]
    exact ⟨_, rfl, V6, S6, W6⟩
  · obtain ⟨A4, l4, c4, rfl⟩ := hv.slice
    have HV := Lib.hid hv
    clear hv HF q1 q2
    go_enter_defers Try.func33, Try.ntmps33
    go_wp2
    have hB : Below w.heap.size w (((w.alloc (Obj.cells #[.map (some b)] 47)).alloc (Obj.cells #[.int .i64 (i : Int), .int .i64 s] 72)).alloc (Obj.cells #[.slice A4 l4 c4] 50)) := by go_grown
    have P7 : (((w.alloc (Obj.cells #[.map (some b)] 47)).alloc (Obj.cells #[.int .i64 (i : Int), .int .i64 s] 72)).alloc (Obj.cells #[.slice A4 l4 c4] 50)).cell? ⟨w.heap.size + 1 + 1, 0, none⟩ = some (.slice A4 l4 c4) := by go_simp
    generalize (((w.alloc (Obj.cells #[.map (some b)] 47)).alloc (Obj.cells #[.int .i64 (i : Int), .int .i64 s] 72)).alloc (Obj.cells #[.slice A4 l4 c4] 50)) = w6 at *
    simp [bodyPostD, Leaves, results, Try.results33, go_sem, P7]
    exact ⟨_, rfl, HV.out.keep fun g hg _ => hB.block g hg, HS.out.below hB, wrote_new hB⟩

end Go.Proofs.Ytldeeilgmogjjaa.shp
