/-
  StakePlan of the program. No condition of a statement lies here.
-/
import Derived.Test.YtldeeilgmogjjaaHu
import Derived.Test.YtldeeilgmogjjaaOpen
import Derived.Test.YtldeeilgmogjjaaNums
import Derived.Test.YtldeeilgmogjjaaIn
namespace Go.Proofs.Ytldeeilgmogjjaa.shp
open Go.ChangeShapes Go.WideShapes Go.ChangeAt Go.RowKit Go.Proofs.Ytldeeilgmogjjaa.mem Go.Proofs.Ytldeeilgmogjjaa.rod Go.Proofs.Ytldeeilgmogjjaa.nums
set_option linter.unusedVariables false
set_option maxRecDepth 100000

set_option maxHeartbeats 2000000 in
theorem plan_i_no (A : Option Addr) (n c : Nat) (X : Nat → Int) (lo hi code : Int) (w : World) (hn : n ≤ maxLen) (hr : Sl w A n 1 X) (hv : shpB n X = false ∧ code = 1 ∨ shpB n X = true ∧ aptB lo hi = false ∧ code = 2) :
    Calls Try.prog 10 #[.slice A n c, .int .i64 lo, .int .i64 hi] w (NumsCode w 2 [] code) := by
  have hcode : (code == 0) = false ∧ (code != 0) = true := by rcases hv with ⟨_, rfl⟩ | ⟨_, _, rfl⟩ <;> exact ⟨rfl, rfl⟩
  obtain ⟨q1, q2⟩ := hcode
  have HV := Lib.hid hv
  clear hv
  go_enter Try.func10, Try.ntmps10
  go_wp2_with fail
  refine (rulesOf_no A n c X lo hi code _ hn hr HV.out).mono ?_
  rintro e w' ⟨rfl, rfl⟩
  go_wp2
  go_ret2
  exact ⟨none, 0, rfl, Nat.le_refl _, by unfold maxLen; omega, Row.none_, Below.refl _ _⟩

/-- the answer of StakePlan for a shape -/
def PlanIs (n : Nat) (X : Nat → Int) (lo hi : Int) (l : List Int) (code : Int) : Prop := (topPlan n X lo hi = some l ∧ code = 0) ∨ (topPlan n X lo hi = none ∧ l = [] ∧ code = 3)
theorem PlanIs.ex (n : Nat) (X : Nat → Int) (lo hi : Int) : ∃ l code, PlanIs n X lo hi l code := by
  cases h : topPlan n X lo hi with
  | none => exact ⟨[], 3, .inr ⟨h, rfl, rfl⟩⟩
  | some l => exact ⟨l, 0, .inl ⟨h, rfl⟩⟩
theorem topPlan_bd {n : Nat} {X : Nat → Int} {lo hi : Int} {l : List Int} (h : topPlan n X lo hi = some l) : ∃ s, 3 ≤ s ∧ s ≤ 60 ∧ PlanB (n - 1) s l := by
  unfold topPlan at h
  exact plans_bd (bestL_mem h)

set_option maxHeartbeats 8000000 in
set_option maxRecDepth 100000 in
theorem plan_i (A : Option Addr) (n c : Nat) (X : Nat → Int) (lo up : Int) (l : List Int) (code : Int) (w : World) (hn : n ≤ maxLen) (hr : Sl w A n 1 X) (hv : shpB n X = true) (ha : aptB lo up = true) (hl : PlanIs n X lo up l code) :
    Calls Try.prog 10 #[.slice A n c, .int .i64 lo, .int .i64 up] w (NumsCode w 2 l code) := by
  have HF := Lib.hid (rsp_wf hv ha)
  obtain ⟨n0, n12, _⟩ := shpB_of hv
  have HL := Lib.hid hl
  have hmm : ∀ (w : World), (Instr.makeMap 47 none).run Try.prog w = .ok (.map (some w.heap.size)) (w.alloc (.map #[] 0)) := fun w => by simp [Instr.makeMap, go_sem]
  have heql : ∀ (w : World) (a : Option Addr) (n c : Nat), (binOp .eql 50 (.slice a n c) (.slice none 0 0)).run Try.prog w = .ok (.bool a.isNone) w := fun w a n c => Lib.run_eql_slice_nil w 50 _ a n c 0 0 Try.underlying50
  clear hl
  go_enter Try.func10, Try.ntmps10
  go_wp2_with fail
  refine (rulesOf_i A n c X lo up _ hn hr hv ha).mono ?_
  rintro e w0 ⟨A0, c0, rfl, k1, k2, hrow0, hb0⟩
  obtain ⟨rb, rfl, hrb0, hrb1, ho0⟩ := hrow0 n0
  have z0 := hb0.size
  have HB0 := Lib.hid hb0
  have hst : Stand ((w0.alloc (.map #[] 0)).alloc (Obj.cells #[.slice (some ⟨rb, 0, none⟩) n c0, .map (some w0.heap.size)] 49)) w.heap.size rb w0.heap.size n (fun j => (rsp X lo up j).v) (Fp n X lo up) := by
    have h1 : Stand (w0.alloc (.map #[] 0)) w.heap.size rb w0.heap.size n (fun j => (rsp X lo up j).v) (Fp n X lo up) := ⟨ho0.of_block (Go.Deep.blk_alloc_lt _ _ _ hrb1), memo_made _ _ _ _, by omega, n12, by simp; omega⟩
    exact h1.below (by go_grown)
  have HS := Lib.hid hst
  clear hrow0 ho0 hst hb0 hr
  go_wp2_with fail
  refine (plansTop_i w.heap.size rb c0 w0.heap.size n X lo up n0 HF.out _ HS.out).mono ?_
  rintro e w1 ⟨v1, rfl, hpv, hs1, hw1⟩
  obtain ⟨A1, c1, V1, rfl, h1, h2, h3, h4⟩ := hpv
  have z1 := hw1.size
  simp at z1
  have HB1 := Lib.hid (show Below w.heap.size w w1 from (show Below w.heap.size w ((w0.alloc (.map #[] 0)).alloc (Obj.cells #[.slice (some ⟨rb, 0, none⟩) n c0, .map (some w0.heap.size)] 49)) from Below.alloc (Below.alloc HB0.out (by omega) _) (by simp; omega) _).trans (hw1.below (by simp; omega) z0))
  have hbd : ∀ l, l ∈ plans X lo up (n - 1) 0 (fun _ => true) → ∃ s, PlanB (n - 1) s l := fun l hl => by
    obtain ⟨t, t0, t1, hp⟩ := plans_bd hl
    exact ⟨t, hp⟩
  have hln := plans_len X lo up (n - 1) 0 (fun _ => true)
  have htop : topPlan n X lo up = bestL (plans X lo up (n - 1) 0 (fun _ => true)) := rfl
  generalize plans X lo up (n - 1) 0 (fun _ => true) = ps at *
  have HT := Lib.hid htop
  have hV9 : 0 < ps.length → ∃ b' o, A1 = some ⟨b', o, none⟩ ∧ b' < w1.heap.size ∧ ∀ j, j < ps.length → w1.cell? ⟨b', o + j, none⟩ = some (V1 j) ∧ RdL w1 (V1 j) n (ps.getD j []) := fun hn => by
    obtain ⟨g, e, g0, gne, ho⟩ := h3 hn
    refine ⟨g, 0, e, ho.lt, fun j hj => ⟨by rw [Nat.zero_add]; exact ho.cell hj, ?_⟩⟩
    obtain ⟨t, hp⟩ := hbd _ (mem_getD hj)
    exact rdL_of (h4 j hj) hp (by omega)
  have HV9 := Lib.hid hV9
  have H4 := Lib.hid h4
  clear hV9 h3 h4 hbd htop hs1 hw1 HS
  go_wp2_with fail
  refine (bestPlan_i A1 ps.length c1 n V1 ps _ hln n12 rfl HV9.out).mono ?_
  rintro e w2 ⟨hor, hb2⟩
  have z2 := hb2.size
  have HB2 := Lib.hid (HB1.out.trans (hb2.mono (by omega)))
  rcases hor with ⟨hz, rfl⟩ | ⟨j, hj, rfl, hbest⟩
  · have HR := Lib.hid (show l = [] ∧ code = 3 by
      have ht : topPlan n X lo up = none := by rw [HT.out, List.length_eq_zero_iff.1 hz]; rfl
      rcases HL.out with ⟨q, _⟩ | ⟨_, q1, q2⟩
      · rw [ht] at q; cases q
      · exact ⟨q1, q2⟩)
    obtain ⟨rfl, rfl⟩ := HR.out
    clear hz hb2 HL HR
    go_wp2
    go_ret2
    exact ⟨none, 0, rfl, Nat.le_refl _, by unfold maxLen; omega, Row.none_, HB2.out⟩
  · have HR := Lib.hid (show ps.getD j [] = l ∧ code = 0 by
      have ht : topPlan n X lo up = some (ps.getD j []) := by rw [HT.out, hbest]
      rcases HL.out with ⟨q, q2⟩ | ⟨q, _, _⟩
      · rw [ht] at q; exact ⟨Option.some.inj q, q2⟩
      · rw [ht] at q; cases q)
    have hpj := (H4.out j hj).keep (w' := w2) fun g hg _ => hb2.block g hg
    rw [HR.out.1] at hpj
    obtain ⟨_, rfl⟩ := HR.out
    obtain ⟨g, c9, e9, q1, q2, q3, q4, o9⟩ := hpj
    rw [e9]
    have HO9 := Lib.hid o9
    have hgl := o9.lt
    clear hbest hb2 HL HR e9 o9
    generalize hLN : l.length = LN at *
    have HLN := Lib.hid hLN
    clear hLN
    go_wp2
    go_ret2
    exact ⟨some ⟨g, 0, none⟩, c9, by rw [HLN.out]; rfl, by rw [HLN.out]; exact q1, q2, fun _ => ⟨g, rfl, q3, hgl, by rw [HLN.out, Nat.mul_one]; exact HO9.out⟩, HB2.out⟩

end Go.Proofs.Ytldeeilgmogjjaa.shp
