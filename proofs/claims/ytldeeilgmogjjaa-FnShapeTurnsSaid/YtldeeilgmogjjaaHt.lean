/-
  The best plans from a level upwards, by the program: two functions that ask one another. No condition of a statement lies here.
-/
import Derived.Test.YtldeeilgmogjjaaHs
import Derived.ArgAppend
import Derived.Laws.Cover3
import Derived.Test.YtldeeilgmogjjaaOpen
import Derived.Test.YtldeeilgmogjjaaNums
import Derived.Test.YtldeeilgmogjjaaIn
namespace Go.Proofs.Ytldeeilgmogjjaa.shp
open Go.ChangeShapes Go.WideShapes Go.ChangeAt Go.RowKit Go.Proofs.Ytldeeilgmogjjaa.mem Go.Proofs.Ytldeeilgmogjjaa.rod Go.Proofs.Ytldeeilgmogjjaa.nums
set_option linter.unusedVariables false
set_option maxRecDepth 100000

/-- n plans lie in a row of their own -/
def PlansV (w : World) (K b : Nat) (v : Value) (ps : List (List Int)) : Prop := ∃ A c V, v = .slice A ps.length c ∧ ps.length ≤ c ∧ c ≤ maxLen ∧ (0 < ps.length → ∃ g, A = some ⟨g, 0, none⟩ ∧ K ≤ g ∧ g ≠ b ∧ OwnV w g 50 ps.length V) ∧ ∀ j, j < ps.length → PlanV w K b (V j) (ps.getD j [])
/-- rules that are handed on: none, or one of the number below -/
def pre (P : Option Int) (i : Nat) (X : Nat → Int) (lo up : Int) : Nat → Ru := match P with
  | none => fun _ => rsp X lo up i
  | some m => fun j => if j = 0 then .nr m else rsp X lo up i
/-- the test that they are -/
def preP (P : Option Int) : Int → Bool := match P with
  | none => fun _ => true
  | some m => nearP m
/-- how many -/
def preN (P : Option Int) : Nat := match P with
  | none => 0
  | some _ => 1
/-- where they lie -/
def PreV (w : World) (P : Option Int) (ao : Option Addr) : Prop := match P with
  | none => ao = none
  | some m => 3 ≤ m ∧ m ≤ 60 ∧ ∃ g, ao = some ⟨g, 0, none⟩ ∧ g < w.heap.size ∧ w.cell? ⟨g, 0, none⟩ = some (.iface 81 (.int .i64 m))
/-- their values -/
def preL (P : Option Int) : List Value := match P with
  | none => []
  | some m => [.iface 81 (.int .i64 m)]
theorem pre_ok (P : Option Int) (i : Nat) (X : Nat → Int) (lo up : Int) : (fun s => okAll (pre P i X lo up) s (preN P + 1)) = fun s => preP P s && goodB (X i) lo up s := funext fun s => by
  cases P with
  | none => rfl
  | some m =>
    show ((true && Ru.ok (.nr m) s) && (rsp X lo up i).ok s) = _
    rw [Bool.true_and]
    rfl
theorem pre_list (P : Option Int) (i : Nat) (X : Nat → Int) (lo up : Int) : preL P ++ [(rsp X lo up i).v] = (List.range (preN P + 1)).map fun j => (pre P i X lo up j).v := by
  cases P with
  | none => rfl
  | some m => rfl
theorem pre_len (P : Option Int) : (preL P).length = preN P := by cases P <;> rfl
theorem preN_le (P : Option Int) : preN P ≤ 1 := by cases P <;> simp [preN]
theorem pre_wf {w : World} {P : Option Int} {ao : Option Addr} {i : Nat} {X : Nat → Int} {lo up : Int} (h : PreV w P ao) (hr : (rsp X lo up i).wf) : ∀ j, j < preN P + 1 → (pre P i X lo up j).wf := fun j hj => by
  cases P with
  | none => exact hr
  | some m =>
    unfold pre
    by_cases e : j = 0
    · simp only [e, if_true]; exact ⟨h.1, h.2.1⟩
    · simp only [e, if_false]; exact hr
theorem pre_cells {w w' : World} {P : Option Int} {ao : Option Addr} (h : PreV w P ao) (hb : Below w.heap.size w w') : ∀ a, ao = some a → ∀ j u, (preL P)[j]? = some u → w'.cell? (a.add j) = some u := fun a ha j u hu => by
  cases P with
  | none => unfold preL at hu; simp at hu
  | some m =>
    obtain ⟨_, _, g, e, hg, hc⟩ := h
    rw [e] at ha
    injection ha with ha
    subst ha
    unfold preL at hu
    cases j with
    | zero =>
      simp at hu
      subst hu
      exact (hb.cell (p := ⟨g, 0, none⟩) hg).trans hc
    | succ j => simp at hu
theorem pre_nil {w : World} {P : Option Int} {ao : Option Addr} (h : PreV w P ao) : ao = none → preN P = 0 ∧ preN P = 0 := fun e => by
  cases P with
  | none => exact ⟨rfl, rfl⟩
  | some m => obtain ⟨_, _, g, e', _⟩ := h; rw [e] at e'; cases e'
theorem info_plan : (Try.prog.info? 50).map (fun i => (i.zero, i.size, i.bytes)) = some (some (.slice none 0 0), 1, 24) := by kernel_rfl
theorem Stand.wrote {w w' : World} {K rb b n : Nat} {V : Nat → Value} {F : Nat → Int → Option (List Int)} (h : Stand w K rb b n V F) (hm : Memo w' b K n F) (hw : WroteIn w w' b (b + 1)) : Stand w' K rb b n V F :=
  ⟨h.rules.wrote hw (fun e => h.far (by omega)), hm, h.far, h.n12, Nat.le_trans h.base hw.size⟩
theorem owns_not_map {w : World} {B n size b K m : Nat} {E : TypeId} {v : Value} {xs : List Value} {F : Nat → Int → Option (List Int)} (h : w.ownsRow B E size v n xs) (hm : Memo w b K m F) : v.ownBlock ≠ some b := fun e => by
  obtain ⟨es, clock, hb, _⟩ := hm
  rcases h.2 with ⟨rfl, _⟩ | ⟨g', cap, cur, rfl, hB, hh, _⟩
  · simp [Value.ownBlock] at e
  · simp [Value.ownBlock] at e
    subst e
    rw [hb] at hh
    injection hh with hh
    cases hh
theorem PlanV.slice {w : World} {K b : Nat} {v : Value} {l : List Int} (h : PlanV w K b v l) : ∃ g c, v = .slice (some ⟨g, 0, none⟩) l.length c := by
  obtain ⟨g, c, e, _⟩ := h
  exact ⟨g, c, e⟩
/-- a row of another kind grows: plans stay -/
theorem PlanV.grown {w w' : World} {K b B n : Nat} {v u : Value} {l : List Int} {xs : List Value} (h : PlanV w K b v l) (ho : w.ownsRow B 50 1 u n xs) (hg : w.grownBy w' u.ownBlock) : PlanV w' K b v l :=
  h.keepT fun g c hne hc => hg.block g (Array.getElem?_eq_some_iff.1 hc).1 (fun e => by
    rcases ho.2 with ⟨rfl, _⟩ | ⟨g', cap, cur, rfl, hB, hh, _⟩
    · simp [Value.ownBlock] at e
    · simp [Value.ownBlock] at e
      subst e
      rw [hc] at hh
      injection hh with hh
      injection hh with _ hh _
      revert hh
      decide)
theorem Stand.grows {w w' : World} {K rb b n B m : Nat} {V : Nat → Value} {F : Nat → Int → Option (List Int)} {u : Value} {xs : List Value} (h : Stand w K rb b n V F) (ho : w.ownsRow B 50 1 u m xs) (hg : w.grownBy w' u.ownBlock) : Stand w' K rb b n V F := by
  have hkt : ∀ g c, g ≠ b → w.heap[g]? = some (.cells c 2 (0, 0)) → w'.heap[g]? = w.heap[g]? := fun g c hne hc => hg.block g (Array.getElem?_eq_some_iff.1 hc).1 (fun e => by
    rcases ho.2 with ⟨rfl, _⟩ | ⟨g', cap, cur, rfl, hB, hh, _⟩
    · simp [Value.ownBlock] at e
    · simp [Value.ownBlock] at e
      subst e
      rw [hc] at hh
      injection hh with hh
      injection hh with _ hh _
      revert hh
      decide)
  have hr : w'.heap[rb]? = w.heap[rb]? := hg.block rb h.rules.lt (fun e => by
    obtain ⟨c, hc, _⟩ := h.rules
    rcases ho.2 with ⟨rfl, _⟩ | ⟨g', cap, cur, rfl, hB, hh, _⟩
    · simp [Value.ownBlock] at e
    · simp [Value.ownBlock] at e
      subst e
      rw [hc] at hh
      injection hh with hh
      injection hh with _ hh _
      revert hh
      decide)
  exact ⟨h.rules.of_block hr, h.memo.keepT (hg.block b h.memo.lt (fun e => owns_not_map ho h.memo e.symm)) hkt, h.far, h.n12, Nat.le_trans h.base hg.size⟩
theorem owns_vals {w : World} {B m : Nat} {E : TypeId} {v : Value} {vals : List Value} (h : w.ownsRow B E 1 v m vals) (hv : vals.length = m) : ∃ A c, v = .slice A m c ∧ m ≤ c ∧ c ≤ maxLen ∧ (0 < m → ∃ g, A = some ⟨g, 0, none⟩ ∧ B ≤ g ∧ g < w.heap.size ∧ OwnV w g E m (fun j => vals.getD j (.bool false))) := by
  have e : vals = (List.range (m * 1)).map (fun j => vals.getD j (.bool false)) := by
    apply List.ext_getElem
    · simp [hv]
    · intro j h1 h2
      simp [List.getD, List.getElem?_eq_getElem h1]
  obtain ⟨A, c, h1, h2, h3, h4⟩ := ownV_of_owns (size := 1) (V := fun j => vals.getD j (.bool false)) (by rw [← e]; exact h)
  rw [Nat.mul_one] at h4
  exact ⟨A, c, h1, h2, h3, h4⟩
theorem grown_far {a w w' : World} {b : Nat} {row : Option Nat} (h : WroteIn a w b (b + 1)) (hr : ∀ g, row = some g → a.heap.size ≤ g) (hg : w.grownBy w' row) : WroteIn a w' b (b + 1) :=
  ⟨hg.os.trans h.os, hg.tape.trans h.tape, hg.output.trans h.output, Nat.le_trans h.size hg.size, fun k hk hd => (hg.block k (Nat.lt_of_lt_of_le hk h.size) (fun e => by have := hr k e.symm; omega)).trans (h.block k hk hd)⟩
theorem owns_wrote {w w' : World} {B n size b K m : Nat} {E : TypeId} {v : Value} {xs : List Value} {F : Nat → Int → Option (List Int)} (h : w.ownsRow B E size v n xs) (hm : Memo w b K m F) (hw : WroteIn w w' b (b + 1)) : w'.ownsRow B E size v n xs :=
  owns_keep h fun g hg => hw.block g (owns_lt h g hg) (fun e => by
    have h1 := owns_not_map h hm
    rw [hg] at h1
    exact h1 (congrArg some (by omega)))
/-- the values are the plans -/
def ValsV (w : World) (K b m : Nat) (vals : List Value) (ps : List (List Int)) : Prop := m = ps.length ∧ vals.length = m ∧ ∀ j, j < m → ∃ v, vals[j]? = some v ∧ PlanV w K b v (ps.getD j [])
theorem ValsV.nil (w : World) (K b : Nat) : ValsV w K b 0 [] [] := ⟨rfl, rfl, fun j hj => absurd hj (by omega)⟩
theorem ValsV.wrote {w w' : World} {K b m : Nat} {vals : List Value} {ps : List (List Int)} (h : ValsV w K b m vals ps) (hw : WroteIn w w' b (b + 1)) : ValsV w' K b m vals ps :=
  ⟨h.1, h.2.1, fun j hj => by
    obtain ⟨v, e1, e2⟩ := h.2.2 j hj
    exact ⟨v, e1, e2.keep fun g hg hne => hw.block g hg (by omega)⟩⟩
theorem ValsV.grown {w w' : World} {K b m B n : Nat} {vals xs : List Value} {ps : List (List Int)} {u : Value} (h : ValsV w K b m vals ps) (ho : w.ownsRow B 50 1 u n xs) (hg : w.grownBy w' u.ownBlock) : ValsV w' K b m vals ps :=
  ⟨h.1, h.2.1, fun j hj => by
    obtain ⟨v, e1, e2⟩ := h.2.2 j hj
    exact ⟨v, e1, e2.grown ho hg⟩⟩
theorem ValsV.add {w : World} {K b m : Nat} {vals : List Value} {ps : List (List Int)} {v : Value} {l : List Int} (h : ValsV w K b m vals ps) (hv : PlanV w K b v l) : ValsV w K b (m + 1) (vals ++ [v]) (ps ++ [l]) := by
  obtain ⟨h1, h2, h3⟩ := h
  refine ⟨by simp [h1], by simp [h2], fun j hj => ?_⟩
  by_cases e : j < m
  · obtain ⟨u, e1, e2⟩ := h3 j e
    refine ⟨u, by rw [List.getElem?_append_left (by omega)]; exact e1, ?_⟩
    have : (ps ++ [l]).getD j [] = ps.getD j [] := by simp only [List.getD]; rw [List.getElem?_append_left (by omega)]
    rw [this]; exact e2
  · obtain rfl : j = m := by omega
    refine ⟨v, by rw [List.getElem?_append_right (by omega), h2]; simp, ?_⟩
    have : (ps ++ [l]).getD j [] = l := by simp only [List.getD]; rw [List.getElem?_append_right (by omega), ← h1]; simp
    rw [this]; exact hv
theorem ValsV.plans {w : World} {K b m B : Nat} {vals : List Value} {ps : List (List Int)} {u : Value} {n : Nat} {F : Nat → Int → Option (List Int)} (h : ValsV w K b m vals ps) (ho : w.ownsRow B 50 1 u m vals) (hB : K ≤ B) (hm : Memo w b K n F) : PlansV w K b u ps := by
  obtain ⟨h1, h2, h3⟩ := h
  obtain ⟨A, c, e, k1, k2, k3⟩ := owns_vals ho h2
  have hnb := owns_not_map ho hm
  subst h1
  refine ⟨A, c, fun j => vals.getD j (.bool false), e, k1, k2, fun hn => ?_, fun j hj => ?_⟩
  · obtain ⟨g, e2, g0, g1, o⟩ := k3 hn
    refine ⟨g, e2, by omega, fun eb => hnb ?_, o⟩
    rw [e, e2, eb]
    rfl
  · obtain ⟨v, e1, e2⟩ := h3 j hj
    have : vals.getD j (.bool false) = v := by simp [List.getD, e1]
    show PlanV w K b (vals.getD j (.bool false)) (ps.getD j [])
    rw [this]; exact e2
theorem filterMap_no {L : List Int} {k : Nat} {f : Int → Option (List Int)} (hk : k < L.length) (h : f (L.getD k 0) = none) : (L.take (k + 1)).filterMap f = (L.take k).filterMap f := by
  rw [List.take_succ_eq_append_getElem hk, List.filterMap_append]
  have e : L.getD k 0 = L[k] := by simp [List.getD, List.getElem?_eq_getElem hk]
  rw [e] at h
  simp [h]
theorem filterMap_yes {L : List Int} {k : Nat} {f : Int → Option (List Int)} {l : List Int} (hk : k < L.length) (h : f (L.getD k 0) = some l) : (L.take (k + 1)).filterMap f = (L.take k).filterMap f ++ [l] := by
  rw [List.take_succ_eq_append_getElem hk, List.filterMap_append]
  have e : L.getD k 0 = L[k] := by simp [List.getD, List.getElem?_eq_getElem hk]
  rw [e] at h
  simp [h]
theorem getD_stk {p : Int → Bool} {k : Nat} (h : k < (stk p 58).length) : 3 ≤ (stk p 58).getD k 0 ∧ (stk p 58).getD k 0 ≤ 60 := by
  have hm : (stk p 58).getD k 0 ∈ stk p 58 := by
    simp [List.getD, List.getElem?_eq_getElem h]
  have := stk_mem hm
  exact ⟨this.1, by omega⟩

set_option maxHeartbeats 8000000 in
set_option maxRecDepth 100000 in
theorem plansFrom_i (K rb rc b n r i : Nat) (X : Nat → Int) (lo up : Int) (F : Nat → Int → Option (List Int)) (P : Option Int) (ao : Option Addr) (w : World) (hst : Stand w K rb b n (fun j => (rsp X lo up j).v) F) (hi : i < n) (hwf : ∀ j, j < n → (rsp X lo up j).wf)
    (hF : ∀ s, F i s = pl X lo up r i s) (hP : PreV w P ao)
    (hvalue : ∀ s w, 3 ≤ s → s ≤ 60 → Stand w K rb b n (fun j => (rsp X lo up j).v) F → Calls Try.prog 33 #[.map (some b), .agg #[.int .i64 (i : Int), .int .i64 s], .func (.func 34) #[.agg #[.slice (some ⟨rb, 0, none⟩) n rc, .map (some b)]] #[]] w (Got K rb b n (fun j => (rsp X lo up j).v) F w (F i s))) :
    Calls Try.prog 22 #[.agg #[.slice (some ⟨rb, 0, none⟩) n rc, .map (some b)], .int .i64 (i : Int), .slice ao (preN P) (preN P)] w fun e w' => ∃ v, e = .returned v ∧ PlansV w' K b v (plans X lo up r i (preP P)) ∧ Stand w' K rb b n (fun j => (rsp X lo up j).v) F ∧ WroteIn w w' b (b + 1) := by
  obtain ⟨i0, hi0, hz0, hz1, hz2⟩ := info_parts info_rule
  obtain ⟨j0, hj0, hy0, hy1, hy2⟩ := info_parts info_plan
  have hneq : ∀ (w : World) (a : Option Addr) (n c : Nat), (binOp .neq 50 (.slice a n c) (.slice none 0 0)).run Try.prog w = .ok (.bool (!a.isNone)) w := fun w a n c => run_neq_slice_nil w 50 _ a n c Try.underlying50
  have HVAL := Lib.hid hvalue
  have HWF := Lib.hid (pre_wf hP (hwf i hi))
  have hrl := hst.rules.lt
  have hr0 : w.cell? ⟨rb, i, none⟩ = some (.iface 63 (.agg #[.int .i64 (X i), .int .i64 lo, .int .i64 up])) := hst.rules.cell hi
  have hi0' : (0 : Int) ≤ (i : Int) := by omega
  have hin : (i : Int) < (n : Int) := by omega
  have hpl := preN_le P
  have hB : Below w.heap.size w (w.alloc (Obj.cells #[.slice (some ⟨rb, 0, none⟩) n rc, .map (some b)] 49)) := by go_grown
  have HS := Lib.hid hst
  have HP := Lib.hid hP
  have HPO := Lib.hid (pre_ok P i X lo up)
  have HPL := Lib.hid (pre_list P i X lo up)
  have HLEN := Lib.hid (pre_len P)
  have HFF := Lib.hid hF
  clear hvalue hwf hst hP hF
  generalize hN : preN P = N at *
  have HNN := Lib.hid hN
  have hl1 : N + 1 ≤ maxLen := by unfold maxLen; omega
  have hl2 : (N + 1) * 16 ≤ 140737488355328 := by omega
  have hfull : N < N + 1 := by omega
  clear hN
  go_enter Try.func22, Try.ntmps22
  go_wp2_with (at_builtin; refine wpList_append_grows _ rfl _ _ 43 rfl 69 i0 .nilIface 1 16 Try.underlying43 hi0 hz0 hz1 hz2 rfl (by decide) ao N N (preL P) rfl ?c0 ?c1 ?c2 ⟨w.heap.size + 1, 0, none⟩ 1 1 [.iface 63 (.agg #[.int .i64 (X i), .int .i64 lo, .int .i64 up])] rfl rfl ?c3 ?c4 hfull hl1 hl2 ?_)
  case c0 => intro e; rw [← HNN.out]; exact pre_nil HP.out e
  case c1 => rw [HLEN.out, Nat.mul_one]
  case c2 => exact pre_cells HP.out (by go_grown)
  case c3 => intro j u hj; rcases j with _ | j <;> simp at hj; subst hj; go_simp
  case c4 => intro u hu; simp at hu; subst hu; rfl
  intro v' w1 hown1 hgrow1
  have g1 : Below w.heap.size w w1 := Below.grown (B := w.heap.size) (by go_grown) hgrow1 (by simp; omega) (fun g hg => by cases hg)
  have gA : Below (w.heap.size + 1) (w.alloc (Obj.cells #[.slice (some ⟨rb, 0, none⟩) n rc, .map (some b)] 49)) w1 := Below.grown (B := w.heap.size + 1) ((Below.refl _ _).alloc (by simp) _) hgrow1 (by simp) (fun g hg => by cases hg)
  have z1 := hgrow1.size
  simp at z1
  obtain ⟨A1, c1, rfl, k1, k2, hrow1⟩ := ownV_of_owns (n := N + 1) (size := 1) (V := fun j => (pre P i X lo up j).v) (by rw [Nat.mul_one, ← HPL.out]; exact hown1)
  rw [Nat.mul_one] at hrow1
  have HSL := Lib.hid (slV_of_own hrow1)
  clear hown1 hgrow1 hrow1
  go_wp2_with fail
  refine (stakesFor_i A1 (N + 1) c1 (pre P i X lo up) _ (by omega) HWF.out HSL.out).mono ?_
  rintro e w2 ⟨A2, c2, rfl, m1, m2, hrow2, hb2⟩
  rw [HPO.out] at m1 hrow2 ⊢
  have hLL : ∀ k, k < (stk (fun s => preP P s && goodB (X i) lo up s) 58).length → 3 ≤ (stk (fun s => preP P s && goodB (X i) lo up s) 58).getD k 0 ∧ (stk (fun s => preP P s && goodB (X i) lo up s) 58).getD k 0 ≤ 60 := fun k h => getD_stk h
  have hLn := stk_len (fun s => preP P s && goodB (X i) lo up s) 58
  have hPl : plans X lo up r i (preP P) = (stk (fun s => preP P s && goodB (X i) lo up s) 58).filterMap (pl X lo up r i) := rfl
  generalize stk (fun s => preP P s && goodB (X i) lo up s) 58 = L at *
  generalize hf : pl X lo up r i = f at *
  clear hf
  have z2 := hb2.size
  have B2 := Lib.hid (g1.trans (hb2.mono g1.size))
  have gB := gA.trans (hb2.mono (by omega))
  have P0 : w2.cell? ⟨w.heap.size, 0, none⟩ = some (.slice (some ⟨rb, 0, none⟩) n rc) := (gB.cell (p := ⟨w.heap.size, 0, none⟩) (by simp)).trans (by go_simp)
  have P1 : w2.cell? ⟨w.heap.size, 1, none⟩ = some (.map (some b)) := (gB.cell (p := ⟨w.heap.size, 1, none⟩) (by simp)).trans (by go_simp)
  have S2 := Lib.hid (HS.out.below B2.out)
  have hbl := HS.out.memo.lt
  have QP0 := Lib.hid P0
  have QP1 := Lib.hid P1
  have HR2 := Lib.hid hrow2
  have HLL := Lib.hid hLL
  have HPl := Lib.hid hPl
  clear gA gB g1 hb2 P0 P1 hrow2 hLL hPl HSL HWF HPO HPL HLEN HP hB
  go_wp2_with fail
  go_loopw [21, 7] (fun t u wr => ∃ (k m : Nat) (vals : List Value), k ≤ L.length ∧ m ≤ k ∧ t = .int .i64 k ∧ Hid (wr.ownsRow w2.heap.size 50 1 u m vals) ∧ Hid (ValsV wr K b m vals ((L.take k).filterMap f)) ∧ Hid (Stand wr K rb b n (fun j => (rsp X lo up j).v) F) ∧ Hid (WroteIn w2 wr b (b + 1))) (fun t _ _ => L.length - (intOf t).toNat)
  case atStart => exact ⟨0, 0, [], by omega, by omega, rfl, ⟨rfl, .inl ⟨rfl, rfl⟩⟩, ValsV.nil _ _ _, S2.out, WroteIn.refl _ _ _⟩
  case round =>
    obtain ⟨k, m, vals, hk, hmk, rfl, HO, HV, HSr, HW⟩ := hrel
    have zr := HW.out.size
    by_cases hlt : k < L.length
    · have hlt' : (k : Int) < (L.length : Int) := by omega
      have hk0 : (0 : Int) ≤ (k : Int) := by omega
      obtain ⟨g, rfl, g0, g2, ho⟩ := HR2.out (by omega)
      have h0 : wr.cell? ⟨g, k, none⟩ = some (.int .i64 (L.getD k 0)) := (HW.out.cell (b := g) (o := k) g2 (by omega)).trans (ho.cell (j := k) (by omega))
      have P0 : wr.cell? ⟨w.heap.size, 0, none⟩ = some (.slice (some ⟨rb, 0, none⟩) n rc) := (HW.out.cell (by omega) (by omega)).trans QP0.out
      have P1 : wr.cell? ⟨w.heap.size, 1, none⟩ = some (.map (some b)) := (HW.out.cell (by omega) (by omega)).trans QP1.out
      obtain ⟨s3, s60⟩ := HLL.out k hlt
      clear ho
      generalize hs : L.getD k 0 = s at *
      have hFs := HFF.out s
      have O4 := Lib.hid (fun w4 (hw4 : WroteIn wr w4 b (b + 1)) => owns_wrote HO.out HSr.out.memo hw4)
      have V4 := Lib.hid (fun w4 (hw4 : WroteIn wr w4 b (b + 1)) => HV.out.wrote hw4)
      cases hq : f s with
      | none =>
        have HQ := Lib.hid (hFs.trans hq)
        have HN := Lib.hid (show (L.take (k + 1)).filterMap f = (L.take k).filterMap f from filterMap_no hlt (by rw [hs]; exact hq))
        clear hFs hq hs
        go_wp2_with fail
        refine (HVAL.out s wr s3 s60 HSr.out).mono ?_
        rintro e w4 ⟨v4, rfl, hv4, hs4, hw4⟩
        rw [HQ.out] at hv4
        obtain rfl : v4 = .slice none 0 0 := hv4
        have S4 := Lib.hid hs4
        have W4 := Lib.hid (HW.out.then hw4)
        have O4' := Lib.hid (O4.out w4 hw4)
        have V4' := Lib.hid (V4.out w4 hw4)
        clear hs4 hw4 h0 P0 P1 O4 V4
        go_wp2
        go_roundw
        case rel => exact ⟨k + 1, m, vals, by omega, by omega, by go_num, O4'.out, by rw [HN.out]; exact V4'.out, S4.out, W4.out⟩
        case measure => simp [intOf]; omega
      | some l =>
        have HQ := Lib.hid (hFs.trans hq)
        have HN := Lib.hid (show (L.take (k + 1)).filterMap f = (L.take k).filterMap f ++ [l] from filterMap_yes hlt (by rw [hs]; exact hq))
        clear hFs hq hs
        go_wp2_with fail
        refine (HVAL.out s wr s3 s60 HSr.out).mono ?_
        rintro e w4 ⟨v4, rfl, hv4, hs4, hw4⟩
        rw [HQ.out] at hv4
        have hv4' : PlanV w4 K b v4 l := hv4
        obtain ⟨g4, c4, rfl⟩ := hv4'.slice
        have V4l := Lib.hid hv4'
        have S4 := Lib.hid hs4
        have z4 := hw4.size
        have W4 := Lib.hid (HW.out.then hw4)
        have O4' := Lib.hid (O4.out w4 hw4)
        have V4' := Lib.hid (V4.out w4 hw4)
        have hl1 : m + 1 ≤ maxLen := by unfold maxLen; omega
        have hl2 : (m + 1) * 24 ≤ 140737488355328 := by omega
        have hd5 := Lib.hid (show w2.heap.size ≤ w4.heap.size by omega)
        clear hs4 hw4 h0 P0 P1 hv4 hv4' O4 V4
        go_wp2_with (at_builtin; refine wpList_append_own _ rfl _ _ 52 rfl w2.heap.size 50 j0 (.slice none 0 0) 1 24 Try.underlying52 hj0 hy0 hy1 hy2 rfl (by decide) _ _ _ rfl (O4'.out.alloc _) ⟨w4.heap.size, 0, none⟩ 1 1 [.slice (some ⟨g4, 0, none⟩) l.length c4] rfl rfl ?d1 ?d2 hl1 hl2 ?d5 ?_)
        case d1 => intro j u hj; rcases j with _ | j <;> simp at hj; subst hj; go_simp
        case d2 => intro u hu; simp at hu; subst hu; rfl
        case d5 => have := hd5.out; simp <;> omega
        intro v' w5 hown5 hgrow5 _
        have hA := Lib.hid (show Below w4.heap.size w4 (w4.alloc (Obj.cells #[.slice (some ⟨g4, 0, none⟩) l.length c4] 50)) by go_grown)
        have S5 := Lib.hid ((S4.out.below hA.out).grows (O4'.out.alloc _) hgrow5)
        have W5 := Lib.hid (grown_far (W4.out.then (wrote_new (b := b) hA.out)) (owns_block O4'.out) hgrow5)
        have V5 := Lib.hid (((V4'.out.wrote (wrote_new hA.out)).add (V4l.out.keep fun g hg _ => hA.out.block g hg)).grown (O4'.out.alloc _) hgrow5)
        have O5 := Lib.hid hown5
        clear hown5 hgrow5 hA
        go_wp2
        go_roundw
        case rel => exact ⟨k + 1, m + 1, _, by omega, by omega, by go_num, O5.out, by rw [HN.out]; exact V5.out, S5.out, W5.out⟩
        case measure => simp [intOf]; omega
    · obtain rfl : k = L.length := by omega
      have hpv := HV.out.plans HO.out S2.out.base HSr.out.memo
      rw [List.take_of_length_le (Nat.le_refl _), ← HPl.out] at hpv
      have HPV := Lib.hid hpv
      have W := Lib.hid ((wrote_new (b := b) B2.out).then HW.out)
      clear hpv
      go_wp2
      go_ret
      exact ⟨_, rfl, HPV.out, HSr.out, W.out⟩

end Go.Proofs.Ytldeeilgmogjjaa.shp
