/-
  Runs of a text: mathematics, and the contract of the model's draft. No condition of a statement lies here.
-/
import Derived.Test.YtopiecbldnhihaaDoorFold8
import Derived.Test.YtopiecbldnhihaaDoorFold5
namespace Go.Proofs.YtopiecbldnhihaaDoor.twl
open Go.ChangeShapes Go.WideShapes Go.ChangeAt Go.RowKit Go.Deep Go.Proofs.YtopiecbldnhihaaDoor.mem Go.Proofs.YtopiecbldnhihaaDoor.rod Go.Proofs.YtopiecbldnhihaaDoor.nums Go.Proofs.YtopiecbldnhihaaDoor.shp Go.Proofs.YtopiecbldnhihaaDoor.wv Go.Proofs.YtopiecbldnhihaaDoor.wk
set_option linter.unusedVariables false
set_option maxRecDepth 100000

/-- one more in the last run -/
def bump : List Int → List Int
  | [] => []
  | [q] => [q + 1]
  | a :: b :: r => a :: bump (b :: r)
theorem bump_snoc : ∀ (l : List Int) (q : Int), bump (l ++ [q]) = l ++ [q + 1]
  | [], q => rfl
  | [a], q => rfl
  | a :: b :: r, q => by
    show a :: bump ((b :: r) ++ [q]) = _
    rw [bump_snoc (b :: r) q]; rfl
/-- the runs of the first k letters -/
def rle (s : ByteArray) : Nat → List Int
  | 0 => []
  | k + 1 => if 0 < k ∧ byteAt s k = byteAt s (k - 1) then bump (rle s k) else rle s k ++ [1]
theorem rle_new {s : ByteArray} {k : Nat} (h : ¬ (0 < k ∧ byteAt s k = byteAt s (k - 1))) : rle s (k + 1) = rle s k ++ [1] := if_neg h
theorem rle_last (s : ByteArray) : ∀ k, 0 < k → ∃ l q, rle s k = l ++ [q] ∧ 1 ≤ q ∧ q ≤ (k : Int) ∧ l.length + 1 ≤ k
  | 0, h => absurd h (by omega)
  | k + 1, _ => by
    by_cases h : 0 < k ∧ byteAt s k = byteAt s (k - 1)
    · obtain ⟨l, q, e, h1, h2, h3⟩ := rle_last s k h.1
      exact ⟨l, q + 1, by unfold rle; rw [if_pos h, e, bump_snoc], by omega, by omega, by omega⟩
    · refine ⟨rle s k, 1, rle_new h, by omega, by omega, ?_⟩
      by_cases h0 : 0 < k
      · obtain ⟨l, q, e, h1, h2, h3⟩ := rle_last s k h0
        rw [e]; simp; omega
      · obtain rfl : k = 0 := by omega
        simp [rle]
theorem rle_same {s : ByteArray} {k : Nat} (h : 0 < k ∧ byteAt s k = byteAt s (k - 1)) : ∃ l q, rle s k = l ++ [q] ∧ rle s (k + 1) = l ++ [q + 1] ∧ 1 ≤ q ∧ q ≤ (k : Int) ∧ l.length + 1 ≤ k := by
  obtain ⟨l, q, e, h1, h2, h3⟩ := rle_last s k h.1
  exact ⟨l, q, e, by unfold rle; rw [if_pos h, e, bump_snoc], h1, h2, h3⟩
theorem rle_len (s : ByteArray) (k : Nat) : (rle s k).length ≤ k := by
  by_cases h : 0 < k
  · obtain ⟨l, q, e, _, _, h3⟩ := rle_last s k h
    rw [e]; simp; omega
  · obtain rfl : k = 0 := by omega
    simp [rle]

/-- block b is a twill in memory: a list and a step -/
def TwBlk (w : World) (b : Nat) (v : Value) (st : Int) : Prop := w.heap[b]? = some (.cells #[v, .int .i64 st] 26 (0, 0))
section
variable {w w' : World} {b : Nat} {v : Value} {st : Int}
theorem TwBlk.cell0 (h : TwBlk w b v st) : w.cell? ⟨b, 0, none⟩ = some v := by unfold TwBlk at h; simp [World.cell?, h]
theorem TwBlk.cell1 (h : TwBlk w b v st) : w.cell? ⟨b, 1, none⟩ = some (.int .i64 st) := by unfold TwBlk at h; simp [World.cell?, h]
theorem TwBlk.frozen (h : TwBlk w b v st) (j : Nat) : w.frozen? ⟨b, j, none⟩ = false := by unfold TwBlk at h; simp [World.frozen?, h]
theorem TwBlk.lt (h : TwBlk w b v st) : b < w.heap.size := (Array.getElem?_eq_some_iff.1 h).1
theorem TwBlk.of_block (h : TwBlk w b v st) (e : w'.heap[b]? = w.heap[b]?) : TwBlk w' b v st := e.trans h
theorem TwBlk.put (h : TwBlk w b v st) (u : Value) : TwBlk (w.setCell ⟨b, 0, none⟩ u) b u st := by
  unfold TwBlk at h ⊢
  simp [World.setCell, Array.getElem?_modify, h]
theorem TwBlk.other (h : TwBlk w b v st) {a : Addr} (ha : b ≠ a.block) (u : Value) : TwBlk (w.setCell a u) b v st := h.of_block (Go.Deep.blk_setCell_other _ _ _ _ ha)
theorem TwBlk.ne (h : TwBlk w b v st) {B n : Nat} {u : Value} {xs : List Value} (ho : w.ownsRow B 2 1 u n xs) : u.ownBlock ≠ some b := by
  intro e
  rcases ho.2 with ⟨rfl, _⟩ | ⟨g, cap, cur, rfl, _, hh, _⟩
  · simp [Value.ownBlock] at e
  · simp [Value.ownBlock] at e
    subst e
    unfold TwBlk at h
    rw [h] at hh
    injection hh with hh
    injection hh with _ hh _
    exact absurd hh (by decide)
end
theorem slice_of_owns {w : World} {B n : Nat} {E : TypeId} {v : Value} {xs : List Value} (h : w.ownsRow B E 1 v n xs) (hn : 0 < n) : ∃ g c, v = .slice (some ⟨g, 0, none⟩) n c := by
  rcases h.2 with ⟨rfl, h0⟩ | ⟨g, cap, cur, rfl, _⟩
  · omega
  · exact ⟨g, cap, rfl⟩
/-- what the model's draft leaves -/
def Tws (w : World) (l : List Int) (st : Int) (e : Ending) (w' : World) : Prop :=
  ∃ A c, e = .returned (.agg #[.slice A l.length c, .int .i64 st]) ∧ l.length ≤ c ∧ c ≤ maxLen ∧ Row w' w.heap.size w'.heap.size A l.length 1 2 (fun j => l.getD j 0) ∧ Below w.heap.size w w'

set_option maxHeartbeats 4000000 in
theorem draft_s (s : ByteArray) (st : Int) (w : World) (hs : s.size ≤ 12) :
    Calls Tryd.prog 44 #[.string s, .int .i64 st] w (Tws w (rle s s.size) st) := by
  obtain ⟨i0, hi0, hz0, hz1, hz2⟩ := info_parts (show (Tryd.prog.info? 2).map (fun i => (i.zero, i.size, i.bytes)) = some (some (.int .i64 0), 1, 8) from info_num)
  obtain ⟨W0, hW0⟩ : ∃ W0, W0 = ((w.alloc (Obj.cells #[Value.slice none 0 0, .int .i64 0] 26)).alloc (Obj.cells #[] 2)).alloc (Obj.cells #[.slice (some ⟨w.heap.size + 1, 0, none⟩) 0 0, .int .i64 st] 26) := ⟨_, rfl⟩
  have HS1 : Hid (TwBlk W0 (w.heap.size + 1 + 1) (.slice (some ⟨w.heap.size + 1, 0, none⟩) 0 0) st) := by
    unfold TwBlk
    rw [hW0]
    exact (congrArg (fun b => (((w.alloc (Obj.cells #[Value.slice none 0 0, .int .i64 0] 26)).alloc (Obj.cells #[] 2)).alloc (Obj.cells #[.slice (some ⟨w.heap.size + 1, 0, none⟩) 0 0, .int .i64 st] 26)).heap[b]?) (show w.heap.size + 1 + 1 = ((w.alloc (Obj.cells #[Value.slice none 0 0, .int .i64 0] 26)).alloc (Obj.cells #[] 2)).heap.size by simp)).trans (Go.Deep.blk_alloc_new _ _)
  have HS2 : Hid (W0.ownsRow w.heap.size 2 1 (.slice (some ⟨w.heap.size + 1, 0, none⟩) 0 0) (rle s 0).length ((rle s 0).map (Value.int .i64))) := by
    rw [hW0]
    have := (owns_empty (w.alloc (Obj.cells #[Value.slice none 0 0, .int .i64 0] 26)) w.heap.size 2 (by simp)).alloc (Obj.cells #[.slice (some ⟨w.heap.size + 1, 0, none⟩) 0 0, .int .i64 st] 26)
    rw [show (w.alloc (Obj.cells #[Value.slice none 0 0, .int .i64 0] 26)).heap.size = w.heap.size + 1 by simp] at this
    exact this
  have HS3 : Hid (TwBlk W0 w.heap.size (.slice none 0 0) 0) := by
    unfold TwBlk
    rw [hW0, Go.Deep.blk_alloc_lt _ _ _ (by simp; omega), Go.Deep.blk_alloc_lt _ _ _ (by simp)]
    exact Go.Deep.blk_alloc_new _ _
  have HS4 : Hid (Below w.heap.size w W0) := by rw [hW0]; exact (((Below.refl _ _).alloc (Nat.le_refl _) _).alloc (by simp) _).alloc (by simp; omega) _
  go_enter Tryd.func44, Tryd.ntmps44
  go_wp2_with fail
  rw [← hW0]
  clear hW0
  go_loopw [6] (fun i wr => ∃ (k : Nat) (v : Value), k ≤ s.size ∧ i = .int .i64 (k : Int) ∧ Hid (TwBlk wr (w.heap.size + 1 + 1) v st) ∧ Hid (wr.ownsRow w.heap.size 2 1 v (rle s k).length ((rle s k).map (Value.int .i64))) ∧ Hid (TwBlk wr w.heap.size (.slice none 0 0) 0) ∧ Hid (Below w.heap.size w wr)) (fun i _ => s.size - (intOf i).toNat)
  case atStart => exact ⟨0, .slice (some ⟨w.heap.size + 1, 0, none⟩) 0 0, by omega, rfl, HS1, HS2, HS3, HS4⟩
  case round =>
    obtain ⟨k, v, hk, rfl, HT, HO, HT2, HB⟩ := hrel
    clear HS1 HS2 HS3 HS4
    have hzz := HB.out.size
    have c0 := HT.out.cell0
    have f0 := HT.out.frozen 0
    have hne := HT.out.ne HO.out
    have hne2 := HT2.out.ne HO.out
    have hlen := rle_len s k
    by_cases hlt : k < s.size
    · have hlt' : (k : Int) < (s.size : Int) := by omega
      have hk0 : (0 : Int) ≤ (k : Int) := by omega
      by_cases hsame : 0 < k ∧ byteAt s k = byteAt s (k - 1)
      · obtain ⟨l, q, e1, e2, q1, q2, hl⟩ := rle_same hsame
        have HE2 := Lib.hid e2
        rw [e1] at HO
        obtain ⟨g, cp, rfl⟩ := slice_of_owns HO.out (by simp)
        have hL : (l ++ [q]).length = l.length + 1 := by simp
        rw [hL] at HO c0 HT
        have hcell := HO.out.cellAt l.length (by omega)
        have hv : ((l ++ [q]).map (Value.int .i64))[l.length]? = some (.int .i64 q) := by simp
        rw [hv] at hcell
        have hfz := HO.out.frozenAt l.length
        obtain ⟨hkp, hb⟩ := hsame
        obtain ⟨r, hr⟩ : ∃ r : Nat, r = k - 1 := ⟨_, rfl⟩
        have hrs : r < s.size := by omega
        rw [← hr, byteAt_eq hlt, byteAt_eq hrs] at hb
        have hkp' : (0 : Int) < (k : Int) := by omega
        have hr0 : (0 : Int) ≤ (r : Int) := by omega
        have hr1 : (r : Int) < (s.size : Int) := by omega
        have hw1 : IntKind.i64.wrap ((k : Int) - 1) = (r : Int) := by rw [IntKind.wrap_i64]; omega
        have hbb : (((s[k]'hlt).toNat : Int) == ((s[r]'hrs).toNat : Int)) = true := beq_iff_eq.2 hb
        have hw2 : IntKind.i64.wrap (((l.length + 1 : Nat) : Int) - 1) = (l.length : Int) := by rw [IntKind.wrap_i64]; omega
        have hw3 : IntKind.i64.wrap (q + 1) = q + 1 := by rw [IntKind.wrap_i64]; omega
        clear hr hb hv e1 e2 hL
        go_wp2_with fail
        go_quiet (fail)
        go_wp2
        have hg1 : w.heap.size + 1 + 1 ≠ g := fun e => hne (by rw [e]; rfl)
        have hg2 : w.heap.size ≠ g := fun e => hne2 (by rw [e]; rfl)
        have hg3 := (HO.out.lt g rfl).1
        obtain ⟨HO2, _⟩ := World.ownsRow.stored (w := wr.drewN nq) HO.out l.length (.int .i64 (q + 1))
        have hset : ((l ++ [q]).map (Value.int .i64)).set l.length (.int .i64 (q + 1)) = (l ++ [q + 1]).map (Value.int .i64) := by simp
        rw [hset] at HO2
        refine ⟨⟨k + 1, .slice (some ⟨g, 0, none⟩) (l.length + 1) cp, by omega, by go_num, Lib.hid (TwBlk.other (w := wr.drewN nq) HT.out hg1 _), Lib.hid ?_, Lib.hid (TwBlk.other (w := wr.drewN nq) HT2.out hg2 _), Lib.hid (Below.setCell (drewN_below HB.out nq) hg3 _)⟩, by simp [intOf]; omega⟩
        rw [HE2.out, show (l ++ [q + 1]).length = l.length + 1 by simp]
        exact HO2
      · have HN := Lib.hid (rle_new hsame)
        have hl1 : (rle s k).length + 1 ≤ maxLen := by unfold maxLen; omega
        have hl2 : ((rle s k).length + 1) * 8 ≤ 140737488355328 := by omega
        have hcond : (0 < k → ∃ (r : Nat) (hrs : r < s.size), (r : Int) = (k : Int) - 1 ∧ (((s[k]'hlt).toNat : Int) == ((s[r]'hrs).toNat : Int)) = false) := fun h0 => by
          refine ⟨k - 1, by omega, by omega, beq_false_of_ne fun e => hsame ⟨h0, ?_⟩⟩
          rw [byteAt_eq hlt, byteAt_eq (show k - 1 < s.size by omega)]; exact e
        generalize rle s k = l at *
        have tail : ∀ W, Drew wr W → True := fun _ _ => trivial
        by_cases h0 : 0 < k
        · obtain ⟨r, hrs, hr, hbb⟩ := hcond h0
          have hkp' : (0 : Int) < (k : Int) := by omega
          have hr0 : (0 : Int) ≤ (r : Int) := by omega
          have hr1 : (r : Int) < (s.size : Int) := by omega
          have hw1 : IntKind.i64.wrap ((k : Int) - 1) = (r : Int) := by rw [IntKind.wrap_i64]; omega
          clear hr hcond hsame
          go_wp2_with fail
          go_quiet (fail)
          obtain ⟨wq, hwq⟩ : ∃ wq, wq = wr.drewN nq := ⟨_, rfl⟩
          have HTq : Hid (TwBlk wq (w.heap.size + 1 + 1) v st) := by rw [hwq]; exact HT.out
          have HOq : Hid (wq.ownsRow w.heap.size 2 1 v l.length (l.map (Value.int .i64))) := by rw [hwq]; exact HO.out
          have HT2q : Hid (TwBlk wq w.heap.size (.slice none 0 0) 0) := by rw [hwq]; exact HT2.out
          have HBq : Hid (Below w.heap.size w wq) := by rw [hwq]; exact drewN_below HB.out nq
          rw [← hwq]
          clear hwq HT HO HT2 HB c0 f0
          have c0 := HTq.out.cell0
          have f0 := HTq.out.frozen 0
          have hzq := HBq.out.size
          go_wp2_with (at_builtin; refine wpList_append_own _ rfl _ _ 24 rfl w.heap.size 2 i0 (.int .i64 0) 1 8 Tryd.underlying24 hi0 hz0 hz1 hz2 rfl (by decide) _ _ _ rfl (HOq.out.alloc _) ⟨wq.heap.size, 0, none⟩ 1 1 [.int .i64 1] rfl rfl ?c1 ?c2 hl1 hl2 ?c5 ?_)
          case c1 => intro j u hj; rcases j with _ | j <;> simp at hj; subst hj; go_simp
          case c2 => intro u hu; simp at hu; subst hu; rfl
          case c5 => simp <;> omega
          intro v' w6 hown6 hgrow6 _
          obtain ⟨gv, cv, rfl⟩ := slice_of_owns hown6 (by omega)
          have g6 : Below w.heap.size w w6 := Below.grown (HBq.out.alloc hzq _) hgrow6 (by simp; omega) (owns_block HOq.out)
          have l1 := HTq.out.lt
          have HT6 := Lib.hid (HTq.out.of_block (w' := w6) ((hgrow6.block _ (by simp; omega) (fun e => hne e.symm)).trans (Go.Deep.blk_alloc_lt _ _ _ l1)))
          have HT26 := Lib.hid (HT2q.out.of_block (w' := w6) ((hgrow6.block _ (by simp; omega) (fun e => hne2 e.symm)).trans (Go.Deep.blk_alloc_lt _ _ _ HT2q.out.lt)))
          have HO6 := Lib.hid (owns_snoc hown6)
          rw [← HN.out] at HO6
          have c6 := HT6.out.cell0
          have f6 := HT6.out.frozen 0
          have hne6 := HT6.out.ne HO6.out
          have hne26 := HT26.out.ne HO6.out
          clear hown6 hgrow6 c0 f0
          go_wp2
          go_roundw
          case rel => exact ⟨k + 1, .slice (some ⟨gv, 0, none⟩) (l.length + 1) cv, by omega, by go_num, Lib.hid (HT6.out.put _), Lib.hid (ownsRow_setCell_other HO6.out hne6 _), Lib.hid (HT26.out.other (by simp; omega) _), Lib.hid (Below.setCell g6 (by simp; omega) _)⟩
          case measure => simp [intOf]; omega
        · have hkp' : decide ((0 : Int) < (k : Int)) = false := decide_eq_false (by omega)
          have hkp2 : decide (0 < k) = false := decide_eq_false h0
          clear hcond hsame h0
          go_wp2_with fail
          go_quiet (fail)
          obtain ⟨wq, hwq⟩ : ∃ wq, wq = wr.drewN nq := ⟨_, rfl⟩
          have HTq : Hid (TwBlk wq (w.heap.size + 1 + 1) v st) := by rw [hwq]; exact HT.out
          have HOq : Hid (wq.ownsRow w.heap.size 2 1 v l.length (l.map (Value.int .i64))) := by rw [hwq]; exact HO.out
          have HT2q : Hid (TwBlk wq w.heap.size (.slice none 0 0) 0) := by rw [hwq]; exact HT2.out
          have HBq : Hid (Below w.heap.size w wq) := by rw [hwq]; exact drewN_below HB.out nq
          rw [← hwq]
          clear hwq HT HO HT2 HB c0 f0
          have c0 := HTq.out.cell0
          have f0 := HTq.out.frozen 0
          have hzq := HBq.out.size
          go_wp2_with (at_builtin; refine wpList_append_own _ rfl _ _ 24 rfl w.heap.size 2 i0 (.int .i64 0) 1 8 Tryd.underlying24 hi0 hz0 hz1 hz2 rfl (by decide) _ _ _ rfl (HOq.out.alloc _) ⟨wq.heap.size, 0, none⟩ 1 1 [.int .i64 1] rfl rfl ?c1 ?c2 hl1 hl2 ?c5 ?_)
          case c1 => intro j u hj; rcases j with _ | j <;> simp at hj; subst hj; go_simp
          case c2 => intro u hu; simp at hu; subst hu; rfl
          case c5 => simp <;> omega
          intro v' w6 hown6 hgrow6 _
          obtain ⟨gv, cv, rfl⟩ := slice_of_owns hown6 (by omega)
          have g6 : Below w.heap.size w w6 := Below.grown (HBq.out.alloc hzq _) hgrow6 (by simp; omega) (owns_block HOq.out)
          have l1 := HTq.out.lt
          have HT6 := Lib.hid (HTq.out.of_block (w' := w6) ((hgrow6.block _ (by simp; omega) (fun e => hne e.symm)).trans (Go.Deep.blk_alloc_lt _ _ _ l1)))
          have HT26 := Lib.hid (HT2q.out.of_block (w' := w6) ((hgrow6.block _ (by simp; omega) (fun e => hne2 e.symm)).trans (Go.Deep.blk_alloc_lt _ _ _ HT2q.out.lt)))
          have HO6 := Lib.hid (owns_snoc hown6)
          rw [← HN.out] at HO6
          have c6 := HT6.out.cell0
          have f6 := HT6.out.frozen 0
          have hne6 := HT6.out.ne HO6.out
          have hne26 := HT26.out.ne HO6.out
          clear hown6 hgrow6 c0 f0
          go_wp2
          go_roundw
          case rel => exact ⟨k + 1, .slice (some ⟨gv, 0, none⟩) (l.length + 1) cv, by omega, by go_num, Lib.hid (HT6.out.put _), Lib.hid (ownsRow_setCell_other HO6.out hne6 _), Lib.hid (HT26.out.other (by simp; omega) _), Lib.hid (Below.setCell g6 (by simp; omega) _)⟩
          case measure => simp [intOf]; omega
    · obtain rfl : k = s.size := by omega
      clear hlt hk
      have d0 := HT2.out.cell0
      have d1 := HT2.out.cell1
      have df0 := HT2.out.frozen 0
      have df1 := HT2.out.frozen 1
      have c1 := HT.out.cell1
      obtain ⟨A, cp, rfl, ha, hb, hrow⟩ := row_of_owns HO.out
      have HW := Lib.hid hrow
      have hnr : ∀ g, A = some ⟨g, 0, none⟩ → g ≠ w.heap.size := fun g e => by
        subst e
        exact fun e2 => hne2 (by rw [← e2]; rfl)
      clear hrow
      generalize rle s s.size = l at *
      go_wp2
      refine bodyPost_ret (v := .agg #[.slice A l.length cp, .int .i64 st]) (by simp [results, Tryd.results44, go_sem, d0, d1]) rfl ⟨A, cp, rfl, ha, hb, ?_, Below.setCell (Below.setCell HB.out (Nat.le_refl _) _) (Nat.le_refl _) _⟩
      intro hn
      obtain ⟨g, e, a1, a2, ho⟩ := HW.out hn
      have hg := hnr g e
      exact ⟨g, e, a1, by simpa using a2, (ho.setOther (by simpa using hg) _).setOther (by simpa using hg) _⟩

end Go.Proofs.YtopiecbldnhihaaDoor.twl
