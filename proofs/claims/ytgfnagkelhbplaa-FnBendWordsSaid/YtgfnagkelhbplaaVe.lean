/-
  Rods that come out, and DrawnOut, of the program. No condition of a statement lies here.
-/
import Derived.Test.YtgfnagkelhbplaaVd
import Derived.Test.YtgfnagkelhbplaaOwnV
import Derived.Test.YtgfnagkelhbplaaIdx
import Derived.ArgAppend
namespace Go.Proofs.Ytgfnagkelhbplaa.brd
open Go.ChangeShapes Go.WideShapes Go.ChangeAt Go.RowKit Go.Proofs.Ytgfnagkelhbplaa.mem Go.Proofs.Ytgfnagkelhbplaa.rod Go.Proofs.Ytgfnagkelhbplaa.nums
set_option linter.unusedVariables false
set_option linter.unusedSimpArgs false
set_option maxRecDepth 100000

/-! ### a queue of numbers: a slice of the call's own that begins anywhere in its block -/
def Que (w : World) (B : Nat) (v : Value) (L : List Int) : Prop :=
  ∃ (h o c : Nat) (cur : Array Value), v = .slice (some ⟨h, o, none⟩) L.length c ∧ B ≤ h ∧ w.heap[h]? = some (.cells cur 2 (0, 0)) ∧ o + c ≤ cur.size ∧ L.length ≤ c ∧ c ≤ maxLen ∧ ∀ j, j < L.length → cur[o + j]? = some (.int .i64 (L.getD j 0))
theorem Que.below {w w' : World} {B K : Nat} {v : Value} {L : List Int} (h : Que w B v L) (hb : Below K w w') (hK : w.heap.size ≤ K) : Que w' B v L := by
  obtain ⟨h, o, c, cur, e, hB, hh, h1, h2, h3, h4⟩ := h
  have hlt : h < w.heap.size := (Array.getElem?_eq_some_iff.1 hh).1
  exact ⟨h, o, c, cur, e, hB, (hb.block h (by omega)).trans hh, h1, h2, h3, h4⟩
theorem Que.setOther {w : World} {B : Nat} {v : Value} {L : List Int} (h : Que w B v L) {a : Addr} (ha : a.block < B) (x : Value) : Que (w.setCell a x) B v L := by
  obtain ⟨h, o, c, cur, e, hB, hh, h1, h2, h3, h4⟩ := h
  exact ⟨h, o, c, cur, e, hB, (Go.Deep.blk_setCell_other _ _ _ _ (by omega)).trans hh, h1, h2, h3, h4⟩
theorem Que.len {w : World} {B : Nat} {v : Value} {L : List Int} (h : Que w B v L) : sliceLen v = L.length := by
  obtain ⟨h, o, c, cur, rfl, _⟩ := h; rfl
theorem Que.start {w : World} {B g n : Nat} (h : Own w g 2 n (fun j => (j : Int))) (hB : B ≤ g) (hn : n ≤ maxLen) : Que w B (.slice (some ⟨g, 0, none⟩) n n) ((List.range n).map (fun k => ((k : Nat) : Int))) := by
  obtain ⟨c, hb, hs, hc⟩ := h
  refine ⟨g, 0, n, c, by simp, hB, hb, by omega, by simp, hn, fun j hj => ?_⟩
  have hj' : j < n := by simpa using hj
  rw [Nat.zero_add, hc j hj']
  simp [List.getD_eq_getElem?_getD, List.getElem?_map, List.getElem?_range hj']
/-- the first one is taken off -/
theorem Que.head {w : World} {B : Nat} {v : Value} {x : Int} {L : List Int} (q : Que w B v (x :: L)) :
    ∃ h o c : Nat, v = .slice (some ⟨h, o, none⟩) (L.length + 1) (c + 1) ∧ B ≤ h ∧ L.length ≤ c ∧ c + 1 ≤ maxLen ∧ w.cell? ⟨h, o, none⟩ = some (.int .i64 x) ∧ Que w B (.slice (some ⟨h, o + 1, none⟩) L.length c) L ∧ (c = 0 → Que w B (.slice (some ⟨h, o, none⟩) L.length c) L) := by
  obtain ⟨h, o, c, cur, rfl, hB, hh, h1, h2, h3, h4⟩ := q
  have h2' : L.length + 1 ≤ c := h2
  have hcell : ∀ j, j < L.length → cur[o + 1 + j]? = some (.int .i64 (L.getD j 0)) := fun j hj => by
    have := h4 (j + 1) (by simp; omega)
    rwa [show o + (j + 1) = o + 1 + j by omega, List.getD_cons_succ] at this
  refine ⟨h, o, c - 1, by rw [show c - 1 + 1 = c by omega]; rfl, hB, by omega, by omega, ?_, ⟨h, o + 1, c - 1, cur, rfl, hB, hh, by omega, by omega, by omega, hcell⟩, fun e => ?_⟩
  · have := h4 0 (by simp)
    rw [Nat.add_zero] at this
    simp [World.cell?, hh, this]
  · have hl : L = [] := List.length_eq_zero_iff.1 (by omega)
    subst hl
    exact ⟨h, o, c - 1, cur, rfl, hB, hh, by omega, by simp, by omega, fun j hj => absurd hj (by simp)⟩
theorem Que.cut {w : World} {B : Nat} {v : Value} {x : Int} {L : List Int} (q : Que w B v (x :: L)) :
    ∃ (h o n c : Nat) (v' : Value), v = .slice (some ⟨h, o, none⟩) n c ∧ Hid (n = L.length + 1) ∧ 0 < n ∧ B ≤ h ∧ w.cell? ⟨h, o, none⟩ = some (.int .i64 x) ∧
      (∀ W, (Instr.slice 26 (.slice (some ⟨h, o, none⟩) n c) (some (.int .i64 1)) none none).run Try.prog W = .ok v' W) ∧ Hid (Que w B v' L) := by
  obtain ⟨h, o, c, rfl, h1, h2, h3, h4, h5, h6⟩ := q.head
  have he : Try.prog.elem 26 = 2 := by unfold Program.elem; rw [Try.underlying26]
  have hu : Try.prog.underlying 26 = some (.slice (Try.prog.elem 26)) := by rw [he]; exact Try.underlying26
  have hr := fun W => run_slice_l (P := Try.prog) W 26 (some ⟨h, o, none⟩) (L.length + 1) (c + 1) hu .i64 1 (by omega) (by omega)
  have e3 := Try.sizeOf2
  by_cases hc : c = 0
  · refine ⟨h, o, L.length + 1, c + 1, .slice (some ⟨h, o, none⟩) L.length c, rfl, Lib.hid rfl, by omega, h1, h4, fun W => ?_, Lib.hid (h6 hc)⟩
    rw [hr W, he]
    subst hc
    simp [sliced, e3, Result.andThen]
  · refine ⟨h, o, L.length + 1, c + 1, .slice (some ⟨h, o + 1, none⟩) L.length c, rfl, Lib.hid rfl, by omega, h1, h4, fun W => ?_, Lib.hid h5⟩
    rw [hr W, he]
    have e2 : ¬ c + 1 = 1 := by omega
    simp [sliced, e3, Result.andThen, hc, Addr.add_lit]
theorem getD_app {L M : List Int} {j : Nat} : (L ++ M).getD j 0 = if j < L.length then L.getD j 0 else M.getD (j - L.length) 0 := by
  by_cases e : j < L.length
  · rw [if_pos e, List.getD_eq_getElem?_getD, List.getElem?_append_left e, ← List.getD_eq_getElem?_getD]
  · rw [if_neg e, List.getD_eq_getElem?_getD, List.getElem?_append_right (by omega), ← List.getD_eq_getElem?_getD]
theorem setCells_at {w : World} {h : Nat} {cur : Array Value} {E : TypeId} : ∀ (vs : List Value) {i : Nat}, w.heap[h]? = some (.cells cur E (0, 0)) → i + vs.length ≤ cur.size →
    ∃ cur' : Array Value, (w.setCells h i vs).heap[h]? = some (.cells cur' E (0, 0)) ∧ cur'.size = cur.size ∧ (∀ j, j < i → cur'[j]? = cur[j]?) ∧ ∀ j, j < vs.length → cur'[i + j]? = vs[j]?
  | [], i, hh, hs => ⟨cur, hh, rfl, fun _ _ => rfl, fun j hj => absurd hj (by simp)⟩
  | v :: vs, i, hh, hs => by
    have h0 : (w.setCell ⟨h, i, none⟩ v).heap[h]? = some (.cells (cur.setIfInBounds i v) E (0, 0)) := by simp [World.setCell, Array.getElem?_modify, hh]
    have hs' : i + 1 + vs.length ≤ (cur.setIfInBounds i v).size := by
      rw [Array.size_setIfInBounds]
      simp only [List.length_cons] at hs
      omega
    obtain ⟨cur', e1, e2, e3, e4⟩ := setCells_at vs (i := i + 1) h0 hs'
    refine ⟨cur', e1, by rw [e2, Array.size_setIfInBounds], fun j hj => ?_, fun j hj => ?_⟩
    · rw [e3 j (by omega), Array.getElem?_setIfInBounds, if_neg (by omega)]
    · rcases j with _ | j
      · simp only [List.length_cons] at hs
        rw [Nat.add_zero, e3 i (by omega), Array.getElem?_setIfInBounds, if_pos rfl, if_pos (by omega)]
        rfl
      · have hj' : j < vs.length := by simpa using hj
        rw [show i + (j + 1) = i + 1 + j by omega, e4 j hj']
        rfl
theorem below_cells {B h : Nat} (hB : B ≤ h) {a : World} : ∀ (vs : List Value) {w : World} {i : Nat}, Below B a w → Below B a (w.setCells h i vs)
  | [], _, _, hb => hb
  | v :: vs, _, _, hb => below_cells hB vs (hb.setCell hB v)
/-- append of a row to a queue -/
theorem wpList_append_que {P : Program} (w : World) {ops : Array Oper} {rest : List Oper} {o : Oper} {a : Act} {Q : Exit → Act → World → Prop}
    (hg : o.guard = none) (s x : Operand) (t : TypeId) (hop : o.op = Op.call { callee := Callee.builtin Builtin.append, args := #[s, x], argTypes := #[t, t] })
    (i : TypeInfo) (h1 : P.underlying t = some (.slice 2)) (h2 : P.info? 2 = some i) (h3 : i.zero = some (.int .i64 0)) (h4 : i.size = 1) (h5 : i.bytes = 8)
    (B : Nat) (v : Value) (L M : List Int) (hs : a.eval s = v) (hq : Que w B v L)
    (A : Option Addr) (c : Nat) (hx : a.eval x = .slice A M.length c) (hM : 0 < M.length → ∃ b, A = some ⟨b, 0, none⟩ ∧ ∀ j, j < M.length → w.cell? ⟨b, j, none⟩ = some (.int .i64 (M.getD j 0)))
    (hBw : B ≤ w.heap.size) (hsum : L.length + M.length ≤ 1000000)
    (hK : ∀ v' w', Que w' B v' (L ++ M) → Below B w w' → wpList P ops Q rest (a.put o.dst v') w') :
    wpList P ops Q (o :: rest) a w := by
  obtain ⟨h, of, cp, cur, rfl, hB, hh, k1, k2, k3, k4⟩ := hq
  rcases A with _ | ad
  · have hM0 : M = [] := by
      rcases Nat.eq_zero_or_pos M.length with h0 | h0
      · exact List.length_eq_zero_iff.1 h0
      · obtain ⟨b, e, _⟩ := hM h0; cases e
    subst hM0
    have hrun : (Builtin.append_ #[t, t] o.type #[.slice (some ⟨h, of, none⟩) L.length cp, .slice none 0 c]).run P w = .ok (.slice (some ⟨h, of, none⟩) L.length cp) w := by
      simp [Builtin.append_, run_underlying h1, sizeOf, typeInfo, h2, Builtin.lenOf, Builtin.firstCells, k2, storeCells]
    refine wpList_plain hg fun K hK' => ?_
    unfold Oper.wp
    simp [execOp, hop, resolve, invoke, builtin, hs, hx, hrun, Result.andThen]
    refine hK' _ _ (hK _ _ ?_ (Below.refl _ _))
    rw [List.append_nil]
    exact ⟨h, of, cp, cur, rfl, hB, hh, k1, k2, k3, k4⟩
  · have olds : ∀ j u, (L.map (Value.int .i64))[j]? = some u → w.cell? ⟨h, of + j, none⟩ = some u := fun j u hj => by
      rw [List.getElem?_map] at hj
      obtain ⟨x, hx, rfl⟩ := Option.map_eq_some_iff.1 hj
      obtain ⟨hl, e⟩ := List.getElem?_eq_some_iff.1 hx
      have := k4 j hl
      rw [List.getD_eq_getElem?_getD, hx] at this
      simp [World.cell?, hh, this]
    have news : ∀ j u, (M.map (Value.int .i64))[j]? = some u → w.cell? (ad.add j) = some u := fun j u hj => by
      rw [List.getElem?_map] at hj
      obtain ⟨y, hy, rfl⟩ := Option.map_eq_some_iff.1 hj
      obtain ⟨hl, e⟩ := List.getElem?_eq_some_iff.1 hy
      obtain ⟨b, e1, hc⟩ := hM (by omega)
      obtain rfl : ad = ⟨b, 0, none⟩ := by simpa using e1
      have := hc j hl
      rw [List.getD_eq_getElem?_getD, hy] at this
      rw [Addr.add_lit, Nat.zero_add]
      exact this
    refine wpList_append_arg w hg s x t hop 2 i (.int .i64 0) 1 8 h1 h2 h3 h4 h5 rfl (by decide) h of L.length cp (L.map (Value.int .i64)) hs (by simp) olds ad M.length c (M.map (Value.int .i64)) hx (by simp) news ?_ ?_ ?_ ?_ ?_ ?_
    · intro u hu
      obtain ⟨x, _, rfl⟩ := List.mem_map.1 hu
      rfl
    · intro hr j hj
      rw [List.length_map] at hj
      have hlt : of + L.length * 1 + j < cur.size := by omega
      exact ⟨by simp [World.cell?, hh]; omega, by simp [World.frozen?, hh]⟩
    · unfold maxLen; omega
    · omega
    · intro hr
      have hfit : of + L.length * 1 + (M.map (Value.int .i64)).length ≤ cur.size := by rw [List.length_map]; omega
      obtain ⟨cur', e1, e2, e3, e4⟩ := setCells_at (M.map (Value.int .i64)) hh hfit
      refine hK _ _ ⟨h, of, cp, cur', by rw [List.length_append], hB, e1, by omega, by rw [List.length_append]; exact hr, k3, fun j hj => ?_⟩ (below_cells hB _ (Below.refl _ _))
      rw [List.length_append] at hj
      rw [getD_app]
      split
      · rename_i hl
        rw [e3 _ (by omega)]
        exact k4 j hl
      · rename_i hl
        have := e4 (j - L.length) (by rw [List.length_map]; omega)
        rw [show of + L.length * 1 + (j - L.length) = of + j by omega] at this
        have hx : j - L.length < M.length := by omega
        rw [this, List.getElem?_map, List.getElem?_eq_getElem hx, List.getD_eq_getElem?_getD, List.getElem?_eq_getElem hx]
        rfl
    · intro hr v' w' hown hgrow
      have hb : Below w.heap.size w w' := Below.grown (Below.refl _ _) hgrow (Nat.le_refl _) (fun _ e => by cases e)
      refine hK _ _ ?_ (hb.mono hBw)
      obtain ⟨hl, hcase⟩ := hown
      rcases hcase with ⟨_, h0⟩ | ⟨g, cap, cur', rfl, hgB, hhg, hcc, hcm, hsz, ht⟩
      · omega
      · refine ⟨g, 0, cap, cur', by rw [List.length_append], by omega, hhg, by omega, by rw [List.length_append]; exact hcc, hcm, fun j hj => ?_⟩
        have hj' : j < L.length + M.length := by rw [List.length_append] at hj; exact hj
        have e1 : cur'[0 + j]? = cur'.toList[j]? := by simp
        have e2 : cur'.toList[j]? = (cur'.toList.take ((L.length + M.length) * 1))[j]? := by rw [List.getElem?_take_of_lt (by omega)]
        rw [e1, e2, ht, ← List.map_append, List.getElem?_map, List.getElem?_eq_getElem hj, List.getD_eq_getElem?_getD, List.getElem?_eq_getElem hj]
        rfl

/-- a row of tests, and the variable that holds it -/
structure Flags (w : World) (g p st : Nat) (S : Nat → Bool) : Prop where
  row : OwnV w g 4 st (fun j => .bool (S j))
  var : w.cell? ⟨p, 0, none⟩ = some (.slice (some ⟨g, 0, none⟩) st st)
  lt : p < w.heap.size
theorem Flags.below {w w' : World} {g p st K : Nat} {S : Nat → Bool} (h : Flags w g p st S) (hb : Below K w w') (hg : g < K) (hp : p < K) : Flags w' g p st S :=
  ⟨h.row.below hb hg, (hb.cell (p := ⟨p, 0, none⟩) hp).trans h.var, Nat.lt_of_lt_of_le h.lt hb.size⟩
/-- are all told rods gone? the first n of a list -/
def goneB (S : Nat → Bool) (C : List Int) : Nat → Bool
  | 0 => true
  | n + 1 => goneB S C n && S (C.getD n 0).toNat
theorem goneB_iff {S : Nat → Bool} {C : List Int} : ∀ {n : Nat}, goneB S C n = true ↔ ∀ j, j < n → S (C.getD j 0).toNat = true
  | 0 => ⟨fun _ j h => absurd h (by omega), fun _ => rfl⟩
  | n + 1 => by
    unfold goneB
    rw [Bool.and_eq_true, goneB_iff]
    constructor
    · rintro ⟨h1, h2⟩ j hj
      by_cases e : j = n
      · rw [e]; exact h2
      · exact h1 j (by omega)
    · exact fun h => ⟨fun j hj => h j (by omega), h n (by omega)⟩
theorem goneB_no {S : Nat → Bool} {C : List Int} {n j : Nat} (hj : j < n) (h : S (C.getD j 0).toNat = false) : goneB S C n = false := by
  cases e : goneB S C n
  · rfl
  · rw [goneB_iff.1 e j hj] at h; cases h
set_option maxHeartbeats 1000000 in
theorem holds_i (g p st k : Nat) (S : Nat → Bool) (w : World) (hk : k < st) (hst : st ≤ 40) (hf : Flags w g p st S) :
    Calls Try.prog 90 #[.int .i64 (k : Int), .pointer (some ⟨p, 0, none⟩)] w fun e w' => e = .returned (.bool (!S k)) ∧ w = w' := by
  have hk' : (k : Int) < (st : Int) := by omega
  have hk0 : (0 : Int) ≤ (k : Int) := by omega
  have p0 := hf.var
  have p1 := hf.row.cell hk
  clear hf
  generalize S k = q at *
  go_enter Try.func90, Try.ntmps90
  go_wp2
  go_ret
  exact ⟨rfl, rfl⟩

set_option maxHeartbeats 2000000 in
theorem indexH_i (C : List Int) (A : Option Addr) (c g p st : Nat) (S : Nat → Bool) (w : World) (hn : C.length ≤ 40) (hC : ∀ j, j < C.length → ∃ k : Nat, C.getD j 0 = (k : Int) ∧ k < st) (hst : st ≤ 40) (hs : Sl w A C.length 1 (fun j => C.getD j 0)) (hf : Flags w g p st S) :
    Calls Try.prog 101 #[.slice A C.length c, (.func (.func 90) #[] #[.pointer (some ⟨p, 0, none⟩)])] w fun e w' => (∃ v : Int, e = .returned (.int .i64 v) ∧ decide (0 ≤ v) = (!goneB S C C.length)) ∧ w = w' := by
  have HS := Lib.hid hs
  have HF := Lib.hid hf
  have HC := Lib.hid hC
  clear hs hf hC
  go_enter Try.func101, Try.ntmps101
  go_wp2_with fail
  go_loop [8] (fun t => ∃ k : Nat, k ≤ C.length ∧ t = .int .i64 (k : Int) ∧ Hid (goneB S C k = true)) (fun t => C.length - (intOf t).toNat)
  case atStart => exact ⟨0, by omega, rfl, Lib.hid rfl⟩
  case round =>
    obtain ⟨k, hk, rfl, HA⟩ := hrel
    by_cases hlt : k < C.length
    · have hlt' : (k : Int) < (C.length : Int) := by omega
      have hk0 : (0 : Int) ≤ (k : Int) := by omega
      obtain ⟨b, o, rfl, hb, hX⟩ := HS.out (by omega)
      have c0 : w.cell? ⟨b, o + k, none⟩ = some (.int .i64 (C.getD k 0)) := hX k (by omega)
      obtain ⟨q, hq, hqs⟩ := HC.out k hlt
      have HQ := Lib.hid (holds_i g p st q S w hqs hst HF.out)
      have hgq : (C.getD k 0).toNat = q := by rw [hq]; simp
      rw [hq] at c0
      clear hX
      cases hv : S q
      · have HN := Lib.hid (show goneB S C C.length = false from goneB_no hlt (by rw [hgq]; exact hv))
        rw [hv] at HQ
        clear hv hgq hq
        go_wp2_with (go_at_call 90; refine (HQ.out).mono ?_; rintro e w' ⟨rfl, rfl⟩)
        go_ret
        exact ⟨⟨k, rfl, by rw [HN.out]; simp⟩, rfl⟩
      · have HN := Lib.hid (show goneB S C (k + 1) = true by unfold goneB; rw [HA.out, hgq, hv]; rfl)
        rw [hv] at HQ
        clear hv hgq hq
        go_wp2_with (go_at_call 90; refine (HQ.out).mono ?_; rintro e w' ⟨rfl, rfl⟩)
        go_round
        case rel => exact ⟨k + 1, by omega, by go_num, HN⟩
        case measure => simp [intOf]; omega
    · obtain rfl : k = C.length := by omega
      go_wp2
      go_ret
      exact ⟨⟨-1, rfl, by rw [HA.out]; rfl⟩, rfl⟩

set_option maxHeartbeats 1000000 in
theorem containsH_i (C : List Int) (A : Option Addr) (c g p st : Nat) (S : Nat → Bool) (w : World) (hn : C.length ≤ 40) (hC : ∀ j, j < C.length → ∃ k : Nat, C.getD j 0 = (k : Int) ∧ k < st) (hst : st ≤ 40) (hs : Sl w A C.length 1 (fun j => C.getD j 0)) (hf : Flags w g p st S) :
    Calls Try.prog 92 #[.slice A C.length c, (.func (.func 90) #[] #[.pointer (some ⟨p, 0, none⟩)])] w fun e w' => e = .returned (.bool (!goneB S C C.length)) ∧ w = w' := by
  have HI := Lib.hid (indexH_i C A c g p st S w hn hC hst hs hf)
  clear hC hs hf
  go_enter Try.func92, Try.ntmps92
  go_wp2_with fail
  refine HI.out.mono ?_
  rintro e w1 ⟨⟨v, rfl, hv⟩, rfl⟩
  have HV := Lib.hid hv
  clear hv
  go_wp2
  go_ret
  exact ⟨by rw [← HV.out]; rfl, rfl⟩


/-- what is known of the queue: the gone rods come out; whoever may come out next waits -/
structure Wait (s : ByteArray) (st : Nat) (S : Nat → Bool) (L : List Int) : Prop where
  out : ∀ k, k < st → S k = true → Out s st k
  mem : ∀ x ∈ L, ∃ k : Nat, x = (k : Int) ∧ k < st
  wait : ∀ k, k < st → S k = false → (k = 0 ∨ goneB S (ovL s st k s.size) (ovL s st k s.size).length = true) → (k : Int) ∈ L
theorem Wait.start {s : ByteArray} {st : Nat} : Wait s st (fun _ => false) ((List.range st).map (fun k => ((k : Nat) : Int))) := by
  refine ⟨fun k _ h => (by cases h), fun x hx => ?_, fun k hk _ _ => List.mem_map.2 ⟨k, List.mem_range.2 hk, rfl⟩⟩
  obtain ⟨k, hk, rfl⟩ := List.mem_map.1 hx
  exact ⟨k, rfl, List.mem_range.1 hk⟩
theorem gone_iff {s : ByteArray} {st k : Nat} {S : Nat → Bool} : goneB S (ovL s st k s.size) (ovL s st k s.size).length = true ↔ ∀ i, i < s.size → isB s i = true → S ((k + i + 1) % st) = true := by
  rw [goneB_iff]
  constructor
  · intro h i hi hb
    have hm : (((k + i + 1) % st : Nat) : Int) ∈ ovL s st k s.size := mem_ovL.2 ⟨i, hi, hb, rfl⟩
    obtain ⟨j, hj, e⟩ := List.getElem_of_mem hm
    have := h j hj
    rw [List.getD_eq_getElem?_getD, List.getElem?_eq_getElem hj] at this
    simp only [Option.getD_some] at this
    rw [e, Int.toNat_natCast] at this
    exact this
  · intro h j hj
    obtain ⟨i, hi, hb, e⟩ := mem_ovL.1 (getD_mem hj)
    rw [e, Int.toNat_natCast]
    exact h i hi hb
/-- the next one stays: it is gone, or held -/
theorem Wait.stay {s : ByteArray} {st k : Nat} {S : Nat → Bool} {L : List Int} (h : Wait s st S ((k : Int) :: L)) (hk : S k = true ∨ (k ≠ 0 ∧ goneB S (ovL s st k s.size) (ovL s st k s.size).length = false)) : Wait s st S L := by
  refine ⟨h.out, fun x hx => h.mem x (List.mem_cons_of_mem _ hx), fun j hj hs hw => ?_⟩
  rcases List.mem_cons.1 (h.wait j hj hs hw) with e | e
  · have : j = k := by omega
    subst this
    exfalso
    rcases hk with hk | ⟨hk1, hk2⟩
    · rw [hk] at hs; cases hs
    · rcases hw with hw | hw
      · exact hk1 hw
      · rw [hw] at hk2; cases hk2
  · exact e
/-- the next one goes -/
theorem Wait.go {s : ByteArray} {st k : Nat} {S : Nat → Bool} {L : List Int} (h : Wait s st S ((k : Int) :: L)) (hks : k < st) (h2 : s.size + 2 ≤ st) (hk : k = 0 ∨ goneB S (ovL s st k s.size) (ovL s st k s.size).length = true) :
    Wait s st (fun j => if j = k then true else S j) (L ++ unL s st k s.size) := by
  have hok : Out s st k := by
    rcases hk with e | e
    · rw [e]; exact .cut
    · exact .free hks fun i hi hb => h.out _ (Nat.mod_lt _ (by omega)) (gone_iff.1 e i hi hb)
  refine ⟨fun j hj hs => ?_, fun x hx => ?_, fun j hj hs hw => ?_⟩
  · by_cases e : j = k
    · rw [e]; exact hok
    · rw [if_neg e] at hs
      exact h.out j hj hs
  · rw [List.mem_append] at hx
    rcases hx with hx | hx
    · exact h.mem x (List.mem_cons_of_mem _ hx)
    · obtain ⟨i, _, _, rfl⟩ := mem_unL.1 hx
      exact ⟨_, rfl, Nat.mod_lt _ (by omega)⟩
  · have hne : j ≠ k := by rintro rfl; rw [if_pos rfl] at hs; cases hs
    rw [if_neg hne] at hs
    rw [List.mem_append]
    by_cases hold : j = 0 ∨ goneB S (ovL s st j s.size) (ovL s st j s.size).length = true
    · rcases List.mem_cons.1 (h.wait j hj hs hold) with e | e
      · exact absurd (by omega) hne
      · exact .inl e
    · right
      rcases hw with hw | hw
      · exact absurd (.inl hw) hold
      · have hw' := gone_iff.1 hw
        have hn : ¬ ∀ i, i < s.size → isB s i = true → S ((j + i + 1) % st) = true := fun hh => hold (.inr (gone_iff.2 hh))
        have : ∃ i, i < s.size ∧ isB s i = true ∧ (j + i + 1) % st = k := by
          apply Classical.byContradiction
          intro hc
          apply hn
          intro i hi hb
          have := hw' i hi hb
          rw [if_neg (fun e => hc ⟨i, hi, hb, e⟩)] at this
          exact this
        obtain ⟨i, hi, hb, e⟩ := this
        refine mem_unL.2 ⟨i, hi, hb, ?_⟩
        have hlt : j + i + 1 < st + st := by omega
        have hmod : (j + i + 1) % st = if j + i + 1 < st then j + i + 1 else j + i + 1 - st := by
          split
          · rename_i hh; exact Nat.mod_eq_of_lt hh
          · rename_i hh; rw [Nat.mod_eq_sub_mod (by omega), Nat.mod_eq_of_lt (by omega)]
        have hk2 : (k + st - (i + 1)) % st = j := by
          rw [← e, hmod]
          split
          · rename_i hh
            rw [show j + i + 1 + st - (i + 1) = j + st by omega, Nat.add_mod_right, Nat.mod_eq_of_lt hj]
          · rename_i hh
            rw [show j + i + 1 - st + st - (i + 1) = j by omega, Nat.mod_eq_of_lt hj]
        rw [hk2]
theorem Wait.done {s : ByteArray} {st : Nat} {S : Nat → Bool} (h : Wait s st S []) (h0 : 0 < st) : cntS S st = outN s st := by
  have key : ∀ k, k < st → (k = 0 ∨ goneB S (ovL s st k s.size) (ovL s st k s.size).length = true) → S k = true := fun k hk hw => by
    cases e : S k
    · exact absurd (h.wait k hk e hw) (by simp)
    · rfl
  exact outN_of ⟨key 0 h0 (.inl rfl), fun k hk hall => key k hk (.inr (gone_iff.2 hall))⟩ h.out

theorem info_bool : (Try.prog.info? 4).map (fun i => (i.zero, i.size, i.bytes)) = some (some (.bool false), 1, 1) := by kernel_rfl
theorem cnt_none : ∀ st, cntS (fun _ => false) st = 0
  | 0 => rfl
  | n + 1 => by unfold cntS; rw [cnt_none n]; rfl
/-- all that the loop knows of memory -/
structure Mid (w : World) (b g p B : Nat) (wr : World) (s : ByteArray) (st : Nat) (S : Nat → Bool) (L : List Int) (v : Value) : Prop where
  bord : BdBlk wr b s (st : Int)
  flags : Flags wr g p st S
  que : Que wr B v L
  ord : w.heap.size ≤ b ∧ b < g ∧ g < p ∧ p < B
  size : B ≤ wr.heap.size
  below : Below w.heap.size w wr
section
variable {w wr w1 : World} {b g p B st : Nat} {s : ByteArray} {S : Nat → Bool} {L L' : List Int} {v v' : Value}
theorem Mid.later (h : Mid w b g p B wr s st S L v) (hb : Below wr.heap.size wr w1) : Mid w b g p B w1 s st S L v := by
  have z := h.size
  have z2 := hb.size
  obtain ⟨o1, o2, o3, o4⟩ := h.ord
  exact ⟨h.bord.below hb (by omega), h.flags.below hb (by omega) (by omega), h.que.below hb (Nat.le_refl _), h.ord, by omega, h.below.trans (hb.mono (by omega))⟩
theorem Mid.queue (h : Mid w b g p B wr s st S L v) (hq : Que w1 B v' L') (hb : Below B wr w1) : Mid w b g p B w1 s st S L' v' := by
  have z := h.size
  have z2 := hb.size
  obtain ⟨o1, o2, o3, o4⟩ := h.ord
  exact ⟨h.bord.below hb (by omega), h.flags.below hb (by omega) (by omega), hq, h.ord, by omega, h.below.trans (hb.mono (by omega))⟩
theorem Mid.set (h : Mid w b g p B wr s st S L v) (k : Nat) : Mid w b g p B (wr.setCell ⟨g, k, none⟩ (.bool true)) s st (fun j => if j = k then true else S j) L v := by
  obtain ⟨o1, o2, o3, o4⟩ := h.ord
  refine ⟨(h.bord.of_block (Go.Deep.blk_setCell_other _ _ _ _ (by show b ≠ g; omega))), ⟨(h.flags.row.set k (.bool true)).congr fun j _ => ?_, ?_, ?_⟩, h.que.setOther (show g < B by omega) _, h.ord, by simpa using h.size, h.below.setCell (show w.heap.size ≤ g by omega) _⟩
  · by_cases e : j = k
    · simp [e]
    · simp [e]
  · have e := Go.Deep.blk_setCell_other wr ⟨g, k, none⟩ (.bool true) p (show p ≠ g by omega)
    have h0 := h.flags.var
    unfold World.cell? at h0 ⊢
    simpa only [e] using h0
  · simpa using h.flags.lt
end
set_option maxHeartbeats 4000000 in
theorem outW_i (s : ByteArray) (st : Nat) (w : World) (hs : bendB s = true) (hst : st ≤ 40) (h2 : s.size + 2 ≤ st) :
    Calls Try.prog 65 #[.agg #[.string s, .int .i64 (st : Int)]] w fun e w' => e = .returned (.int .i64 (outN s st : Nat)) ∧ Below w.heap.size w w' := by
  obtain ⟨h0, h8, _⟩ := bend_of hs
  obtain ⟨i0, hi0, hz0, hz1, hz2⟩ := info_parts info_num
  have hmk := run_make_rows (P := Try.prog) 92 4 _ 1 1 Try.underlying92 info_bool .i64 .i64 st (by omega) (by omega)
  go_enter Try.func65, Try.ntmps65
  go_wp2_with fail
  have M0 : Flags (((w.alloc (Obj.cells #[Value.string s, Value.int IntKind.i64 (st : Int)] 62)).alloc (Obj.cells (madeCells #[Value.bool false] st) 4)).alloc (Obj.cells #[Value.slice (some ⟨w.heap.size + 1, 0, none⟩) st st] 92)) (w.heap.size + 1) (w.heap.size + 1 + 1) st (fun _ => false) := by
    refine ⟨OwnV.below (w := (w.alloc (Obj.cells #[Value.string s, Value.int IntKind.i64 (st : Int)] 62)).alloc (Obj.cells (madeCells #[Value.bool false] st) 4)) (K := w.heap.size + 2) ?_ ((Below.refl _ _).alloc (by simp) _) (by omega), by go_simp, by simp⟩
    have := ownV_made (w.alloc (Obj.cells #[Value.string s, Value.int IntKind.i64 (st : Int)] 62)) #[Value.bool false] st st 4 (fun _ => .bool false) (fun i _ => by simp [Nat.mod_one]) (by simp) rfl
    simpa using this
  have K0 : BdBlk (((w.alloc (Obj.cells #[Value.string s, Value.int IntKind.i64 (st : Int)] 62)).alloc (Obj.cells (madeCells #[Value.bool false] st) 4)).alloc (Obj.cells #[Value.slice (some ⟨w.heap.size + 1, 0, none⟩) st st] 92)) w.heap.size s (st : Int) := by
    have k1 : BdBlk (w.alloc (Obj.cells #[Value.string s, Value.int IntKind.i64 (st : Int)] 62)) w.heap.size s (st : Int) := Go.Deep.blk_alloc_new _ _
    exact (k1.below (K := w.heap.size + 1) ((Below.refl _ _).alloc (by simp) _) (by omega)).below (K := w.heap.size + 1) ((Below.refl _ _).alloc (by simp) _) (by omega)
  have B0 : Below w.heap.size w (((w.alloc (Obj.cells #[Value.string s, Value.int IntKind.i64 (st : Int)] 62)).alloc (Obj.cells (madeCells #[Value.bool false] st) 4)).alloc (Obj.cells #[Value.slice (some ⟨w.heap.size + 1, 0, none⟩) st st] 92)) := by go_grown
  have Z0 : (((w.alloc (Obj.cells #[Value.string s, Value.int IntKind.i64 (st : Int)] 62)).alloc (Obj.cells (madeCells #[Value.bool false] st) 4)).alloc (Obj.cells #[Value.slice (some ⟨w.heap.size + 1, 0, none⟩) st st] 92)).heap.size = w.heap.size + 3 := by simp
  generalize (((w.alloc (Obj.cells #[Value.string s, Value.int IntKind.i64 (st : Int)] 62)).alloc (Obj.cells (madeCells #[Value.bool false] st) 4)).alloc (Obj.cells #[Value.slice (some ⟨w.heap.size + 1, 0, none⟩) st st] 92)) = W0 at *
  refine (indices_c st W0 (by omega)).mono ?_
  rintro e w1 ⟨gq, rfl, hgq, hown, hb1⟩
  have HM1 := Lib.hid (show Mid w w.heap.size (w.heap.size + 1) (w.heap.size + 1 + 1) (w.heap.size + 3) w1 s st (fun _ => false) ((List.range st).map (fun k => ((k : Nat) : Int))) (.slice (some ⟨gq, 0, none⟩) st st) from
    ⟨K0.below hb1 (by omega), M0.below hb1 (by omega) (by omega), Que.start hown (by omega) (by unfold maxLen; omega), ⟨by omega, by omega, by omega, by omega⟩, by have := hb1.size; omega, B0.trans (hb1.mono (by omega))⟩)
  clear hown hb1 M0 K0 B0 Z0 hgq hmk
  generalize w.heap.size + 3 = B at *
  generalize w.heap.size + 1 + 1 = p at *
  generalize w.heap.size + 1 = g at *
  have HV := Lib.hid (fun (k : Nat) (hk : k < st) W => over_i s st k W hs hk hst h2)
  have HU := Lib.hid (fun (k : Nat) (hk : k < st) W => under_i s st k W hs hk hst h2)
  have HW1 := Lib.hid (Wait.start (s := s) (st := st))
  have hc0 := cnt_none st
  have HC0 := Lib.hid hc0
  have hst0 : 0 < st := by omega
  clear hs hc0
  go_wp2_with fail
  go_loopw [5, 6] (fun n v wr => ∃ (S : Nat → Bool) (L : List Int), n = .int .i64 ((cntS S st : Nat) : Int) ∧ L.length ≤ st + 8 * cntS S st ∧ Hid (Mid w w.heap.size g p B wr s st S L v) ∧ Hid (Wait s st S L)) (fun n v _ => (st - (intOf n).toNat) * 10 + sliceLen v)
  case atStart => exact ⟨_, _, by rw [HC0.out]; rfl, by simp, HM1, HW1⟩
  case round =>
    clear HM1 HW1 HC0
    obtain ⟨S, L, rfl, hLc, HM, HT⟩ := hrel
    have hcs := cntS_le S st
    cases L with
    | nil =>
      obtain ⟨h, o, c, cur, rfl, _⟩ := HM.out.que
      have HF := Lib.hid (HT.out.done hst0)
      have HB := Lib.hid HM.out.below
      clear HM
      generalize cntS S st = q at *
      simp only [List.length_nil]
      go_wp2
      go_ret
      exact ⟨by rw [← HF.out]; rfl, HB.out⟩
    | cons x L =>
      obtain ⟨k, rfl, hk⟩ := HT.out.mem x List.mem_cons_self
      have HMid := Lib.hid HM.out
      obtain ⟨h, o, n, c, v', rfl, HN, hn0, hBh, ch, hsl, HQ⟩ := HM.out.que.cut
      have p0 := HM.out.bord.cell0
      have p1 := HM.out.bord.cell1
      have p2 := HM.out.flags.var
      have p3 := HM.out.flags.row.cell hk
      have p4 := HM.out.flags.row.frozen k
      have hks : (k : Int) < (st : Int) := by omega
      have hkp : (0 : Int) ≤ (k : Int) := by omega
      have hn1 : (0 : Int) < (n : Int) := by omega
      have HV2 := Lib.hid (HV.out k hk)
      have HU2 := Lib.hid (HU.out k hk)
      clear HM HV HU
      cases hS : S k
      · rw [hS] at p3
        have HST := Lib.hid hS
        clear hS
        by_cases hk0 : k = 0
        · have HT2 := Lib.hid (HT.out.go hk h2 (.inl hk0))
          have e0 : ((k : Int) == 0) = true := by rw [hk0]; rfl
          have HM2 := Lib.hid (HMid.out.queue HQ.out (Below.refl _ _))
          clear hk0 HV2 HMid HT
          have hput := cntS_put HST.out st
          rw [if_pos hk] at hput
          have HPUT := Lib.hid hput
          have hcs2 := cntS_le (fun j => if j = k then true else S j) st
          rw [hput] at hcs2
          have HM3 := Lib.hid (HM2.out.set k)
          have p5 := HM3.out.bord.cell0
          have p6 := HM3.out.bord.cell1
          have hne : ¬ w.heap.size = g := by have := HM2.out.ord; omega
          have hne2 : ¬ g = w.heap.size := by omega
          clear hput
          generalize hqc : cntS S st = q at *
          have HQC := Lib.hid hqc
          clear hqc
          go_wp2_with fail
          refine (HU2.out _).mono ?_
          rintro e w5 ⟨A5, c5, rfl, kc1, kc2, hrow5, hb5⟩
          have HM5 := Lib.hid (HM3.out.later hb5)
          have HR5 := Lib.hid hrow5
          have hul : (unL s st k s.size).length ≤ 8 := by rw [unL_len]; have := cntB_le s s.size; omega
          clear hrow5 hb5 HM3 HM2 HU2 p0 p1 p2 p3 p4 p5 p6
          have zB := HM5.out.size
          go_wp2_with (at_builtin; refine wpList_append_que _ rfl _ _ 26 rfl i0 Try.underlying26 hi0 hz0 hz1 hz2 B v' L (unL s st k s.size) rfl HM5.out.que A5 c5 rfl ?c1 zB ?c3 ?_)
          case c1 => intro h0; obtain ⟨gg, e1, _, _, ho⟩ := HR5.out h0; exact ⟨gg, e1, fun j hj => ho.cell (by omega)⟩
          case c3 => simp at hLc; omega
          intro v6 w6 hq6 hb6
          have HM6 := Lib.hid (HM5.out.queue hq6 hb6)
          have HV6 := Lib.hid hq6.len
          clear hq6 hb6 HM5 HR5
          go_wp2
          go_roundw
          case rel => exact ⟨fun j => if j = k then true else S j, L ++ unL s st k s.size, by rw [HPUT.out]; rfl, by rw [HPUT.out, List.length_append]; simp at hLc; omega, HM6, HT2⟩
          case measure => rw [HV6.out, List.length_append]; (first | rw [HQC.out] | skip); show (st - ((q : Int) + 1).toNat) * 10 + (L.length + (unL s st k s.size).length) < (st - ((q : Int)).toNat) * 10 + n; rw [HN.out]; omega
        · have e0 : ((k : Int) == 0) = false := beq_false_of_ne (by omega)
          have HK0 := Lib.hid hk0
          clear hk0
          go_wp2_with fail
          refine (HV2.out _).mono ?_
          rintro e w2 ⟨A2, c2, rfl, hc1, hc2, hrow, hb2⟩
          have HM2 := Lib.hid ((HMid.out.queue HQ.out (Below.refl _ _)).later hb2)
          have HR := Lib.hid hrow.sl
          have hcl : (ovL s st k s.size).length ≤ 40 := by rw [ovL_len]; have := cntB_le s s.size; omega
          have HCC := Lib.hid (fun W (h : Flags W g p st S) (hs : Sl W A2 (ovL s st k s.size).length 1 (fun j => (ovL s st k s.size).getD j 0)) => containsH_i (ovL s st k s.size) A2 c2 g p st S W hcl (fun j hj => by obtain ⟨i, _, _, e⟩ := mem_ovL.1 (getD_mem hj); exact ⟨_, e, Nat.mod_lt _ hst0⟩) hst hs h)
          have p0 := HM2.out.bord.cell0
          have p1 := HM2.out.bord.cell1
          have p2 := HM2.out.flags.var
          have p3 := HM2.out.flags.row.cell hk
          rw [HST.out] at p3
          have p4 := HM2.out.flags.row.frozen k
          clear hrow hb2 HV2 HMid
          go_wp2_with fail
          refine (HCC.out _ HM2.out.flags HR.out).mono ?_
          rintro e w3 ⟨rfl, rfl⟩
          cases hG : goneB S (ovL s st k s.size) (ovL s st k s.size).length
          · have HT2 := Lib.hid (HT.out.stay (.inr ⟨HK0.out, hG⟩))
            clear hG HCC HU2 HT
            have HVV := Lib.hid HQ.out.len
            generalize hqc : cntS S st = q at *
            have HQC := Lib.hid hqc
            clear hqc
            go_wp2
            go_roundw
            case rel => exact ⟨S, L, by rw [HQC.out], by rw [HQC.out]; simp at hLc; omega, HM2, HT2⟩
            case measure => (first | rw [HVV.out, HQC.out] | rw [HVV.out]); show (st - ((q : Int)).toNat) * 10 + L.length < (st - ((q : Int)).toNat) * 10 + n; rw [HN.out]; omega
          · have HT2 := Lib.hid (HT.out.go hk h2 (.inr hG))
            clear hG HCC HT HR
            have hput := cntS_put HST.out st
            rw [if_pos hk] at hput
            have HPUT := Lib.hid hput
            have hcs2 := cntS_le (fun j => if j = k then true else S j) st
            rw [hput] at hcs2
            have HM3 := Lib.hid (HM2.out.set k)
            have p5 := HM3.out.bord.cell0
            have p6 := HM3.out.bord.cell1
            have hne : ¬ w.heap.size = g := by have := HM2.out.ord; omega
            have hne2 : ¬ g = w.heap.size := by omega
            clear hput
            generalize hqc : cntS S st = q at *
            have HQC := Lib.hid hqc
            clear hqc
            go_wp2_with fail
            refine (HU2.out _).mono ?_
            rintro e w5 ⟨A5, c5, rfl, kc1, kc2, hrow5, hb5⟩
            have HM5 := Lib.hid (HM3.out.later hb5)
            have HR5 := Lib.hid hrow5
            have hul : (unL s st k s.size).length ≤ 8 := by rw [unL_len]; have := cntB_le s s.size; omega
            clear hrow5 hb5 HM3 HM2 HU2 p0 p1 p2 p3 p4 p5 p6
            have zB := HM5.out.size
            go_wp2_with (at_builtin; refine wpList_append_que _ rfl _ _ 26 rfl i0 Try.underlying26 hi0 hz0 hz1 hz2 B v' L (unL s st k s.size) rfl HM5.out.que A5 c5 rfl ?c1 zB ?c3 ?_)
            case c1 => intro h0; obtain ⟨gg, e1, _, _, ho⟩ := HR5.out h0; exact ⟨gg, e1, fun j hj => ho.cell (by omega)⟩
            case c3 => simp at hLc; omega
            intro v6 w6 hq6 hb6
            have HM6 := Lib.hid (HM5.out.queue hq6 hb6)
            have HV6 := Lib.hid hq6.len
            clear hq6 hb6 HM5 HR5
            go_wp2
            go_roundw
            case rel => exact ⟨fun j => if j = k then true else S j, L ++ unL s st k s.size, by rw [HPUT.out]; rfl, by rw [HPUT.out, List.length_append]; simp at hLc; omega, HM6, HT2⟩
            case measure => rw [HV6.out, List.length_append]; (first | rw [HQC.out] | skip); show (st - ((q : Int) + 1).toNat) * 10 + (L.length + (unL s st k s.size).length) < (st - ((q : Int)).toNat) * 10 + n; rw [HN.out]; omega
      · rw [hS] at p3
        have HT2 := Lib.hid (HT.out.stay (.inl hS))
        have HM2 := Lib.hid (HMid.out.queue HQ.out (Below.refl _ _))
        have HVV := Lib.hid HQ.out.len
        clear hS HV2 HU2 HMid
        generalize hqc : cntS S st = q at *
        have HQC := Lib.hid hqc
        clear hqc
        go_wp2
        go_roundw
        case rel => exact ⟨S, L, by rw [HQC.out], by rw [HQC.out]; simp at hLc; omega, HM2, HT2⟩
        case measure => (first | rw [HVV.out, HQC.out] | rw [HVV.out]); show (st - ((q : Int)).toNat) * 10 + L.length < (st - ((q : Int)).toNat) * 10 + n; rw [HN.out]; omega

set_option maxHeartbeats 1000000 in
theorem out_i_no (s : ByteArray) (a c : Int) (w : World) (hs : s.size ≤ 1048576) (hc : codeW s a = c) (h0 : c ≠ 0) :
    Calls Try.prog 27 #[.string s, .int .i64 a] w fun e w' => e = .returned (.tuple #[.int .i64 0, .int .i64 c]) ∧ Below w.heap.size w w' := by
  have HO := Lib.hid (fun W => newBorder_i_no s a c W hs hc h0)
  have hd1 : (c != 0) = true := by simp [h0]
  have hd2 : (c == 0) = false := by simp [h0]
  clear hc h0
  go_enter Try.func27, Try.ntmps27
  go_wp2_with fail
  refine (HO.out _).mono ?_
  rintro e w1 ⟨rfl, hb1⟩
  have g1 : Below w.heap.size w w1 := Below.trans (by go_grown) (hb1.mono (by first | (simp; done) | (simp; omega)))
  have z1 := g1.size
  clear hb1
  go_wp2
  go_returns
  exact ⟨rfl, by first | exact g1 | exact g1.alloc z1 _⟩

set_option maxHeartbeats 1000000 in
theorem out_i (s : ByteArray) (st : Nat) (w : World) (hs : bendB s = true) (hst : st ≤ 40) (h2 : s.size + 2 ≤ st) :
    Calls Try.prog 27 #[.string s, .int .i64 (st : Int)] w fun e w' => e = .returned (.tuple #[.int .i64 (outN s st : Nat), .int .i64 0]) ∧ Below w.heap.size w w' := by
  have h8 := (bend_of hs).2.1
  have HW := Lib.hid (fun W => outW_i s st W hs hst h2)
  generalize outN s st = q at *
  have HO := Lib.hid (fun W => newBorder_i s (st : Int) W (codeW_yes hs (inB_yes (by omega) (by omega))))
  go_enter Try.func27, Try.ntmps27
  go_wp2_with fail
  refine (HO.out _).mono ?_
  rintro e w1 ⟨rfl, hb1⟩
  have g1 : Below w.heap.size w w1 := Below.trans (by go_grown) (hb1.mono (by first | (simp; done) | (simp; omega)))
  have z1 := g1.size
  clear hb1
  go_wp2_with fail
  refine (HW.out _).mono ?_
  rintro e w2 ⟨rfl, hb2⟩
  have g2 : Below w.heap.size w w2 := (g1.alloc z1 _).trans (hb2.mono (by simp; omega))
  clear hb2 g1
  go_wp2
  go_returns
  exact ⟨rfl, g2⟩

end Go.Proofs.Ytgfnagkelhbplaa.brd
