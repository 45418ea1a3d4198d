/-
  A map of the call's own from texts to true; the turns of a text, and its period, of the program. No condition of a statement lies here.
-/
import Derived.Test.YtopiecbldnhihaaDoorQf
import Derived.Test.YtopiecbldnhihaaDoorQe
import Derived.Maps.Own
import Derived.Maps.OwnOps
import Derived.StringKeys
namespace Go.Proofs.YtopiecbldnhihaaDoor.twl
open Go.ChangeShapes Go.WideShapes Go.ChangeAt Go.RowKit Go.Deep Go.Proofs.YtopiecbldnhihaaDoor.mem Go.Proofs.YtopiecbldnhihaaDoor.rod Go.Proofs.YtopiecbldnhihaaDoor.nums Go.Proofs.YtopiecbldnhihaaDoor.shp Go.Proofs.YtopiecbldnhihaaDoor.wv Go.Proofs.YtopiecbldnhihaaDoor.wk
open Go.MapKept Go.ChangeMaps
set_option linter.unusedVariables false
set_option maxRecDepth 100000

theorem set_same {α : Type} {l : List α} {j : Nat} {a : α} (h : l[j]? = some a) : l.set j a = l := by
  apply List.ext_getElem?
  intro i
  rw [List.getElem?_set]
  split
  · rename_i e
    subst e
    rw [h]
    have := (List.getElem?_eq_some_iff.1 h).1
    simp [this]
  · rfl
/-- block b is a map of true at just the texts of L, one after the other -/
def TM (w : World) (b : Nat) (L : List ByteArray) : Prop :=
  ∃ es clock, w.heap[b]? = some (.map es clock) ∧ es.toList.map (·.key) = L.map Value.string ∧ (∀ e ∈ es.toList, e.val = .bool true) ∧ ∀ s ∈ L, s.size ≤ 12
theorem TM.lt {w : World} {b : Nat} {L : List ByteArray} (h : TM w b L) : b < w.heap.size := by
  obtain ⟨es, clock, hb, _⟩ := h
  exact (Array.getElem?_eq_some_iff.1 hb).1
theorem TM.of_block {w w' : World} {b : Nat} {L : List ByteArray} (h : TM w b L) (e : w'.heap[b]? = w.heap[b]?) : TM w' b L := by
  obtain ⟨es, clock, hb, r⟩ := h
  exact ⟨es, clock, e.trans hb, r⟩
theorem TM.below {w w' : World} {b K : Nat} {L : List ByteArray} (h : TM w b L) (hb : Below K w w') (hK : b < K) : TM w' b L := h.of_block (hb.block b hK)
theorem tm_made (w : World) : TM (w.alloc (.map #[] 0)) w.heap.size [] := ⟨#[], 0, (MapKept.heap_alloc w _).1, by simp, by simp, by simp⟩
theorem tm_key {s : ByteArray} (hs : s.size ≤ 12) : keyOf Tryd.prog 9 (.string s) = some (.string s.data.toList) := WideMaps.keyOf_string_mk Tryd.underlying9 (by unfold maxLen; omega)
theorem tm_keys {es : Array MapEntry} {L : List ByteArray} (hk : es.toList.map (·.key) = L.map Value.string) (hL : ∀ s ∈ L, s.size ≤ 12) : ∀ e ∈ es.toList, ∃ l, keyOf Tryd.prog 9 e.key = some l := fun e he => by
  have : e.key ∈ es.toList.map (·.key) := List.mem_map.2 ⟨e, he, rfl⟩
  rw [hk] at this
  obtain ⟨s, hs, e2⟩ := List.mem_map.1 this
  exact ⟨_, by rw [← e2]; exact tm_key (hL s hs)⟩
theorem tm_law : WideMaps.KeyLaw Tryd.prog 9 := WideMaps.string_law Tryd.underlying9
theorem tm_mem {es : Array MapEntry} {L : List ByteArray} (hk : es.toList.map (·.key) = L.map Value.string) (s : ByteArray) : (∃ e ∈ es.toList, e.key = .string s) ↔ s ∈ L := by
  have h1 : Value.string s ∈ es.toList.map (·.key) ↔ Value.string s ∈ L.map Value.string := by rw [hk]
  rw [List.mem_map, List.mem_map] at h1
  constructor
  · intro h
    obtain ⟨t, ht, e⟩ := h1.1 h
    injection e with e
    rw [← e]; exact ht
  · intro h
    exact h1.2 ⟨s, h, rfl⟩
def hasT (L : List ByteArray) (s : ByteArray) : Bool := L.any fun t => decide (t = s)
theorem hasT_iff {L : List ByteArray} {s : ByteArray} : hasT L s = true ↔ s ∈ L := by
  unfold hasT
  rw [List.any_eq_true]
  constructor
  · rintro ⟨t, ht, e⟩
    rw [decide_eq_true_eq] at e
    rw [← e]; exact ht
  · exact fun h => ⟨s, h, decide_eq_true rfl⟩
theorem hasT_no {L : List ByteArray} {s : ByteArray} (h : ¬ s ∈ L) : hasT L s = false := by
  cases e : hasT L s
  · rfl
  · exact absurd (hasT_iff.1 e) h
/-- what a store of true leaves -/
def tmPut (L : List ByteArray) (s : ByteArray) : List ByteArray := if hasT L s = true then L else L ++ [s]
theorem TM.update {w : World} {b : Nat} {L : List ByteArray} (h : TM w b L) {s : ByteArray} (hs : s.size ≤ 12) :
    ∃ w', (Instr.mapUpdate 76 (.map (some b)) (.string s) (.bool true)).run Tryd.prog w = .ok () w' ∧ TM w' b (tmPut L s) ∧ w.grownBy w' (some b) := by
  obtain ⟨es, clock, hb, h1, h2, h3⟩ := h
  have hkey := tm_key hs
  rcases tm_law.find w hkey es.toList (tm_keys h1 h3) with ⟨f1, f2⟩ | ⟨j, e0, f1, f2, f3⟩
  · have hno : ¬ s ∈ L := fun hm => by
      obtain ⟨e, he, e2⟩ := (tm_mem h1 s).2 hm
      exact f2 e he e2
    unfold tmPut
    rw [if_neg (by rw [hasT_no hno]; simp)]
    refine ⟨setBlock w b (.map (es.push ⟨.string s, .bool true, clock⟩) (clock + 1)), ?_, ⟨_, _, heap_setBlock_same hb _, ?_, ?_, ?_⟩, ⟨rfl, rfl, rfl, by simp [setBlock], fun i _ hi => heap_setBlock_other hb _ (fun e => hi (by rw [e]))⟩⟩
    · simp [Instr.mapUpdate, run_underlying Tryd.underlying76, MapKept.run_getObj_map hb, tm_law.check w false hkey, f1, MapKept.run_setObj_map _ hb, Result.andThen, setBlock]
    · rw [Array.toList_push, List.map_append, List.map_append, h1]; rfl
    · intro x hx
      simp only [Array.toList_push, List.mem_append, List.mem_singleton] at hx
      rcases hx with hx | rfl
      · exact h2 x hx
      · rfl
    · intro t ht
      rcases List.mem_append.1 ht with ht | ht
      · exact h3 t ht
      · rw [List.mem_singleton.1 ht]; exact hs
  · have hj : es[j]? = some e0 := by simpa using f2
    have hjl : j < es.toList.length := (List.getElem?_eq_some_iff.1 f2).1
    have hyes : s ∈ L := (tm_mem h1 s).1 ⟨e0, List.mem_of_getElem? f2, f3⟩
    have hlist : (es.modify j (fun e' => { e' with key := .string s, val := .bool true })).toList = es.toList.set j { e0 with key := .string s, val := .bool true } := by rw [Array.toList_modify, modify_eq_set _ _ _ _ f2]
    unfold tmPut
    rw [if_pos (hasT_iff.2 hyes)]
    refine ⟨setBlock w b (.map (es.modify j (fun e' => { e' with key := .string s, val := .bool true })) clock), ?_, ⟨_, _, heap_setBlock_same hb _, ?_, ?_, h3⟩, ⟨rfl, rfl, rfl, by simp [setBlock], fun i _ hi => heap_setBlock_other hb _ (fun e => hi (by rw [e]))⟩⟩
    · simp [Instr.mapUpdate, run_underlying Tryd.underlying76, MapKept.run_getObj_map hb, tm_law.check w false hkey, f1, hj, f3, tm_law.stays w hkey, MapKept.run_setObj_map _ hb, Result.andThen, setBlock]
    · rw [hlist, List.map_set, ← h1]
      refine set_same ?_
      rw [List.getElem?_map, f2]
      show some e0.key = some (Value.string s)
      rw [f3]
    · intro x hx
      rw [hlist] at hx
      rcases List.mem_or_eq_of_mem_set hx with hx | rfl
      · exact h2 x hx
      · rfl
theorem TM.lookup {w : World} {b : Nat} {L : List ByteArray} (h : TM w b L) {s : ByteArray} (hs : s.size ≤ 12) : (Instr.lookup 76 (.map (some b)) (.string s) false).run Tryd.prog w = .ok (.bool (hasT L s)) w := by
  obtain ⟨es, clock, hb, h1, h2, h3⟩ := h
  have hkey := tm_key hs
  have hz : (zeroValue 4).run Tryd.prog w = .ok (.bool false) w := Tryd.zeroValue4 w
  rcases tm_law.find w hkey es.toList (tm_keys h1 h3) with ⟨f1, f2⟩ | ⟨j, e0, f1, f2, f3⟩
  · have hno : ¬ s ∈ L := fun hm => by
      obtain ⟨e, he, e2⟩ := (tm_mem h1 s).2 hm
      exact f2 e he e2
    rw [hasT_no hno]
    simp [Instr.lookup, run_underlying Tryd.underlying76, MapKept.run_getObj_map hb, tm_law.check w _ hkey, f1, hz, Result.andThen]
  · have hm : e0 ∈ es.toList := List.mem_of_getElem? f2
    have hyes : s ∈ L := (tm_mem h1 s).1 ⟨e0, hm, f3⟩
    rw [hasT_iff.2 hyes]
    simp [Instr.lookup, run_underlying Tryd.underlying76, MapKept.run_getObj_map hb, tm_law.check w _ hkey, f1, h2 e0 hm, Result.andThen]
theorem TM.size {w : World} {b : Nat} {L : List ByteArray} (h : TM w b L) : ∃ es clock, w.heap[b]? = some (.map es clock) ∧ es.size = L.length := by
  obtain ⟨es, clock, hb, h1, _⟩ := h
  refine ⟨es, clock, hb, ?_⟩
  have := congrArg List.length h1
  simpa using this

theorem wpList_mapUpdate_tm (w : World) {ops : Array Oper} {rest : List Oper} {o : Oper} {a : Act} {Q : Exit → Act → World → Prop}
    (hg : o.guard = none) (m x v : Operand) (hop : o.op = Op.mapUpdate 76 m x v) (b : Nat) (L : List ByteArray)
    (hm : a.eval m = .map (some b)) (hgm : TM w b L) (s : ByteArray) (hx : a.eval x = .string s) (hv : a.eval v = .bool true) (hs : s.size ≤ 12)
    (hK : ∀ w', TM w' b (tmPut L s) → w.grownBy w' (some b) → wpList Tryd.prog ops Q rest (a.put o.dst undef) w') :
    wpList Tryd.prog ops Q (o :: rest) a w := by
  refine wpList_plain hg fun K' hK' => ?_
  obtain ⟨w', hrun, r1, r2⟩ := hgm.update hs
  unfold Oper.wp
  simp [execOp, hop, hm, hx, hv, hrun, Result.andThen]
  exact hK' _ _ (hK w' r1 r2)

/-- the first k turns, each once -/
def turnL (s : ByteArray) (k : Nat) : List ByteArray := (List.range k).map (tB s)
theorem turnL_succ (s : ByteArray) (k : Nat) : turnL s (k + 1) = turnL s k ++ [tB s k] := by unfold turnL; rw [List.range_succ, List.map_append]; rfl
theorem turnL_mem {s t : ByteArray} {k : Nat} : t ∈ turnL s k ↔ ∃ j, j < k ∧ tB s j = t := by unfold turnL; rw [List.mem_map]; simp
/-- the next turn is put there, if it is another one -/
theorem tmPut_turn {s : ByteArray} {p k : Nat} (h0 : 0 < s.size) (hp : Per s p) (hk : k < s.size) : tmPut (turnL s (min k p)) (tB s k) = turnL s (min (k + 1) p) := by
  have hpl := hp.le
  have hpp := hp.pos
  unfold tmPut
  by_cases h : k < p
  · rw [if_neg ?_, Nat.min_eq_left (by omega), Nat.min_eq_left (by omega), turnL_succ]
    rw [Nat.min_eq_left (by omega), hasT_iff, turnL_mem]
    rintro ⟨j, hj, e⟩
    rw [turn_eq h0 hp (by omega) (by omega), Nat.mod_eq_of_lt (by omega), Nat.mod_eq_of_lt h] at e
    omega
  · rw [if_pos ?_, Nat.min_eq_right (by omega), Nat.min_eq_right (by omega)]
    rw [Nat.min_eq_right (by omega), hasT_iff, turnL_mem]
    have hm := Nat.mod_lt k (show 0 < p by omega)
    refine ⟨k % p, hm, ?_⟩
    rw [turn_eq h0 hp (by omega) (by omega), Nat.mod_mod]

set_option maxHeartbeats 2000000 in
theorem turns_i (s : ByteArray) (P : Nat) (w : World) (h0 : 0 < s.size) (hs : s.size ≤ 12) (hp : Per s P) :
    Calls Tryd.prog 57 #[.string s] w fun e w' => ∃ b, e = .returned (.map (some b)) ∧ w.heap.size ≤ b ∧ TM w' b (turnL s P) ∧ Below w.heap.size w w' := by
  have hmm := @run_makeMap Tryd.prog
  have HG0 := Lib.hid (tm_made w)
  have HT := Lib.hid (fun k (hk : k < s.size) => tmPut_turn h0 hp hk)
  have HPm : min s.size P = P := Nat.min_eq_right hp.le
  have hz0 : turnL s (min 0 P) = [] := by rw [Nat.zero_min]; rfl
  rw [← hz0] at HG0
  clear hz0 hp
  go_enter Tryd.func57, Tryd.ntmps57
  go_wp2_with fail
  go_loopw [8] (fun i wr => ∃ k : Nat, k ≤ s.size ∧ i = .int .i64 (k : Int) ∧ Hid (TM wr w.heap.size (turnL s (min k P))) ∧ Below w.heap.size w wr) (fun i _ => s.size - (intOf i).toNat)
  case atStart => exact ⟨0, by omega, rfl, HG0, (Below.refl _ _).alloc (Nat.le_refl _) _⟩
  case round =>
    obtain ⟨k, hk, rfl, htm, hbl⟩ := hrel
    have HB := Lib.hid hbl
    have hzz := hbl.size
    clear hbl
    by_cases hlt : k < s.size
    · have hlt' : (k : Int) < (s.size : Int) := by omega
      have HTK := Lib.hid (HT.out k hlt)
      have hsz : (tB s k).size ≤ 12 := by rw [tB_size s (by omega)]; exact hs
      generalize hL : turnL s (min k P) = L at *
      go_wp2_with (first
        | (go_at_call 71; refine (turnT_i s k _ hs (by omega)).mono ?_; rintro e w2 ⟨rfl, q, rfl⟩; have G2 := Lib.hid (htm.out.of_block (w' := wr.drewN q) rfl); have B2 := Lib.hid (drewN_below HB.out q))
        | (at_mapUpdate; refine wpList_mapUpdate_tm _ rfl _ _ _ rfl w.heap.size L rfl G2.out (tB s k) rfl rfl hsz ?_; intro w3 htm3 hgrow; have g3 := Lib.hid (B2.out.grown hgrow (by first | omega | (simp; omega)) (fun j e => by cases e; exact Nat.le_refl _)); have G3 := Lib.hid htm3; rw [HTK.out] at G3; clear htm3 hgrow))
      go_roundw
      case rel => exact ⟨k + 1, by omega, by go_num, G3, g3.out⟩
      case measure => simp [intOf]; omega
    · obtain rfl : k = s.size := by omega
      rw [HPm] at htm
      go_wp2
      go_ret
      exact ⟨_, rfl, Nat.le_refl _, htm.out, HB.out⟩

end Go.Proofs.YtopiecbldnhihaaDoor.twl
