/-
  Contracts: whether a stake is held on both sides; what the library's DeleteFunc leaves of the indices; the loose stakes; of the program.
  Contracts: how a weaver lies at the stakes of a round and at a stake in the rounds, of the model.
  Contracts: the loose stakes, of the program and of the model; whether a weave is sound.
  Contracts: how a weaver lies at the stakes of a round and at a stake in the rounds, of the program; RoundOf of both.
-/
import Derived.Test.YtopiecbldnhihaaDoorFold7
import Derived.Test.YtopiecbldnhihaaDoorFold1
import Derived.Lib.SliceRun
import Derived.Lib.Slices
import Derived.Laws.IdiomCopy
import Derived.Test.YtopiecbldnhihaaDoorFold4
import Derived.Test.YtopiecbldnhihaaDoorWl
namespace Go.Proofs.YtopiecbldnhihaaDoor.wk
open Go.ChangeShapes Go.WideShapes Go.ChangeAt Go.RowKit
open Go.Proofs.YtopiecbldnhihaaDoor.mem Go.Proofs.YtopiecbldnhihaaDoor.rod Go.Proofs.YtopiecbldnhihaaDoor.wv Go.Proofs.YtopiecbldnhihaaDoor.gm
set_option linter.unusedVariables false

/-! ### the row -/
theorem Own.past {w : World} {g n i : Nat} {E : TypeId} {X : Nat → Int} (h : Own w g E n X) (hi : n ≤ i) (v : Value) : Own (w.setCell ⟨g, i, none⟩ v) g E n X := by
  obtain ⟨c, hb, hn, hc⟩ := h
  refine ⟨c.setIfInBounds i v, ?_, by simpa using hn, fun j hj => ?_⟩
  · simp [World.setCell, Array.getElem?_modify, hb]
  · rw [Array.getElem?_setIfInBounds, if_neg (by omega)]
    exact hc j hj
theorem Own.pasts {g n : Nat} {E : TypeId} {X : Nat → Int} : ∀ (vs : List Value) {w : World} {i : Nat}, Own w g E n X → n ≤ i → Own (w.setCells g i vs) g E n X
  | [], _, _, h, _ => h
  | v :: vs, _, _, h, hi => Own.pasts vs (Own.past h hi v) (by omega)
theorem wroteIn_cells {w : World} {lo hi g : Nat} (h1 : lo ≤ g) (h2 : g < hi) : ∀ (vs : List Value) {w' : World} {i : Nat}, WroteIn w w' lo hi → WroteIn w (w'.setCells g i vs) lo hi
  | [], _, _, h => h
  | v :: vs, _, _, h => wroteIn_cells h1 h2 vs (h.set h1 h2 v)

theorem idxs_full {p : Nat → Bool} : ∀ {n : Nat}, (∀ j, j < n → p j = true) → (idxs p n).length = n
  | 0, _ => rfl
  | n + 1, h => by rw [idxs_yes (h n (by omega)), List.length_append, idxs_full (fun j hj => h j (by omega))]; rfl
theorem idxs_all {p : Nat → Bool} : ∀ {n : Nat}, (∀ j, j < n → p j = true) → ∀ t, t < n → (idxs p n).getD t 0 = (t : Int)
  | 0, _, t, ht => by omega
  | n + 1, h, t, ht => by
    have hl := idxs_full (p := p) (n := n) (fun j hj => h j (by omega))
    rw [idxs_yes (h n (by omega))]
    by_cases e : t = n
    · subst e
      rw [List.getD_eq_getElem?_getD, List.getElem?_append_right (by omega), hl]; simp
    · rw [List.getD_eq_getElem?_getD, List.getElem?_append_left (by omega), ← List.getD_eq_getElem?_getD]
      exact idxs_all (fun j hj => h j (by omega)) t (by omega)
/-- the answer is a row of its own, and nothing else is as it was not -/
def Left (w : World) (g n : Nat) (l : List Int) (e : Ending) (w' : World) : Prop :=
  e = .returned (.slice (some ⟨g, 0, none⟩) l.length n) ∧ Own w' g 2 l.length (fun j => l.getD j 0) ∧ WroteIn w w' g (g + 1)
theorem idxs_first {q : Nat → Bool} {i : Nat} (h : ∀ j, j < i → q j = true) (hi : q i = false) : (idxs q (i + 1)).length = i ∧ ∀ t, t < i → (idxs q (i + 1)).getD t 0 = (t : Int) := by
  rw [idxs_no hi]
  exact ⟨idxs_full h, idxs_all h⟩
theorem getD_snoc {l : List Int} {x : Int} {t : Nat} (h : t ≤ l.length) : (l ++ [x]).getD t 0 = if t = l.length then x else l.getD t 0 := by
  by_cases e : t = l.length
  · rw [if_pos e, e, List.getD_eq_getElem?_getD, List.getElem?_append_right (Nat.le_refl _)]; simp
  · rw [if_neg e, List.getD_eq_getElem?_getD, List.getElem?_append_left (by omega), ← List.getD_eq_getElem?_getD]

end Go.Proofs.YtopiecbldnhihaaDoor.wk

namespace Go.Proofs.YtopiecbldnhihaaDoor.wk
open Go.ChangeShapes Go.WideShapes Go.ChangeAt Go.RowKit
open Go.Proofs.YtopiecbldnhihaaDoor.mem Go.Proofs.YtopiecbldnhihaaDoor.rod Go.Proofs.YtopiecbldnhihaaDoor.wv
set_option linter.unusedVariables false

theorem info_u8 : (Tryd.prog.info? 5).map (fun i => (i.zero, i.size, i.bytes)) = some (some (.int .u8 0), 1, 1) := by kernel_rfl

end Go.Proofs.YtopiecbldnhihaaDoor.wk

namespace Go.Proofs.YtopiecbldnhihaaDoor.wk
open Go.ChangeShapes Go.WideShapes Go.ChangeAt Go.RowKit
open Go.Proofs.YtopiecbldnhihaaDoor.mem Go.Proofs.YtopiecbldnhihaaDoor.rod Go.Proofs.YtopiecbldnhihaaDoor.wv Go.Proofs.YtopiecbldnhihaaDoor.gm Go.Proofs.YtopiecbldnhihaaDoor.nums
set_option linter.unusedVariables false

/-- the loose stakes as numbers -/
def looseL (s : ByteArray) (n : Nat) : List Int := idxs (looseB (byteAt s) s.size n) n
theorem looseL_len (s : ByteArray) (n : Nat) : (looseL s n).length ≤ n := idxs_len _ _
theorem idxs_filter (p : Nat → Bool) (n : Nat) : idxs p n = ((List.range n).filter p).map (fun (i : Nat) => (i : Int)) := by
  induction n with
  | zero => rfl
  | succ n ih =>
    rw [List.range_succ, List.filter_append, List.map_append, ← ih]
    show idxs p n ++ _ = _
    cases h : p n <;> simp [h]
theorem looseL_nil (s : ByteArray) (n : Nat) : looseL s n = [] ↔ loose (byteAt s) s.size n = [] := by
  unfold looseL loose
  rw [idxs_filter]
  simp

/-! ### the model's loose stakes -/
theorem frun_mk (g : Nat → UInt8) {m : Nat} (hm : 0 < m) : frun (byteAt (mkB g m)) (mkB g m).size = frun (fun i => ((g i).toNat : Int)) m := by
  unfold frun
  rw [mkB_size]
  have e : cyc (byteAt (mkB g m)) m = cyc (fun i => ((g i).toNat : Int)) m := funext fun i => by
    unfold cyc
    exact mkB_byte g (Nat.mod_lt _ hm)
  rw [e]
theorem lrun_mk (g : Nat → UInt8) {m : Nat} (hm : 0 < m) : lrun (byteAt (mkB g m)) (mkB g m).size = lrun (fun i => ((g i).toNat : Int)) m := by
  unfold lrun
  rw [mkB_size]
  have e : cyc (byteAt (mkB g m)) m = cyc (fun i => ((g i).toNat : Int)) m := funext fun i => by
    unfold cyc
    exact mkB_byte g (Nat.mod_lt _ hm)
  rw [e]
theorem stk_U (s : ByteArray) (n k : Nat) : stk (byteAt s) s.size n k = fun r => ((sideU s n r k).toNat : Int) := funext fun r => sideU_at s n r k

end Go.Proofs.YtopiecbldnhihaaDoor.wk

namespace Go.Proofs.YtopiecbldnhihaaDoor.wk
open Go.ChangeShapes Go.WideShapes Go.ChangeAt Go.RowKit
open Go.Proofs.YtopiecbldnhihaaDoor.mem Go.Proofs.YtopiecbldnhihaaDoor.rod Go.Proofs.YtopiecbldnhihaaDoor.wv
set_option linter.unusedVariables false

end Go.Proofs.YtopiecbldnhihaaDoor.wk
