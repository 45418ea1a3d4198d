/-
  A row of the call's own whose cells hold any values. No function of the program lies here.
-/
import Derived.Test.YtgfnagkelhbplaaMem
import Derived.OwnWalk
namespace Go.Proofs.Ytgfnagkelhbplaa.mem
open Go.ChangeShapes Go.WideShapes Go.ChangeAt Go.RowKit
set_option linter.unusedVariables false

/-- block g is a row of its own, whose first n cells are as told -/
def OwnV (w : World) (g : Nat) (E : TypeId) (n : Nat) (V : Nat → Value) : Prop :=
  ∃ c : Array Value, w.heap[g]? = some (.cells c E (0, 0)) ∧ n ≤ c.size ∧ ∀ i, i < n → c[i]? = some (V i)
section
variable {w w' : World} {g n : Nat} {E : TypeId} {V U : Nat → Value}
theorem OwnV.cell (h : OwnV w g E n V) {j : Nat} (hj : j < n) : w.cell? ⟨g, j, none⟩ = some (V j) := by
  obtain ⟨c, hb, _, hc⟩ := h
  simp [World.cell?, hb, hc j hj]
theorem OwnV.lt (h : OwnV w g E n V) : g < w.heap.size := by
  obtain ⟨c, hb, _, _⟩ := h
  obtain ⟨hlt, _⟩ := Array.getElem?_eq_some_iff.1 hb
  exact hlt
theorem OwnV.frozen (h : OwnV w g E n V) (j : Nat) : w.frozen? ⟨g, j, none⟩ = false := by
  obtain ⟨c, hb, _, _⟩ := h
  simp [World.frozen?, hb]
theorem OwnV.congr (h : OwnV w g E n V) (e : ∀ j, j < n → V j = U j) : OwnV w g E n U := by
  obtain ⟨c, hb, hn, hc⟩ := h
  exact ⟨c, hb, hn, fun i hi => by rw [hc i hi, e i hi]⟩
theorem OwnV.of_block (h : OwnV w g E n V) (e : w'.heap[g]? = w.heap[g]?) : OwnV w' g E n V := by
  obtain ⟨c, hb, hn, hc⟩ := h
  exact ⟨c, e.trans hb, hn, hc⟩
theorem OwnV.below {K : Nat} (h : OwnV w g E n V) (hb : Below K w w') (hK : g < K) : OwnV w' g E n V := h.of_block (hb.block g hK)
theorem OwnV.set (h : OwnV w g E n V) (i : Nat) (v : Value) : OwnV (w.setCell ⟨g, i, none⟩ v) g E n (fun j => if j = i then v else V j) := by
  obtain ⟨c, hb, hn, hc⟩ := h
  refine ⟨c.setIfInBounds i v, ?_, by simpa using hn, fun j hj => ?_⟩
  · simp [World.setCell, Array.getElem?_modify, hb]
  · rw [Array.getElem?_setIfInBounds]
    by_cases e : j = i
    · subst e
      simp [show j < c.size by omega]
    · rw [if_neg (fun h => e h.symm)]
      show c[j]? = some (if j = i then v else V j)
      rw [if_neg e]
      exact hc j hj
theorem OwnV.setOther (h : OwnV w g E n V) {a : Addr} (ha : g ≠ a.block) (v : Value) : OwnV (w.setCell a v) g E n V := h.of_block (Go.Deep.blk_setCell_other _ _ _ _ ha)
theorem ownV_type {w : World} {g n n' : Nat} {E E' : TypeId} {V : Nat → Value} {X : Nat → Int} (h : OwnV w g E n V) (h' : Own w g E' n' X) : E = E' := by
  obtain ⟨c, hb, _⟩ := h
  obtain ⟨c', hb', _⟩ := h'
  rw [hb] at hb'
  injection hb' with hb'
  injection hb' with _ hb'
end
theorem ownV_made (w : World) (z : Array Value) (m n : Nat) (E : TypeId) (V : Nat → Value) (hz : ∀ i, i < n → z[i % z.size]? = some (V i)) (hm : 0 < z.size) (hn : m = n) : OwnV (w.alloc (.cells (madeCells z m) E)) w.heap.size E n V := by
  subst hn
  refine ⟨_, Go.Deep.blk_alloc_new _ _, Nat.le_of_eq (size_madeCells _ _).symm, fun i hi => ?_⟩
  have h1 : i % z.size < z.size := Nat.mod_lt _ hm
  have h2 := hz i hi
  simp only [madeCells, Array.getElem?_map, Array.getElem?_range, hi, if_true, Option.map_some]
  rw [getElem!_pos z (i % z.size) h1]
  rwa [Array.getElem?_eq_getElem h1] at h2

theorem OwnV.wrote {w w' : World} {g n lo hi : Nat} {E : TypeId} {V : Nat → Value} (h : OwnV w g E n V) (hw : WroteIn w w' lo hi) (hd : ¬ (lo ≤ g ∧ g < hi)) : OwnV w' g E n V := h.of_block (hw.block g h.lt hd)
theorem ownV_of_owns {w : World} {B n size : Nat} {E : TypeId} {v : Value} {V : Nat → Value} (h : w.ownsRow B E size v n ((List.range (n * size)).map V)) :
    ∃ A c, v = .slice A n c ∧ n ≤ c ∧ c ≤ maxLen ∧ (0 < n → ∃ g, A = some ⟨g, 0, none⟩ ∧ B ≤ g ∧ g < w.heap.size ∧ OwnV w g E (n * size) V) := by
  obtain ⟨hl, h⟩ := h
  rcases h with ⟨rfl, rfl⟩ | ⟨g, cap, cur, rfl, hB, hh, hc, hm, hs, ht⟩
  · exact ⟨none, 0, rfl, Nat.le_refl _, by unfold maxLen; omega, fun h => absurd h (by omega)⟩
  · refine ⟨_, _, rfl, hc, hm, fun hn => ⟨g, rfl, hB, ?_, cur, hh, ?_, fun i hi => ?_⟩⟩
    · obtain ⟨hlt, _⟩ := Array.getElem?_eq_some_iff.1 hh
      exact hlt
    · rw [hs]; exact Nat.mul_le_mul_right _ hc
    · have e1 : cur[i]? = cur.toList[i]? := by simp
      have e2 : cur.toList[i]? = (cur.toList.take (n * size))[i]? := by rw [List.getElem?_take_of_lt hi]
      rw [e1, e2, ht, List.getElem?_map, List.getElem?_range hi]
      rfl
theorem range_snoc (V : Nat → Value) (n : Nat) : (List.range (n + 1)).map V = (List.range n).map V ++ [V n] := by rw [List.range_succ, List.map_append]; rfl
end Go.Proofs.Ytgfnagkelhbplaa.mem
