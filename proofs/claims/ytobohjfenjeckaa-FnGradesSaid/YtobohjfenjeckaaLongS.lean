/-
  The rods by descending lengths: contracts of the model's.
-/
import Derived.Test.YtobohjfenjeckaaSo
import Derived.Test.YtobohjfenjeckaaRods
import Derived.Test.YtobohjfenjeckaaAppend
import Derived.Test.YtobohjfenjeckaaNums
import Derived.BigQuiet
namespace Go.Proofs.Ytobohjfenjeckaa.rod
open Go.ChangeShapes Go.WideShapes Go.ChangeAt Go.RowKit Go.Proofs.Ytobohjfenjeckaa.mem Go.Proofs.Ytobohjfenjeckaa.nums
set_option linter.unusedVariables false

/-- the order as whole numbers -/
def soI (L : Nat → Int) (i : Nat) : List Int := (so L i).map fun x : Nat => (x : Int)
theorem soI_len {L : Nat → Int} (i : Nat) : (soI L i).length = i := by unfold soI; rw [List.length_map, so_len]
theorem soI_at {L : Nat → Int} {i j : Nat} : (soI L i).getD j 0 = (((so L i).getD j 0 : Nat) : Int) := by
  unfold soI
  rw [List.getD, List.getD, List.getElem?_map]
  cases (so L i)[j]? <;> rfl
theorem addr_at (b o j : Nat) : (⟨b, o, none⟩ : Addr).add j = ⟨b, o + j, none⟩ := by
  unfold Addr.add
  split
  · rename_i e; rw [e]; rfl
  · rfl
theorem map_at {l : List Int} {j : Nat} {u : Value} (h : (l.map (Value.int .i64))[j]? = some u) : j < l.length ∧ u = .int .i64 (l.getD j 0) := by
  rw [List.getElem?_map] at h
  by_cases hj : j < l.length
  · rw [List.getElem?_eq_getElem hj] at h
    simp [List.getD, List.getElem?_eq_getElem hj] at h ⊢
    exact ⟨hj, h.symm⟩
  · rw [List.getElem?_eq_none (by omega)] at h
    cases h
theorem owns_none0 (w : World) (B size : Nat) (E : TypeId) (hB : B ≤ w.heap.size) : (w.alloc (Obj.cells #[] E)).ownsRow B E size (.slice (some ⟨w.heap.size, 0, none⟩) 0 0) 0 [] :=
  ⟨by simp, .inr ⟨w.heap.size, 0, #[], rfl, hB, Go.Deep.blk_alloc_new _ _, Nat.le_refl _, by unfold maxLen; omega, by simp, by simp⟩⟩

theorem soI_step {L : Nat → Int} {i K : Nat} (h : spot L (so L i) i i = K) : (soI L i).take K ++ ([(i : Int)] ++ (soI L i).drop K) = soI L (i + 1) := by
  unfold soI
  conv => rhs; unfold so
  rw [so_len, h, List.map_append, List.map_cons, List.map_take, List.map_drop]
  rfl
theorem take_at {l : List Int} {K j : Nat} (h : j < K) : (l.take K).getD j 0 = l.getD j 0 := by
  rw [List.getD, List.getD, List.getElem?_take_of_lt h]
theorem drop_at {l : List Int} {K j : Nat} : (l.drop K).getD j 0 = l.getD (K + j) 0 := by
  rw [List.getD, List.getD, List.getElem?_drop]

end Go.Proofs.Ytobohjfenjeckaa.rod
