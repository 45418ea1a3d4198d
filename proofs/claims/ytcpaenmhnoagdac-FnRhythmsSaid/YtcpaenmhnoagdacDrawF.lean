/-
  What the laws on beds draw from their bytes.
-/
import Derived.Test.YtcpaenmhnoagdacDrawBs
import Derived.Test.YtcpaenmhnoagdacBedY
namespace Go.Proofs.Ytcpaenmhnoagdac.src
open Go.ChangeShapes Go.WideShapes Go.ChangeAt Go.RowKit Go.Proofs.Ytcpaenmhnoagdac.mem
set_option linter.unusedVariables false

/-- a bed of the call's own -/
def BedOf (w w' : World) (P : Option Addr) (m d : Nat) (Y : Nat → Int) : Prop := m ≤ 6 ∧ m ≤ d ∧ d ≤ maxLen ∧ Row w' w.heap.size w'.heap.size P m 1 2 Y ∧ Below w.heap.size w w'
theorem res_bed {W : World} {g : Nat} (h : W.heap[g]? = some (.cells #[.slice none 0 0, .int .i64 0] 26 (0, 0))) : W.cell? ⟨g, 0, none⟩ = some (.slice none 0 0) ∧ W.cell? ⟨g, 1, none⟩ = some (.int .i64 0) ∧ W.frozen? ⟨g, 0, none⟩ = false ∧ W.frozen? ⟨g, 1, none⟩ = false := ⟨by simp [World.cell?, h], by simp [World.cell?, h], by simp [World.frozen?, h], by simp [World.frozen?, h]⟩
theorem row_res {W : World} {g lo hi m : Nat} {P : Option Addr} {Y : Nat → Int} {c : Array Value} (h : Row W lo hi P m 1 2 Y) (hg : W.heap[g]? = some (.cells c 26 (0, 0))) (i : Nat) (v : Value) : Row (W.setCell ⟨g, i, none⟩ v) lo hi P m 1 2 Y := fun hm => by
  obtain ⟨g', e, h1, h2, h3⟩ := h hm
  refine ⟨g', e, h1, h2, h3.setOther (a := ⟨g, i, none⟩) ?_ _⟩
  obtain ⟨cs, hh, _⟩ := h3
  show g' ≠ g
  intro q
  rw [q, hg] at hh
  cases hh

end Go.Proofs.Ytcpaenmhnoagdac.src
