/-
  An argument that bears a slice of whole numbers within a struct, and a slice of such structs, read as cells.
-/
import Derived.Test.YtminbbdmjglnjaaOpen
namespace Go.Proofs.Ytminbbdmjglnjaa.mem
open Go.ChangeShapes Go.WideShapes Go.ChangeAt Go.RowKit Go.Deep
set_option linter.unusedVariables false

section
variable {H : Type} {enc : TypeId × Value → H} {P : Program} {w : World} {base : Nat} {spare : Nat → Bool} {held : Bool}
theorem open_nums_v {t e : TypeId} {fuel : Nat} {v : Value} {x : DataW H × List MemPlace} (ht : P.underlying t = some (.slice e)) (he : P.underlying e = some (.int .i64))
    (hC : P.cellsOf e = 1) (h : DataW.trod enc P w base spare held fuel t [v] = some x) :
    ∃ (A : Option Addr) (len cap : Nat), v = .slice A len cap ∧ len ≤ cap ∧ cap ≤ maxLen ∧ ∃ X : Nat → Int, Sl w A len 1 X ∧ ∀ j, j < len * 1 → (Lit.int .i64 (X j)).wf = true := by
  obtain ⟨A, l, c, rfl⟩ : ∃ A l c, v = .slice A l c := by
    rcases open_slice ht h with ⟨hcs, _⟩ | ⟨a, l, c, m, n, D, Pl, hcs, _⟩
    · simp at hcs
      exact ⟨_, _, _, hcs⟩
    · simp at hcs
      exact ⟨_, _, _, hcs⟩
  obtain ⟨h1, h2, h3⟩ := open_nums ht he hC h
  exact ⟨A, l, c, rfl, h1, h2, h3⟩
end

end Go.Proofs.Ytminbbdmjglnjaa.mem
