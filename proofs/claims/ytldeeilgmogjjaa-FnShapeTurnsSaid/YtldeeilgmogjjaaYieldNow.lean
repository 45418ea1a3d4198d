/-
  Contracts of YieldNow, of the model's and of the program's, and of the laws' helpers on one bed.
-/
import Derived.Test.YtldeeilgmogjjaaBedY
namespace Go.Proofs.Ytldeeilgmogjjaa.rod
open Go.ChangeShapes Go.WideShapes Go.ChangeAt Go.RowKit Go.Proofs.Ytldeeilgmogjjaa.mem Go.Proofs.Ytldeeilgmogjjaa.nums
set_option linter.unusedVariables false

theorem bedAt_new {w : World} {A : Option Addr} {m c : Nat} {Y : Nat → Int} {a : Int} (T : TypeId) (h : Sl w A m 1 Y) : BedAt (w.alloc (Obj.cells #[.slice A m c, .int .i64 a] T)) w.heap.size 0 m Y a :=
  ⟨⟨A, c, by go_simp, h.below (K := w.heap.size) (by go_grown) (Nat.le_refl _)⟩, by go_simp⟩

/-- the answer is a new bed with memory of its own -/
def NewBed (w : World) (m : Nat) (Y : Nat → Int) (a : Int) (e : Ending) (w' : World) : Prop :=
  ∃ A c, e = .returned (.agg #[.slice A m c, .int .i64 a]) ∧ m ≤ c ∧ c ≤ maxLen ∧ Row w' w.heap.size w'.heap.size A m 1 2 Y ∧ Below w.heap.size w w'

end Go.Proofs.Ytldeeilgmogjjaa.rod
