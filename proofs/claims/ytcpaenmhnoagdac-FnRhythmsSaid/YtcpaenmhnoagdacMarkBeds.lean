/-
  The marks that a law writes over beds of the call's own, and how it finds them again.
-/
import Derived.Test.YtcpaenmhnoagdacBeds
namespace Go.Proofs.Ytcpaenmhnoagdac.rod
open Go.ChangeShapes Go.WideShapes Go.ChangeAt Go.RowKit Go.Proofs.Ytcpaenmhnoagdac.mem Go.Proofs.Ytcpaenmhnoagdac.nums
set_option linter.unusedVariables false

theorem row_narrow {w : World} {lo hi n : Nat} {A : Option Addr} {X : Nat → Int} (h : Row w lo hi A n 1 2 X) (hn : 0 < n) : ∃ g, A = some ⟨g, 0, none⟩ ∧ lo ≤ g ∧ g < hi ∧ g < w.heap.size ∧ Row w g (g + 1) A n 1 2 X := by
  obtain ⟨g, e, h1, h2, ho⟩ := h hn
  exact ⟨g, e, h1, h2, ho.lt, fun _ => ⟨g, e, Nat.le_refl _, Nat.lt_succ_self _, ho⟩⟩
theorem WroteIn.trans {w w1 w2 : World} {lo hi lo' hi' : Nat} (h : WroteIn w w1 lo hi) (h2 : WroteIn w1 w2 lo' hi') (hl : lo ≤ lo' ∧ hi' ≤ hi ∨ hi' ≤ lo') : WroteIn w w2 lo hi :=
  ⟨h2.os.trans h.os, h2.tape.trans h.tape, h2.output.trans h.output, Nat.le_trans h.size h2.size, fun k hk hd => (h2.block k (Nat.lt_of_lt_of_le hk h.size) (by omega)).trans (h.block k hk hd)⟩

/-- the marks of a bed's numbers, and of its age -/
def mkY (q : Int) (M : Nat → Nat) (j i : Nat) : Int := q + (sumM M j + j : Nat) + i
def mkG (q : Int) (M : Nat → Nat) (j : Nat) : Int := q + (sumM M j + j : Nat) + M j

end Go.Proofs.Ytcpaenmhnoagdac.rod
