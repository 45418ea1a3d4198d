/-
  The walk of the law on beds: for every list of bytes the law gives true.
-/
import Derived.Test.YtcpaenmhnoagdacPackB
import Derived.Deep.Cut
namespace Go.Proofs.Ytcpaenmhnoagdac.src
open Go.ChangeShapes Go.WideShapes Go.ChangeAt Go.RowKit Go.Proofs.Ytcpaenmhnoagdac.mem
set_option linter.unusedVariables false

/-- a block holds a bed -/
def BedB (w : World) (g : Nat) (P : Option Addr) (m d : Nat) (a : Int) : Prop := w.heap[g]? = some (.cells #[.slice P m d, .int .i64 a] 26 (0, 0))
theorem BedB.below {w w' : World} {g m d K : Nat} {P : Option Addr} {a : Int} (h : BedB w g P m d a) (hb : Below K w w') (hK : w.heap.size ≤ K) : BedB w' g P m d a := (hb.block g (by have := (Array.getElem?_eq_some_iff.1 h).1; omega)).trans h
theorem BedB.c0 {w : World} {g m d : Nat} {P : Option Addr} {a : Int} (h : BedB w g P m d a) : w.cell? ⟨g, 0, none⟩ = some (.slice P m d) := by unfold BedB at h; simp [World.cell?, h]
theorem BedB.c1 {w : World} {g m d : Nat} {P : Option Addr} {a : Int} (h : BedB w g P m d a) : w.cell? ⟨g, 1, none⟩ = some (.int .i64 a) := by unfold BedB at h; simp [World.cell?, h]
def Bs (w : World) (A : Option Addr) (n : Nat) (M : Nat → Nat) (Y : Nat → Nat → Int) (G : Nat → Int) : Prop := rod.Beds w A n M Y G
theorem Bs.below {w w' : World} {A : Option Addr} {n K : Nat} {M : Nat → Nat} {Y : Nat → Nat → Int} {G : Nat → Int} (h : Bs w A n M Y G) (hb : Below K w w') (hK : w.heap.size ≤ K) : Bs w' A n M Y G := rod.Beds.below h (hb.mono hK)
end Go.Proofs.Ytcpaenmhnoagdac.src
