/-
  The program's numbers of stakes with which a weave is sound, as a function to range over.
-/
import Derived.Test.YtlepgkmpbhlajaaGreatDoorWz
import Derived.Test.YtlepgkmpbhlajaaGreatDoorRk
import Derived.Shelf.Abstract
namespace Go.Proofs.YtlepgkmpbhlajaaGreatDoor.sn
open Go.ChangeShapes Go.WideShapes Go.ChangeAt Go.RowKit
open Go.Proofs.YtlepgkmpbhlajaaGreatDoor.mem Go.Proofs.YtlepgkmpbhlajaaGreatDoor.rod Go.Proofs.YtlepgkmpbhlajaaGreatDoor.wv Go.Proofs.YtlepgkmpbhlajaaGreatDoor.wk Go.Proofs.YtlepgkmpbhlajaaGreatDoor.rf Go.Proofs.YtlepgkmpbhlajaaGreatDoor.rk
set_option linter.unusedVariables false
theorem wide_fn (f : Nat) : Fence.wide.fn f = True := rfl
theorem wide_depth : Fence.wide.depth = none := rfl
theorem wideR_fn (l f : Nat) : (Fence.wide.inRound l).fn f = True := rfl
theorem wideR_depth (l : Nat) : (Fence.wide.inRound l).depth = none := rfl
attribute [local go_sem] Oper.semAt_some wide_fn wide_depth wideR_fn wideR_depth

def sndV (x : Nat) : Array Value := #[.int .i64 (x : Int)]
/-- from one number to the next one with which the weave is sound -/
def Snd (f : Nat → Int) (n fl hi : Nat) (s x s' : Nat) : Prop := s ≤ x ∧ x ≤ hi ∧ soundB f n x fl = true ∧ (∀ y, s ≤ y → y < x → soundB f n y fl = false) ∧ s' = x + 1
/-- there is none from there on -/
def Non (f : Nat → Int) (n fl hi : Nat) (s : Nat) : Prop := ∀ y, s ≤ y → y ≤ hi → soundB f n y fl = false
/-- what the closure has captured -/
def Cap (bl bh bs bf : Nat) (s : ByteArray) (fl lo hi : Nat) (W : World) : Prop :=
  W.cell? ⟨bl, 0, none⟩ = some (.int .i64 (lo : Int)) ∧ W.cell? ⟨bh, 0, none⟩ = some (.int .i64 (hi : Int)) ∧ W.cell? ⟨bs, 0, none⟩ = some (.string s) ∧ W.cell? ⟨bf, 0, none⟩ = some (.int .i64 (fl : Int))
theorem Cap.below {bl bh bs bf fl lo hi K : Nat} {s : ByteArray} {w W : World} (h : Cap bl bh bs bf s fl lo hi w) (hb : Below K w W) (h1 : bl < K) (h2 : bh < K) (h3 : bs < K) (h4 : bf < K) : Cap bl bh bs bf s fl lo hi W :=
  ⟨(hb.cell (p := ⟨bl, 0, none⟩) h1).trans h.1, (hb.cell (p := ⟨bh, 0, none⟩) h2).trans h.2.1, (hb.cell (p := ⟨bs, 0, none⟩) h3).trans h.2.2.1, (hb.cell (p := ⟨bf, 0, none⟩) h4).trans h.2.2.2⟩

end Go.Proofs.YtlepgkmpbhlajaaGreatDoor.sn
