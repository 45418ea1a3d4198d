/-
  Contracts of RoundOf, of the model and of the program, and of the model's other side.
-/
import Derived.Test.YtlepgkmpbhlajaaGreatDoorWt
namespace Go.Proofs.YtlepgkmpbhlajaaGreatDoor.wk
open Go.ChangeShapes Go.WideShapes Go.ChangeAt Go.RowKit
open Go.Proofs.YtlepgkmpbhlajaaGreatDoor.mem Go.Proofs.YtlepgkmpbhlajaaGreatDoor.rod Go.Proofs.YtlepgkmpbhlajaaGreatDoor.wv
set_option linter.unusedVariables false

set_option maxHeartbeats 1000000 in
theorem roundOf_i (s : ByteArray) (n r : Nat) (w : World) (hst : strokeB s = true) (n3 : 3 ≤ n) (hn : n ≤ 60) (hr : r ≤ 100) :
    Calls Tryz.prog 9 #[.string s, .int .i64 (n : Int), .int .i64 (r : Int)] w fun e w' => e = .returned (.tuple #[.string (mkB (fun k => sideU s n r k) n), .int .i64 0]) ∧ Below w.heap.size w w' := by
  obtain ⟨h0, hs, _⟩ := stroke_of hst
  have HS := Lib.hid hst
  have hir : inB (r : Int) 0 100 = true := inB_yes (by omega) (by omega)
  have HI := Lib.hid hir
  have HR := Lib.hid (fun W => inRound_i s n r W h0 hs hn hr)
  generalize mkB (fun k => sideU s n r k) n = O at *
  clear hst hir
  go_enter Tryz.func9, Tryz.ntmps9
  go_wp2_with fail
  refine (new_i s n _ HS.out n3 hn).mono ?_
  rintro e w1 ⟨rfl, b1⟩
  have z1 := b1.size
  go_wp2_with (go_at_call 17; refine (in_i _ _ _ _).mono ?_; rintro e w' ⟨rfl, rfl⟩; rw [HI.out])
  refine (HR.out _).mono ?_
  rintro e w2 ⟨rfl, b2⟩
  have g2 : Below w.heap.size w w2 := (b1.alloc z1 _).trans (b2.mono (by simp; omega))
  go_wp2
  go_ret2
  exact ⟨rfl, g2⟩
set_option maxHeartbeats 1000000 in
theorem roundOf_i_far (s : ByteArray) (n : Nat) (r : Int) (w : World) (hst : strokeB s = true) (n3 : 3 ≤ n) (hn : n ≤ 60) (hr : inB r 0 100 = false) :
    Calls Tryz.prog 9 #[.string s, .int .i64 (n : Int), .int .i64 r] w fun e w' => e = .returned (.tuple #[.string ⟨#[]⟩, .int .i64 2]) ∧ Below w.heap.size w w' := by
  obtain ⟨h0, hs, _⟩ := stroke_of hst
  have HS := Lib.hid hst
  have HI := Lib.hid hr
  clear hst hr
  go_enter Tryz.func9, Tryz.ntmps9
  go_wp2_with fail
  refine (new_i s n _ HS.out n3 hn).mono ?_
  rintro e w1 ⟨rfl, b1⟩
  have z1 := b1.size
  go_wp2_with (go_at_call 17; refine (in_i _ _ _ _).mono ?_; rintro e w' ⟨rfl, rfl⟩; rw [HI.out])
  go_ret2
  exact ⟨rfl, b1.alloc z1 _⟩
set_option maxHeartbeats 1000000 in
theorem roundOf_i_no (s : ByteArray) (a r : Int) (w : World) (hs : s.size ≤ 1048576) (hc : codeW s a ≠ 0) :
    Calls Tryz.prog 9 #[.string s, .int .i64 a, .int .i64 r] w fun e w' => e = .returned (.tuple #[.string ⟨#[]⟩, .int .i64 (codeW s a)]) ∧ Below w.heap.size w w' := by
  have HN := Lib.hid (fun W => new_i_no s a W hs hc)
  generalize codeW s a = v at *
  have e1 : (v == 0) = false := by simpa using hc
  have e2 : (v != 0) = true := by rw [bne, e1]; rfl
  clear hc
  go_enter Tryz.func9, Tryz.ntmps9
  go_wp2_with fail
  refine (HN.out _).mono ?_
  rintro e w1 ⟨rfl, b1⟩
  go_wp2
  go_ret2
  exact ⟨rfl, b1.alloc b1.size _⟩

/-! ### the other side, of the model -/
def flip (b : UInt8) : UInt8 := if b = 70 then 66 else 70
def otherB (s : ByteArray) : ByteArray := mkB (fun i => flip (byteU s i)) s.size
end Go.Proofs.YtlepgkmpbhlajaaGreatDoor.wk
