/-
  Contracts of YieldNow, of the model's and of the program's, and of the laws' helpers on one bed.
-/
import Derived.Test.YtakcgeafcecimaaDoorBedY
namespace Go.Proofs.YtakcgeafcecimaaDoor.rod
open Go.ChangeShapes Go.WideShapes Go.ChangeAt Go.RowKit Go.Proofs.YtakcgeafcecimaaDoor.mem Go.Proofs.YtakcgeafcecimaaDoor.nums
set_option linter.unusedVariables false

theorem bedAt_new {w : World} {A : Option Addr} {m c : Nat} {Y : Nat → Int} {a : Int} (T : TypeId) (h : Sl w A m 1 Y) : BedAt (w.alloc (Obj.cells #[.slice A m c, .int .i64 a] T)) w.heap.size 0 m Y a :=
  ⟨⟨A, c, by go_simp, h.below (K := w.heap.size) (by go_grown) (Nat.le_refl _)⟩, by go_simp⟩

set_option maxHeartbeats 1000000 in
theorem szInts_c (A : Option Addr) (m c : Nat) (left : Int) (w : World) (hm : m ≤ left) (hl : left ≤ 1048576) :
    Calls Tryd.prog 26 #[.slice A m c, .int .i64 left] w fun e w' => e = .returned (.int .i64 (left - m)) ∧ w = w' := by
  have h : ¬ (left - (m : Int)) < 0 := by omega
  go_enter Tryd.func26, Tryd.ntmps26
  go_wp2
  go_ret
  exact ⟨rfl, rfl⟩
set_option maxHeartbeats 1000000 in
theorem szInts_big (A : Option Addr) (m c : Nat) (left : Int) (w : World) (hn : left < m) (h0 : 0 ≤ left) (hl : left ≤ 1048576) (hm : m ≤ maxLen) :
    Calls Tryd.prog 26 #[.slice A m c, .int .i64 left] w fun e w' => e = .returned (.int .i64 (-1)) ∧ w = w' := by
  unfold maxLen at hm
  have h : (left - (m : Int)) < 0 := by omega
  go_enter Tryd.func26, Tryd.ntmps26
  go_wp2
  go_ret
  exact ⟨rfl, rfl⟩
/-- the answer is a new bed with memory of its own -/
def NewBed (w : World) (m : Nat) (Y : Nat → Int) (a : Int) (e : Ending) (w' : World) : Prop :=
  ∃ A c, e = .returned (.agg #[.slice A m c, .int .i64 a]) ∧ m ≤ c ∧ c ≤ maxLen ∧ Row w' w.heap.size w'.heap.size A m 1 2 Y ∧ Below w.heap.size w w'

end Go.Proofs.YtakcgeafcecimaaDoor.rod
