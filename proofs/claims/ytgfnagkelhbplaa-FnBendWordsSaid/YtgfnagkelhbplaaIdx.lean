/-
  Contract of the program's list of indices.
-/
import Derived.Test.YtgfnagkelhbplaaIn
import Derived.Test.YtgfnagkelhbplaaNums
namespace Go.Proofs.Ytgfnagkelhbplaa.rod
open Go.ChangeShapes Go.WideShapes Go.ChangeAt Go.RowKit Go.Proofs.Ytgfnagkelhbplaa.mem Go.Proofs.Ytgfnagkelhbplaa.nums
set_option linter.unusedVariables false

set_option maxHeartbeats 2000000 in
theorem indices_c (n : Nat) (w : World) (hn : n ≤ 1048576) :
    Calls Try.prog 91 #[.int .i64 (n : Int)] w fun e w' => ∃ g, e = .returned (.slice (some ⟨g, 0, none⟩) n n) ∧ w.heap.size ≤ g ∧ Own w' g 2 n (fun j => (j : Int)) ∧ Below w.heap.size w w' := by
  have hmk := run_make_rows (P := Try.prog) 26 2 _ 1 8 Try.underlying26 info_num .i64 .i64 n (by omega) (by omega)
  go_enter Try.func91, Try.ntmps91
  go_wp2_with fail
  have hO : Own (w.alloc (Obj.cells (madeCells #[Value.int IntKind.i64 0] n) 2)) w.heap.size 2 n (fun _ => 0) :=
    own_made _ _ _ _ _ (fun i hi => by match i, hi with | 0, _ => rfl) (by simp) (by omega)
  have HO := Lib.hid hO
  clear hO hmk
  go_loopw [9] (fun s wr => ∃ k : Nat, k ≤ n ∧ s = .int .i64 k ∧ Hid (Own wr w.heap.size 2 n (fun j => if j < k then (j : Int) else 0)) ∧ Below w.heap.size w wr) (fun s _ => n - (intOf s).toNat)
  case atStart => exact ⟨0, by omega, rfl, HO.out.congr (fun j _ => by simp), by go_grown⟩
  case round =>
    obtain ⟨k, hk, rfl, hown, hbl⟩ := hrel
    have HB := Lib.hid hbl
    clear hbl
    by_cases hlt : k < n
    · have hlt' : (k : Int) < (n : Int) := by omega
      have ck := hown.out.cell hlt
      have fk := hown.out.frozen k
      go_wp2
      go_roundw
      case rel =>
        refine ⟨k + 1, by omega, by go_num, (hown.out.set k (k : Int)).congr (fun j hj => ?_), Below.setCell HB.out (Nat.le_refl _) _⟩
        by_cases e0 : j = k
        · subst e0; simp
        · simp only [e0, if_false]
          by_cases e3 : j < k
          · rw [if_pos e3, if_pos (by omega)]
          · rw [if_neg e3, if_neg (by omega)]
      case measure => simp [intOf]; omega
    · obtain rfl : k = n := by omega
      go_wp2
      go_ret
      exact ⟨_, rfl, Nat.le_refl _, hown.out.congr (fun j hj => by rw [if_pos hj]), HB.out⟩

end Go.Proofs.Ytgfnagkelhbplaa.rod
