/-
  Contracts of MostAlike, of the model's and of the program's.
-/
import Derived.Test.YtobohjfenjeckaaRods
namespace Go.Proofs.Ytobohjfenjeckaa.rod
open Go.ChangeShapes Go.WideShapes Go.ChangeAt Go.RowKit
open Go.Proofs.Ytobohjfenjeckaa.mem
set_option linter.unusedVariables false

def dist (a b : Int) : Int := if a < b then b - a else a - b
theorem dist_lt {a b : Int} (h : a < b) : dist a b = b - a := if_pos h
theorem dist_ge {a b : Int} (h : ¬ a < b) : dist a b = a - b := if_neg h
theorem dist_bd {a b m : Int} (a0 : 0 ≤ a) (a1 : a ≤ m) (b0 : 0 ≤ b) (b1 : b ≤ m) : 0 ≤ dist a b ∧ dist a b ≤ m := by
  unfold dist; split <;> omega

set_option maxHeartbeats 1000000 in
theorem dist_i (a b : Int) (a0 : 0 ≤ a) (a1 : a ≤ 100000) (b0 : 0 ≤ b) (b1 : b ≤ 100000) (w : World) :
    Calls Try.prog 95 #[.int .i64 a, .int .i64 b] w fun e w' => e = .returned (.int .i64 (dist a b)) ∧ w = w' := by
  by_cases h : a < b
  · rw [dist_lt h]
    go_enter Try.func95, Try.ntmps95
    go_wp2
    go_ret
    exact ⟨rfl, rfl⟩
  · rw [dist_ge h]
    by_cases h' : a = b
    · subst h'
      go_enter Try.func95, Try.ntmps95
      go_wp2
      go_ret
      exact ⟨by first | rfl | simp, rfl⟩
    · have h2 : b < a := by omega
      clear h'
      go_enter Try.func95, Try.ntmps95
      go_wp2
      go_ret
      exact ⟨rfl, rfl⟩

def ap3 (L1 B1 T1 L2 B2 T2 : Int) : Int := dist L1 L2 + dist B1 B2 + dist T1 T2
theorem ap3_bd {L1 B1 T1 L2 B2 T2 : Int} (h1 : rodB L1 B1 T1 = true) (h2 : rodB L2 B2 T2 = true) : 0 ≤ ap3 L1 B1 T1 L2 B2 T2 ∧ ap3 L1 B1 T1 L2 B2 T2 ≤ 100000 := by
  obtain ⟨a1, a2, a3, a4, a5, a6⟩ := rodB_of h1
  obtain ⟨c1, c2, c3, c4, c5, c6⟩ := rodB_of h2
  have d1 := dist_bd (a := L1) (b := L2) (m := 3000) (by omega) (by omega) (by omega) (by omega)
  have d2 := dist_bd (a := B1) (b := B2) (m := 3000) (by omega) (by omega) (by omega) (by omega)
  have d3 := dist_bd (a := T1) (b := T2) (m := 3000) (by omega) (by omega) (by omega) (by omega)
  unfold ap3
  omega

set_option maxHeartbeats 2000000 in
theorem differ_i (L1 B1 T1 L2 B2 T2 : Int) (w : World) (h1 : rodB L1 B1 T1 = true) (h2 : rodB L2 B2 T2 = true) :
    Calls Try.prog 81 #[.agg #[.int .i64 L1, .int .i64 B1, .int .i64 T1], .agg #[.int .i64 L2, .int .i64 B2, .int .i64 T2]] w fun e w' => e = .returned (.int .i64 (ap3 L1 B1 T1 L2 B2 T2)) ∧ Below w.heap.size w w' := by
  obtain ⟨a1, a2, a3, a4, a5, a6⟩ := rodB_of h1
  obtain ⟨c1, c2, c3, c4, c5, c6⟩ := rodB_of h2
  have d1 := dist_bd (a := L1) (b := L2) (m := 3000) (by omega) (by omega) (by omega) (by omega)
  have d2 := dist_bd (a := B1) (b := B2) (m := 3000) (by omega) (by omega) (by omega) (by omega)
  have d3 := dist_bd (a := T1) (b := T2) (m := 3000) (by omega) (by omega) (by omega) (by omega)
  clear h1 h2
  have k4 : IntKind.i64.wrap (dist L1 L2 + dist B1 B2) = dist L1 L2 + dist B1 B2 := IntWalk.i64_in _ (by omega)
  have k5 : IntKind.i64.wrap (dist L1 L2 + dist B1 B2 + dist T1 T2) = dist L1 L2 + dist B1 B2 + dist T1 T2 := IntWalk.i64_in _ (by omega)
  go_enter Try.func81, Try.ntmps81
  go_wp2_with fail
  have g1 : Below w.heap.size w ((w.alloc (Obj.cells #[Value.int IntKind.i64 L1, Value.int IntKind.i64 B1, Value.int IntKind.i64 T1] 57)).alloc (Obj.cells #[Value.int IntKind.i64 L2, Value.int IntKind.i64 B2, Value.int IntKind.i64 T2] 57)) := by go_grown
  have G1 := Lib.hid g1
  have p0 : ((w.alloc (Obj.cells #[Value.int IntKind.i64 L1, Value.int IntKind.i64 B1, Value.int IntKind.i64 T1] 57)).alloc (Obj.cells #[Value.int IntKind.i64 L2, Value.int IntKind.i64 B2, Value.int IntKind.i64 T2] 57)).cell? ⟨w.heap.size, 0, none⟩ = some (.int .i64 L1) := by go_simp
  clear g1
  go_quiet ((go_at_call 95; exact Calls.quiet_of_same ((dist_i _ _ (by omega) (by omega) (by omega) (by omega) _).mono fun _ _ ⟨p, q⟩ => ⟨p, q.symm⟩)))
  go_wp2
  go_ret
  exact ⟨rfl, drewN_below G1.out _⟩

end Go.Proofs.Ytobohjfenjeckaa.rod
