/-
  Contracts of MostAlike, of the model's and of the program's.
-/
import Derived.Test.YtcpaenmhnoagdabRods
namespace Go.Proofs.Ytcpaenmhnoagdab.rod
open Go.ChangeShapes Go.WideShapes Go.ChangeAt Go.RowKit
open Go.Proofs.Ytcpaenmhnoagdab.mem
set_option linter.unusedVariables false

def dist (a b : Int) : Int := if a < b then b - a else a - b
theorem dist_lt {a b : Int} (h : a < b) : dist a b = b - a := if_pos h
theorem dist_ge {a b : Int} (h : ¬ a < b) : dist a b = a - b := if_neg h
theorem dist_bd {a b m : Int} (a0 : 0 ≤ a) (a1 : a ≤ m) (b0 : 0 ≤ b) (b1 : b ≤ m) : 0 ≤ dist a b ∧ dist a b ≤ m := by
  unfold dist; split <;> omega

set_option maxHeartbeats 1000000 in
theorem size_d (a b : Int) (a0 : 0 ≤ a) (a1 : a ≤ 100000) (b0 : 0 ≤ b) (b1 : b ≤ 100000) (w : World) :
    Calls Try.prog 129 #[.int .i64 (a - b)] w fun e w' => e = .returned (.int .i64 (dist a b)) ∧ w = w' := by
  by_cases h : a < b
  · rw [dist_lt h]
    have h1 : a - b < 0 := by omega
    go_enter Try.func129, Try.ntmps129
    go_wp2
    go_ret
    exact ⟨by first | rfl | (rw [show b - a = -(a - b) by omega]; rfl), rfl⟩
  · rw [dist_ge h]
    have h1 : ¬ a - b < 0 := by omega
    go_enter Try.func129, Try.ntmps129
    go_wp2
    go_ret
    exact ⟨rfl, rfl⟩

set_option maxHeartbeats 1000000 in
theorem dist_i (a b : Int) (a0 : 0 ≤ a) (a1 : a ≤ 100000) (b0 : 0 ≤ b) (b1 : b ≤ 100000) (w : World) :
    Calls Try.prog 130 #[.int .i64 a, .int .i64 b] w fun e w' => e = .returned (.int .i64 (dist a b)) ∧ w = w' := by
  by_cases h : a < b
  · rw [dist_lt h]
    go_enter Try.func130, Try.ntmps130
    go_wp2
    go_ret
    exact ⟨rfl, rfl⟩
  · rw [dist_ge h]
    by_cases h' : a = b
    · subst h'
      go_enter Try.func130, Try.ntmps130
      go_wp2
      go_ret
      exact ⟨by first | rfl | simp, rfl⟩
    · have h2 : b < a := by omega
      clear h'
      go_enter Try.func130, Try.ntmps130
      go_wp2
      go_ret
      exact ⟨rfl, rfl⟩

def ap3 (L1 B1 T1 L2 B2 T2 : Int) : Int := dist L1 L2 + dist B1 B2 + dist T1 T2
theorem ap3_bd {L1 B1 T1 L2 B2 T2 : Int} (h1 : rodB L1 B1 T1 = true) (h2 : rodB L2 B2 T2 = true) : 0 ≤ ap3 L1 B1 T1 L2 B2 T2 ∧ ap3 L1 B1 T1 L2 B2 T2 ≤ 100000 := by
  obtain ⟨a1, a2, a3, a4, a5, a6⟩ := rodB_of h1
  obtain ⟨c1, c2, c3, c4, c5, c6⟩ := rodB_of h2
  have d1 := dist_bd (a := L1) (b := L2) (m := 3000) (by omega) (by omega) (by omega) (by omega)
  have d2 := dist_bd (a := B1) (b := B2) (m := 3000) (by omega) (by omega) (by omega) (by omega)
  have d3 := dist_bd (a := T1) (b := T2) (m := 3000) (by omega) (by omega) (by omega) (by omega)
  unfold ap3
  omega

set_option maxHeartbeats 2000000 in
theorem apart_s (b o b' o' : Nat) (L1 B1 T1 L2 B2 T2 : Int) (w : World) (h1 : rodB L1 B1 T1 = true) (h2 : rodB L2 B2 T2 = true)
    (p0 : w.cell? ⟨b, o, none⟩ = some (.int .i64 L1)) (p1 : w.cell? ⟨b, o + 1, none⟩ = some (.int .i64 B1)) (p2 : w.cell? ⟨b, o + 2, none⟩ = some (.int .i64 T1))
    (q0 : w.cell? ⟨b', o', none⟩ = some (.int .i64 L2)) (q1 : w.cell? ⟨b', o' + 1, none⟩ = some (.int .i64 B2)) (q2 : w.cell? ⟨b', o' + 2, none⟩ = some (.int .i64 T2)) :
    Calls Try.prog 84 #[.pointer (some ⟨b, o, none⟩), .pointer (some ⟨b', o', none⟩)] w fun e w' => e = .returned (.int .i64 (ap3 L1 B1 T1 L2 B2 T2)) ∧ ∃ m, w' = w.drewN m := by
  obtain ⟨a1, a2, a3, a4, a5, a6⟩ := rodB_of h1
  obtain ⟨c1, c2, c3, c4, c5, c6⟩ := rodB_of h2
  have d1 := dist_bd (a := L1) (b := L2) (m := 3000) (by omega) (by omega) (by omega) (by omega)
  have d2 := dist_bd (a := B1) (b := B2) (m := 3000) (by omega) (by omega) (by omega) (by omega)
  have d3 := dist_bd (a := T1) (b := T2) (m := 3000) (by omega) (by omega) (by omega) (by omega)
  clear h1 h2
  have k1 : IntKind.i64.wrap (L1 - L2) = L1 - L2 := IntWalk.i64_in _ (by omega)
  have k2 : IntKind.i64.wrap (B1 - B2) = B1 - B2 := IntWalk.i64_in _ (by omega)
  have k3 : IntKind.i64.wrap (T1 - T2) = T1 - T2 := IntWalk.i64_in _ (by omega)
  have k4 : IntKind.i64.wrap (dist L1 L2 + dist B1 B2) = dist L1 L2 + dist B1 B2 := IntWalk.i64_in _ (by omega)
  have k5 : IntKind.i64.wrap (dist L1 L2 + dist B1 B2 + dist T1 T2) = dist L1 L2 + dist B1 B2 + dist T1 T2 := IntWalk.i64_in _ (by omega)
  go_enter Try.func84, Try.ntmps84
  go_wp2_with fail
  go_quiet ((go_at_call 129; exact Calls.quiet_of_same ((size_d _ _ (by omega) (by omega) (by omega) (by omega) _).mono fun _ _ ⟨p, q⟩ => ⟨p, q.symm⟩)))
  go_wp2
  go_ret
  exact ⟨rfl, _, rfl⟩

set_option maxHeartbeats 2000000 in
theorem differ_i (L1 B1 T1 L2 B2 T2 : Int) (w : World) (h1 : rodB L1 B1 T1 = true) (h2 : rodB L2 B2 T2 = true) :
    Calls Try.prog 85 #[.agg #[.int .i64 L1, .int .i64 B1, .int .i64 T1], .agg #[.int .i64 L2, .int .i64 B2, .int .i64 T2]] w fun e w' => e = .returned (.int .i64 (ap3 L1 B1 T1 L2 B2 T2)) ∧ Below w.heap.size w w' := by
  obtain ⟨a1, a2, a3, a4, a5, a6⟩ := rodB_of h1
  obtain ⟨c1, c2, c3, c4, c5, c6⟩ := rodB_of h2
  have d1 := dist_bd (a := L1) (b := L2) (m := 3000) (by omega) (by omega) (by omega) (by omega)
  have d2 := dist_bd (a := B1) (b := B2) (m := 3000) (by omega) (by omega) (by omega) (by omega)
  have d3 := dist_bd (a := T1) (b := T2) (m := 3000) (by omega) (by omega) (by omega) (by omega)
  clear h1 h2
  have k4 : IntKind.i64.wrap (dist L1 L2 + dist B1 B2) = dist L1 L2 + dist B1 B2 := IntWalk.i64_in _ (by omega)
  have k5 : IntKind.i64.wrap (dist L1 L2 + dist B1 B2 + dist T1 T2) = dist L1 L2 + dist B1 B2 + dist T1 T2 := IntWalk.i64_in _ (by omega)
  go_enter Try.func85, Try.ntmps85
  go_wp2_with fail
  have g1 : Below w.heap.size w ((w.alloc (Obj.cells #[Value.int IntKind.i64 L1, Value.int IntKind.i64 B1, Value.int IntKind.i64 T1] 51)).alloc (Obj.cells #[Value.int IntKind.i64 L2, Value.int IntKind.i64 B2, Value.int IntKind.i64 T2] 51)) := by go_grown
  have G1 := Lib.hid g1
  have p0 : ((w.alloc (Obj.cells #[Value.int IntKind.i64 L1, Value.int IntKind.i64 B1, Value.int IntKind.i64 T1] 51)).alloc (Obj.cells #[Value.int IntKind.i64 L2, Value.int IntKind.i64 B2, Value.int IntKind.i64 T2] 51)).cell? ⟨w.heap.size, 0, none⟩ = some (.int .i64 L1) := by go_simp
  clear g1
  go_quiet ((go_at_call 130; exact Calls.quiet_of_same ((dist_i _ _ (by omega) (by omega) (by omega) (by omega) _).mono fun _ _ ⟨p, q⟩ => ⟨p, q.symm⟩)))
  go_wp2
  go_ret
  exact ⟨rfl, drewN_below G1.out _⟩

end Go.Proofs.Ytcpaenmhnoagdab.rod
