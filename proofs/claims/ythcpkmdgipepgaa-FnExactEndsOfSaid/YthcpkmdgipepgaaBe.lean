/-
  Contracts of EndsOf and StakesFrom, of the model and of the program. No condition of a statement lies here.
-/
import Derived.Test.YthcpkmdgipepgaaBa
namespace Go.Proofs.Ythcpkmdgipepgaa.ba
open Go.ChangeShapes Go.WideShapes Go.ChangeAt Go.RowKit Go.Proofs.Ythcpkmdgipepgaa.mem Go.Proofs.Ythcpkmdgipepgaa.rod
set_option linter.unusedVariables false

theorem drewN2 {w : World} {a b : Nat} : (w.drewN a).drewN b = w.drewN (a + b) ∨ True := .inr trivial

set_option maxHeartbeats 1000000 in
theorem ends_s_no (S M R K : Int) (hr : baseB S M R K = false) (w : World) :
    Calls Try.prog 16 #[.agg #[.int .i64 S, .int .i64 M, .int .i64 R, .int .i64 K]] w fun e w' => e = .returned (.tuple #[.int .i64 0, .int .i64 1]) ∧ Below w.heap.size w w' := by
  go_enter Try.func16, Try.ntmps16
  go_wp2_with fail
  refine (okB_s _ _ S M R K _ (by go_simp) (by go_simp) (by go_simp) (by go_simp)).mono ?_
  rintro e w0 ⟨rfl, hb⟩
  have z0 := hb.size
  simp at z0
  have p0 : w0.cell? ⟨w.heap.size, 0, none⟩ = some (.int .i64 S) := by rw [(bcell hb).1 _ _ (by simp <;> omega)]; go_simp
  have p1 : w0.cell? ⟨w.heap.size, 1, none⟩ = some (.int .i64 M) := by rw [(bcell hb).1 _ _ (by simp <;> omega)]; go_simp
  have p2 : w0.cell? ⟨w.heap.size, 2, none⟩ = some (.int .i64 R) := by rw [(bcell hb).1 _ _ (by simp <;> omega)]; go_simp
  have p3 : w0.cell? ⟨w.heap.size, 3, none⟩ = some (.int .i64 K) := by rw [(bcell hb).1 _ _ (by simp <;> omega)]; go_simp
  have B0 : Below w.heap.size w w0 := Below.trans (by go_grown) (hb.mono (by simp <;> omega))
  clear hb
  go_wp2_with (go_at_call 44; refine (in_s _ _ _ _).mono ?_; rintro e w' ⟨rfl, rfl⟩)
  go_returns
  exact ⟨rfl, B0⟩

set_option maxHeartbeats 1000000 in
theorem ends_i_no (S M R K : Int) (hr : baseB S M R K = false) (w : World) :
    Calls Try.prog 17 #[.agg #[.int .i64 S, .int .i64 M, .int .i64 R, .int .i64 K]] w fun e w' => e = .returned (.tuple #[.int .i64 0, .int .i64 1]) ∧ Below w.heap.size w w' := by
  go_enter Try.func17, Try.ntmps17
  go_wp2_with fail
  refine (valid_i S M R K _).mono ?_
  rintro e w0 ⟨rfl, hb⟩
  have z0 := hb.size
  simp at z0
  have p0 : w0.cell? ⟨w.heap.size, 0, none⟩ = some (.int .i64 S) := by rw [(bcell hb).1 _ _ (by simp <;> omega)]; go_simp
  have p1 : w0.cell? ⟨w.heap.size, 1, none⟩ = some (.int .i64 M) := by rw [(bcell hb).1 _ _ (by simp <;> omega)]; go_simp
  have p2 : w0.cell? ⟨w.heap.size, 2, none⟩ = some (.int .i64 R) := by rw [(bcell hb).1 _ _ (by simp <;> omega)]; go_simp
  have p3 : w0.cell? ⟨w.heap.size, 3, none⟩ = some (.int .i64 K) := by rw [(bcell hb).1 _ _ (by simp <;> omega)]; go_simp
  have B0 : Below w.heap.size w w0 := Below.trans (by go_grown) (hb.mono (by simp <;> omega))
  clear hb
  go_wp2_with (go_at_call 41; refine (in_i _ _ _ _).mono ?_; rintro e w' ⟨rfl, rfl⟩)
  go_returns
  exact ⟨rfl, B0⟩

set_option maxHeartbeats 1000000 in
theorem ends_s_yes (S M R K : Int) (hr : baseB S M R K = true) (w : World) :
    Calls Try.prog 16 #[.agg #[.int .i64 S, .int .i64 M, .int .i64 R, .int .i64 K]] w fun e w' => e = .returned (.tuple #[.int .i64 (2 * (S + M)), .int .i64 0]) ∧ Below w.heap.size w w' := by
  have HR := Lib.hid hr
  go_enter Try.func16, Try.ntmps16
  go_wp2_with fail
  refine (okB_s _ _ S M R K _ (by go_simp) (by go_simp) (by go_simp) (by go_simp)).mono ?_
  rintro e w0 ⟨rfl, hb⟩
  have z0 := hb.size
  simp at z0
  have p0 : w0.cell? ⟨w.heap.size, 0, none⟩ = some (.int .i64 S) := by rw [(bcell hb).1 _ _ (by simp <;> omega)]; go_simp
  have p1 : w0.cell? ⟨w.heap.size, 1, none⟩ = some (.int .i64 M) := by rw [(bcell hb).1 _ _ (by simp <;> omega)]; go_simp
  have p2 : w0.cell? ⟨w.heap.size, 2, none⟩ = some (.int .i64 R) := by rw [(bcell hb).1 _ _ (by simp <;> omega)]; go_simp
  have p3 : w0.cell? ⟨w.heap.size, 3, none⟩ = some (.int .i64 K) := by rw [(bcell hb).1 _ _ (by simp <;> omega)]; go_simp
  have B0 : Below w.heap.size w w0 := Below.trans (by go_grown) (hb.mono (by simp <;> omega))
  clear hb
  go_wp2_with fail
  clear hr
  refine (endsB_s _ _ S M R K _ HR.out (by go_simp) (by go_simp)).mono ?_
  rintro e w1 ⟨rfl, hb⟩
  have B1 : Below w.heap.size w w1 := B0.trans (hb.mono (by first | omega | (simp <;> omega)))
  clear hb
  go_wp2
  go_returns
  exact ⟨rfl, B1⟩

set_option maxHeartbeats 1000000 in
theorem ends_i_yes (S M R K : Int) (hr : baseB S M R K = true) (w : World) :
    Calls Try.prog 17 #[.agg #[.int .i64 S, .int .i64 M, .int .i64 R, .int .i64 K]] w fun e w' => e = .returned (.tuple #[.int .i64 (2 * (S + M)), .int .i64 0]) ∧ Below w.heap.size w w' := by
  have HR := Lib.hid hr
  go_enter Try.func17, Try.ntmps17
  go_wp2_with fail
  refine (valid_i S M R K _).mono ?_
  rintro e w0 ⟨rfl, hb⟩
  have z0 := hb.size
  simp at z0
  have p0 : w0.cell? ⟨w.heap.size, 0, none⟩ = some (.int .i64 S) := by rw [(bcell hb).1 _ _ (by simp <;> omega)]; go_simp
  have p1 : w0.cell? ⟨w.heap.size, 1, none⟩ = some (.int .i64 M) := by rw [(bcell hb).1 _ _ (by simp <;> omega)]; go_simp
  have p2 : w0.cell? ⟨w.heap.size, 2, none⟩ = some (.int .i64 R) := by rw [(bcell hb).1 _ _ (by simp <;> omega)]; go_simp
  have p3 : w0.cell? ⟨w.heap.size, 3, none⟩ = some (.int .i64 K) := by rw [(bcell hb).1 _ _ (by simp <;> omega)]; go_simp
  have B0 : Below w.heap.size w w0 := Below.trans (by go_grown) (hb.mono (by simp <;> omega))
  clear hb
  go_wp2_with fail
  clear hr
  refine (ends_i S M R K _ HR.out).mono ?_
  rintro e w1 ⟨rfl, hb⟩
  have B1 : Below w.heap.size w w1 := B0.trans (hb.mono (by first | omega | (simp <;> omega)))
  clear hb
  go_wp2
  go_returns
  exact ⟨rfl, B1⟩

theorem stakes_bd {S M R K a l : Int} (hr : baseB S M R K = true) (h1 : inB a 1 2 = true) (h2 : inB l 0 4 = true) : 0 ≤ a * (2 * (S + M)) ∧ a * (2 * (S + M)) ≤ 96 := by
  obtain ⟨l1, l2, l3, l4, l5, l6, l7, l8⟩ := baseB_of hr
  obtain ⟨a1, a2⟩ := inB_of h1
  obtain ⟨b1, b2⟩ := inB_of h2
  have e1 : 0 ≤ a * (2 * (S + M)) := Int.mul_nonneg (by omega) (by omega)
  have e2 : a * (2 * (S + M)) ≤ 2 * 48 := Int.mul_le_mul a2 (by omega) (by omega) (by omega)
  omega

set_option maxHeartbeats 1000000 in
theorem stakes_s_no (S M R K a l : Int) (hr : baseB S M R K = false) (w : World) :
    Calls Try.prog 18 #[.agg #[.int .i64 S, .int .i64 M, .int .i64 R, .int .i64 K], .int .i64 a, .int .i64 l] w fun e w' => e = .returned (.tuple #[.int .i64 0, .int .i64 1]) ∧ Below w.heap.size w w' := by
  go_enter Try.func18, Try.ntmps18
  go_wp2_with fail
  refine (okB_s _ _ S M R K _ (by go_simp) (by go_simp) (by go_simp) (by go_simp)).mono ?_
  rintro e w0 ⟨rfl, hb⟩
  have z0 := hb.size
  simp at z0
  have p0 : w0.cell? ⟨w.heap.size, 0, none⟩ = some (.int .i64 S) := by rw [(bcell hb).1 _ _ (by simp <;> omega)]; go_simp
  have p1 : w0.cell? ⟨w.heap.size, 1, none⟩ = some (.int .i64 M) := by rw [(bcell hb).1 _ _ (by simp <;> omega)]; go_simp
  have p2 : w0.cell? ⟨w.heap.size, 2, none⟩ = some (.int .i64 R) := by rw [(bcell hb).1 _ _ (by simp <;> omega)]; go_simp
  have p3 : w0.cell? ⟨w.heap.size, 3, none⟩ = some (.int .i64 K) := by rw [(bcell hb).1 _ _ (by simp <;> omega)]; go_simp
  have B0 : Below w.heap.size w w0 := Below.trans (by go_grown) (hb.mono (by simp <;> omega))
  clear hb
  go_wp2_with (go_at_call 44; refine (in_s _ _ _ _).mono ?_; rintro e w' ⟨rfl, rfl⟩)
  go_returns
  exact ⟨rfl, B0⟩

set_option maxHeartbeats 1000000 in
theorem stakes_s_each (S M R K a l : Int) (hr : baseB S M R K = true) (h1 : inB a 1 2 = false) (w : World) :
    Calls Try.prog 18 #[.agg #[.int .i64 S, .int .i64 M, .int .i64 R, .int .i64 K], .int .i64 a, .int .i64 l] w fun e w' => e = .returned (.tuple #[.int .i64 0, .int .i64 2]) ∧ Below w.heap.size w w' := by
  go_enter Try.func18, Try.ntmps18
  go_wp2_with fail
  refine (okB_s _ _ S M R K _ (by go_simp) (by go_simp) (by go_simp) (by go_simp)).mono ?_
  rintro e w0 ⟨rfl, hb⟩
  have z0 := hb.size
  simp at z0
  have p0 : w0.cell? ⟨w.heap.size, 0, none⟩ = some (.int .i64 S) := by rw [(bcell hb).1 _ _ (by simp <;> omega)]; go_simp
  have p1 : w0.cell? ⟨w.heap.size, 1, none⟩ = some (.int .i64 M) := by rw [(bcell hb).1 _ _ (by simp <;> omega)]; go_simp
  have p2 : w0.cell? ⟨w.heap.size, 2, none⟩ = some (.int .i64 R) := by rw [(bcell hb).1 _ _ (by simp <;> omega)]; go_simp
  have p3 : w0.cell? ⟨w.heap.size, 3, none⟩ = some (.int .i64 K) := by rw [(bcell hb).1 _ _ (by simp <;> omega)]; go_simp
  have B0 : Below w.heap.size w w0 := Below.trans (by go_grown) (hb.mono (by simp <;> omega))
  clear hb
  go_wp2_with (go_at_call 44; refine (in_s _ _ _ _).mono ?_; rintro e w' ⟨rfl, rfl⟩)
  go_returns
  exact ⟨rfl, B0⟩

set_option maxHeartbeats 1000000 in
theorem stakes_s_few (S M R K a l : Int) (hr : baseB S M R K = true) (h1 : inB a 1 2 = true) (h2 : inB l 0 4 = false) (w : World) :
    Calls Try.prog 18 #[.agg #[.int .i64 S, .int .i64 M, .int .i64 R, .int .i64 K], .int .i64 a, .int .i64 l] w fun e w' => e = .returned (.tuple #[.int .i64 0, .int .i64 2]) ∧ Below w.heap.size w w' := by
  go_enter Try.func18, Try.ntmps18
  go_wp2_with fail
  refine (okB_s _ _ S M R K _ (by go_simp) (by go_simp) (by go_simp) (by go_simp)).mono ?_
  rintro e w0 ⟨rfl, hb⟩
  have z0 := hb.size
  simp at z0
  have p0 : w0.cell? ⟨w.heap.size, 0, none⟩ = some (.int .i64 S) := by rw [(bcell hb).1 _ _ (by simp <;> omega)]; go_simp
  have p1 : w0.cell? ⟨w.heap.size, 1, none⟩ = some (.int .i64 M) := by rw [(bcell hb).1 _ _ (by simp <;> omega)]; go_simp
  have p2 : w0.cell? ⟨w.heap.size, 2, none⟩ = some (.int .i64 R) := by rw [(bcell hb).1 _ _ (by simp <;> omega)]; go_simp
  have p3 : w0.cell? ⟨w.heap.size, 3, none⟩ = some (.int .i64 K) := by rw [(bcell hb).1 _ _ (by simp <;> omega)]; go_simp
  have B0 : Below w.heap.size w w0 := Below.trans (by go_grown) (hb.mono (by simp <;> omega))
  clear hb
  go_wp2_with (go_at_call 44; refine (in_s _ _ _ _).mono ?_; rintro e w' ⟨rfl, rfl⟩)
  go_returns
  exact ⟨rfl, B0⟩

set_option maxHeartbeats 1000000 in
theorem stakes_s_state (S M R K a l : Int) (hr : baseB S M R K = true) (h1 : inB a 1 2 = true) (h2 : inB l 0 4 = true) (h3 : a * (2 * (S + M)) - l < 3) (w : World) :
    Calls Try.prog 18 #[.agg #[.int .i64 S, .int .i64 M, .int .i64 R, .int .i64 K], .int .i64 a, .int .i64 l] w fun e w' => e = .returned (.tuple #[.int .i64 0, .int .i64 6]) ∧ Below w.heap.size w w' := by
  have HR := Lib.hid hr
  obtain ⟨m1, m2⟩ := stakes_bd hr h1 h2
  obtain ⟨n1, n2⟩ := inB_of h2
  have e1 : IntKind.i64.wrap (a * (2 * (S + M))) = a * (2 * (S + M)) := by rw [IntKind.wrap_i64]; omega
  have e2 : IntKind.i64.wrap (a * (2 * (S + M)) - l) = a * (2 * (S + M)) - l := by rw [IntKind.wrap_i64]; omega
  go_enter Try.func18, Try.ntmps18
  go_wp2_with fail
  refine (okB_s _ _ S M R K _ (by go_simp) (by go_simp) (by go_simp) (by go_simp)).mono ?_
  rintro e w0 ⟨rfl, hb⟩
  have z0 := hb.size
  simp at z0
  have p0 : w0.cell? ⟨w.heap.size, 0, none⟩ = some (.int .i64 S) := by rw [(bcell hb).1 _ _ (by simp <;> omega)]; go_simp
  have p1 : w0.cell? ⟨w.heap.size, 1, none⟩ = some (.int .i64 M) := by rw [(bcell hb).1 _ _ (by simp <;> omega)]; go_simp
  have p2 : w0.cell? ⟨w.heap.size, 2, none⟩ = some (.int .i64 R) := by rw [(bcell hb).1 _ _ (by simp <;> omega)]; go_simp
  have p3 : w0.cell? ⟨w.heap.size, 3, none⟩ = some (.int .i64 K) := by rw [(bcell hb).1 _ _ (by simp <;> omega)]; go_simp
  have B0 : Below w.heap.size w w0 := Below.trans (by go_grown) (hb.mono (by simp <;> omega))
  clear hb
  go_wp2_with (go_at_call 44; refine (in_s _ _ _ _).mono ?_; rintro e w' ⟨rfl, rfl⟩)
  clear hr
  refine (endsB_s _ _ S M R K _ HR.out (by go_simp) (by go_simp)).mono ?_
  rintro e w1 ⟨rfl, hb⟩
  have B1 : Below w.heap.size w w1 := B0.trans (hb.mono (by first | omega | (simp <;> omega)))
  clear hb
  go_wp2
  go_returns
  exact ⟨rfl, B1⟩

set_option maxHeartbeats 1000000 in
theorem stakes_s_yes (S M R K a l : Int) (hr : baseB S M R K = true) (h1 : inB a 1 2 = true) (h2 : inB l 0 4 = true) (h3 : ¬ a * (2 * (S + M)) - l < 3) (w : World) :
    Calls Try.prog 18 #[.agg #[.int .i64 S, .int .i64 M, .int .i64 R, .int .i64 K], .int .i64 a, .int .i64 l] w fun e w' => e = .returned (.tuple #[.int .i64 (a * (2 * (S + M)) - l), .int .i64 0]) ∧ Below w.heap.size w w' := by
  have HR := Lib.hid hr
  obtain ⟨m1, m2⟩ := stakes_bd hr h1 h2
  obtain ⟨n1, n2⟩ := inB_of h2
  have e1 : IntKind.i64.wrap (a * (2 * (S + M))) = a * (2 * (S + M)) := by rw [IntKind.wrap_i64]; omega
  have e2 : IntKind.i64.wrap (a * (2 * (S + M)) - l) = a * (2 * (S + M)) - l := by rw [IntKind.wrap_i64]; omega
  go_enter Try.func18, Try.ntmps18
  go_wp2_with fail
  refine (okB_s _ _ S M R K _ (by go_simp) (by go_simp) (by go_simp) (by go_simp)).mono ?_
  rintro e w0 ⟨rfl, hb⟩
  have z0 := hb.size
  simp at z0
  have p0 : w0.cell? ⟨w.heap.size, 0, none⟩ = some (.int .i64 S) := by rw [(bcell hb).1 _ _ (by simp <;> omega)]; go_simp
  have p1 : w0.cell? ⟨w.heap.size, 1, none⟩ = some (.int .i64 M) := by rw [(bcell hb).1 _ _ (by simp <;> omega)]; go_simp
  have p2 : w0.cell? ⟨w.heap.size, 2, none⟩ = some (.int .i64 R) := by rw [(bcell hb).1 _ _ (by simp <;> omega)]; go_simp
  have p3 : w0.cell? ⟨w.heap.size, 3, none⟩ = some (.int .i64 K) := by rw [(bcell hb).1 _ _ (by simp <;> omega)]; go_simp
  have B0 : Below w.heap.size w w0 := Below.trans (by go_grown) (hb.mono (by simp <;> omega))
  clear hb
  go_wp2_with (go_at_call 44; refine (in_s _ _ _ _).mono ?_; rintro e w' ⟨rfl, rfl⟩)
  clear hr
  refine (endsB_s _ _ S M R K _ HR.out (by go_simp) (by go_simp)).mono ?_
  rintro e w1 ⟨rfl, hb⟩
  have B1 : Below w.heap.size w w1 := B0.trans (hb.mono (by first | omega | (simp <;> omega)))
  clear hb
  go_wp2
  go_returns
  exact ⟨rfl, B1⟩

set_option maxHeartbeats 1000000 in
theorem stakes_i_no (S M R K a l : Int) (hr : baseB S M R K = false) (w : World) :
    Calls Try.prog 19 #[.agg #[.int .i64 S, .int .i64 M, .int .i64 R, .int .i64 K], .int .i64 a, .int .i64 l] w fun e w' => e = .returned (.tuple #[.int .i64 0, .int .i64 1]) ∧ Below w.heap.size w w' := by
  go_enter Try.func19, Try.ntmps19
  go_wp2_with fail
  refine (valid_i S M R K _).mono ?_
  rintro e w0 ⟨rfl, hb⟩
  have z0 := hb.size
  simp at z0
  have p0 : w0.cell? ⟨w.heap.size, 0, none⟩ = some (.int .i64 S) := by rw [(bcell hb).1 _ _ (by simp <;> omega)]; go_simp
  have p1 : w0.cell? ⟨w.heap.size, 1, none⟩ = some (.int .i64 M) := by rw [(bcell hb).1 _ _ (by simp <;> omega)]; go_simp
  have p2 : w0.cell? ⟨w.heap.size, 2, none⟩ = some (.int .i64 R) := by rw [(bcell hb).1 _ _ (by simp <;> omega)]; go_simp
  have p3 : w0.cell? ⟨w.heap.size, 3, none⟩ = some (.int .i64 K) := by rw [(bcell hb).1 _ _ (by simp <;> omega)]; go_simp
  have B0 : Below w.heap.size w w0 := Below.trans (by go_grown) (hb.mono (by simp <;> omega))
  clear hb
  go_wp2_with (go_at_call 41; refine (in_i _ _ _ _).mono ?_; rintro e w' ⟨rfl, rfl⟩)
  go_returns
  exact ⟨rfl, B0⟩

set_option maxHeartbeats 1000000 in
theorem stakes_i_each (S M R K a l : Int) (hr : baseB S M R K = true) (h1 : inB a 1 2 = false) (w : World) :
    Calls Try.prog 19 #[.agg #[.int .i64 S, .int .i64 M, .int .i64 R, .int .i64 K], .int .i64 a, .int .i64 l] w fun e w' => e = .returned (.tuple #[.int .i64 0, .int .i64 2]) ∧ Below w.heap.size w w' := by
  go_enter Try.func19, Try.ntmps19
  go_wp2_with fail
  refine (valid_i S M R K _).mono ?_
  rintro e w0 ⟨rfl, hb⟩
  have z0 := hb.size
  simp at z0
  have p0 : w0.cell? ⟨w.heap.size, 0, none⟩ = some (.int .i64 S) := by rw [(bcell hb).1 _ _ (by simp <;> omega)]; go_simp
  have p1 : w0.cell? ⟨w.heap.size, 1, none⟩ = some (.int .i64 M) := by rw [(bcell hb).1 _ _ (by simp <;> omega)]; go_simp
  have p2 : w0.cell? ⟨w.heap.size, 2, none⟩ = some (.int .i64 R) := by rw [(bcell hb).1 _ _ (by simp <;> omega)]; go_simp
  have p3 : w0.cell? ⟨w.heap.size, 3, none⟩ = some (.int .i64 K) := by rw [(bcell hb).1 _ _ (by simp <;> omega)]; go_simp
  have B0 : Below w.heap.size w w0 := Below.trans (by go_grown) (hb.mono (by simp <;> omega))
  clear hb
  go_wp2_with (go_at_call 41; refine (in_i _ _ _ _).mono ?_; rintro e w' ⟨rfl, rfl⟩)
  go_returns
  exact ⟨rfl, B0⟩

set_option maxHeartbeats 1000000 in
theorem stakes_i_few (S M R K a l : Int) (hr : baseB S M R K = true) (h1 : inB a 1 2 = true) (h2 : inB l 0 4 = false) (w : World) :
    Calls Try.prog 19 #[.agg #[.int .i64 S, .int .i64 M, .int .i64 R, .int .i64 K], .int .i64 a, .int .i64 l] w fun e w' => e = .returned (.tuple #[.int .i64 0, .int .i64 2]) ∧ Below w.heap.size w w' := by
  go_enter Try.func19, Try.ntmps19
  go_wp2_with fail
  refine (valid_i S M R K _).mono ?_
  rintro e w0 ⟨rfl, hb⟩
  have z0 := hb.size
  simp at z0
  have p0 : w0.cell? ⟨w.heap.size, 0, none⟩ = some (.int .i64 S) := by rw [(bcell hb).1 _ _ (by simp <;> omega)]; go_simp
  have p1 : w0.cell? ⟨w.heap.size, 1, none⟩ = some (.int .i64 M) := by rw [(bcell hb).1 _ _ (by simp <;> omega)]; go_simp
  have p2 : w0.cell? ⟨w.heap.size, 2, none⟩ = some (.int .i64 R) := by rw [(bcell hb).1 _ _ (by simp <;> omega)]; go_simp
  have p3 : w0.cell? ⟨w.heap.size, 3, none⟩ = some (.int .i64 K) := by rw [(bcell hb).1 _ _ (by simp <;> omega)]; go_simp
  have B0 : Below w.heap.size w w0 := Below.trans (by go_grown) (hb.mono (by simp <;> omega))
  clear hb
  go_wp2_with (go_at_call 41; refine (in_i _ _ _ _).mono ?_; rintro e w' ⟨rfl, rfl⟩)
  go_returns
  exact ⟨rfl, B0⟩

set_option maxHeartbeats 1000000 in
theorem stakes_i_state (S M R K a l : Int) (hr : baseB S M R K = true) (h1 : inB a 1 2 = true) (h2 : inB l 0 4 = true) (h3 : a * (2 * (S + M)) - l < 3) (w : World) :
    Calls Try.prog 19 #[.agg #[.int .i64 S, .int .i64 M, .int .i64 R, .int .i64 K], .int .i64 a, .int .i64 l] w fun e w' => e = .returned (.tuple #[.int .i64 0, .int .i64 6]) ∧ Below w.heap.size w w' := by
  have HR := Lib.hid hr
  obtain ⟨m1, m2⟩ := stakes_bd hr h1 h2
  obtain ⟨n1, n2⟩ := inB_of h2
  have e1 : IntKind.i64.wrap (a * (2 * (S + M))) = a * (2 * (S + M)) := by rw [IntKind.wrap_i64]; omega
  have e2 : IntKind.i64.wrap (a * (2 * (S + M)) - l) = a * (2 * (S + M)) - l := by rw [IntKind.wrap_i64]; omega
  go_enter Try.func19, Try.ntmps19
  go_wp2_with fail
  refine (valid_i S M R K _).mono ?_
  rintro e w0 ⟨rfl, hb⟩
  have z0 := hb.size
  simp at z0
  have p0 : w0.cell? ⟨w.heap.size, 0, none⟩ = some (.int .i64 S) := by rw [(bcell hb).1 _ _ (by simp <;> omega)]; go_simp
  have p1 : w0.cell? ⟨w.heap.size, 1, none⟩ = some (.int .i64 M) := by rw [(bcell hb).1 _ _ (by simp <;> omega)]; go_simp
  have p2 : w0.cell? ⟨w.heap.size, 2, none⟩ = some (.int .i64 R) := by rw [(bcell hb).1 _ _ (by simp <;> omega)]; go_simp
  have p3 : w0.cell? ⟨w.heap.size, 3, none⟩ = some (.int .i64 K) := by rw [(bcell hb).1 _ _ (by simp <;> omega)]; go_simp
  have B0 : Below w.heap.size w w0 := Below.trans (by go_grown) (hb.mono (by simp <;> omega))
  clear hb
  go_wp2_with (go_at_call 41; refine (in_i _ _ _ _).mono ?_; rintro e w' ⟨rfl, rfl⟩)
  clear hr
  refine (ends_i S M R K _ HR.out).mono ?_
  rintro e w1 ⟨rfl, hb⟩
  have B1 : Below w.heap.size w w1 := B0.trans (hb.mono (by first | omega | (simp <;> omega)))
  clear hb
  go_wp2
  go_returns
  exact ⟨rfl, B1⟩

set_option maxHeartbeats 1000000 in
theorem stakes_i_yes (S M R K a l : Int) (hr : baseB S M R K = true) (h1 : inB a 1 2 = true) (h2 : inB l 0 4 = true) (h3 : ¬ a * (2 * (S + M)) - l < 3) (w : World) :
    Calls Try.prog 19 #[.agg #[.int .i64 S, .int .i64 M, .int .i64 R, .int .i64 K], .int .i64 a, .int .i64 l] w fun e w' => e = .returned (.tuple #[.int .i64 (a * (2 * (S + M)) - l), .int .i64 0]) ∧ Below w.heap.size w w' := by
  have HR := Lib.hid hr
  obtain ⟨m1, m2⟩ := stakes_bd hr h1 h2
  obtain ⟨n1, n2⟩ := inB_of h2
  have e1 : IntKind.i64.wrap (a * (2 * (S + M))) = a * (2 * (S + M)) := by rw [IntKind.wrap_i64]; omega
  have e2 : IntKind.i64.wrap (a * (2 * (S + M)) - l) = a * (2 * (S + M)) - l := by rw [IntKind.wrap_i64]; omega
  go_enter Try.func19, Try.ntmps19
  go_wp2_with fail
  refine (valid_i S M R K _).mono ?_
  rintro e w0 ⟨rfl, hb⟩
  have z0 := hb.size
  simp at z0
  have p0 : w0.cell? ⟨w.heap.size, 0, none⟩ = some (.int .i64 S) := by rw [(bcell hb).1 _ _ (by simp <;> omega)]; go_simp
  have p1 : w0.cell? ⟨w.heap.size, 1, none⟩ = some (.int .i64 M) := by rw [(bcell hb).1 _ _ (by simp <;> omega)]; go_simp
  have p2 : w0.cell? ⟨w.heap.size, 2, none⟩ = some (.int .i64 R) := by rw [(bcell hb).1 _ _ (by simp <;> omega)]; go_simp
  have p3 : w0.cell? ⟨w.heap.size, 3, none⟩ = some (.int .i64 K) := by rw [(bcell hb).1 _ _ (by simp <;> omega)]; go_simp
  have B0 : Below w.heap.size w w0 := Below.trans (by go_grown) (hb.mono (by simp <;> omega))
  clear hb
  go_wp2_with (go_at_call 41; refine (in_i _ _ _ _).mono ?_; rintro e w' ⟨rfl, rfl⟩)
  clear hr
  refine (ends_i S M R K _ HR.out).mono ?_
  rintro e w1 ⟨rfl, hb⟩
  have B1 : Below w.heap.size w w1 := B0.trans (hb.mono (by first | omega | (simp <;> omega)))
  clear hb
  go_wp2
  go_returns
  exact ⟨rfl, B1⟩

end Go.Proofs.Ythcpkmdgipepgaa.ba
