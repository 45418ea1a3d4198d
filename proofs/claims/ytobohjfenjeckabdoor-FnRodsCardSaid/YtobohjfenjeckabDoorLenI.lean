/-
  Contracts of LengthWith, the program's, on valid rods and thicknesses.
-/
import Derived.Test.YtobohjfenjeckabDoorThickI
namespace Go.Proofs.YtobohjfenjeckabDoor.rod
open Go.ChangeShapes Go.WideShapes Go.ChangeAt Go.RowKit Go.Proofs.YtobohjfenjeckabDoor.mem
set_option linter.unusedVariables false

theorem prod_bd {L B T t : Int} (h : rodB L B T = true) (h0 : T < t) (h1 : t ≤ B) :
    0 ≤ (B - t) * L ∧ (B - t) * L ≤ 900000 := by
  obtain ⟨a1, a2, b1, b2, c1, c2⟩ := rodB_of h
  have e1 : 0 ≤ (B - t) * L := Int.mul_nonneg (by omega) (by omega)
  have e2 : (B - t) * L ≤ 300 * 3000 := Int.mul_le_mul (by omega) a2 (by omega) (by omega)
  omega
set_option maxHeartbeats 1000000 in
theorem len_i_thin (L B T t : Int) (hr : rodB L B T = true) (hd : inB t 1 300 = true) (ht : B < t) (w : World) :
    Calls Tryd.prog 7 #[.agg #[.int .i64 L, .int .i64 B, .int .i64 T], .int .i64 t] w fun e w' => e = .returned (.tuple #[.int .i64 0, .int .i64 3]) ∧ Below w.heap.size w w' := by
  go_enter Tryd.func7, Tryd.ntmps7
  go_wp2_with fail
  refine (rod_i L B T _).mono ?_
  rintro e w1 ⟨rfl, hb⟩
  have c0 : w1.cell? ⟨w.heap.size, 0, none⟩ = some (.int .i64 L) := by rw [(bcell hb).1 _ _ (by simp <;> omega)]; go_simp
  have c1 : w1.cell? ⟨w.heap.size, 1, none⟩ = some (.int .i64 B) := by rw [(bcell hb).1 _ _ (by simp <;> omega)]; go_simp
  have c2 : w1.cell? ⟨w.heap.size, 2, none⟩ = some (.int .i64 T) := by rw [(bcell hb).1 _ _ (by simp <;> omega)]; go_simp
  have hg : Below w.heap.size w w1 := Below.trans (by go_grown) (hb.mono (by simp <;> omega))
  clear hb
  go_wp2_with (go_at_call 16; refine (in_i _ _ _ _).mono ?_; rintro e w' ⟨rfl, rfl⟩)
  go_returns
  exact ⟨rfl, hg⟩

set_option maxHeartbeats 1000000 in
theorem len_i_all (L B T t : Int) (hr : rodB L B T = true) (hd : inB t 1 300 = true) (ht : t ≤ B) (hu : t ≤ T) (w : World) :
    Calls Tryd.prog 7 #[.agg #[.int .i64 L, .int .i64 B, .int .i64 T], .int .i64 t] w fun e w' => e = .returned (.tuple #[.int .i64 L, .int .i64 0]) ∧ Below w.heap.size w w' := by
  obtain ⟨l1, l2⟩ := inB_of hd
  go_enter Tryd.func7, Tryd.ntmps7
  go_wp2_with fail
  refine (rod_i L B T _).mono ?_
  rintro e w1 ⟨rfl, hb⟩
  have c0 : w1.cell? ⟨w.heap.size, 0, none⟩ = some (.int .i64 L) := by rw [(bcell hb).1 _ _ (by simp <;> omega)]; go_simp
  have c1 : w1.cell? ⟨w.heap.size, 1, none⟩ = some (.int .i64 B) := by rw [(bcell hb).1 _ _ (by simp <;> omega)]; go_simp
  have c2 : w1.cell? ⟨w.heap.size, 2, none⟩ = some (.int .i64 T) := by rw [(bcell hb).1 _ _ (by simp <;> omega)]; go_simp
  have hg : Below w.heap.size w w1 := Below.trans (by go_grown) (hb.mono (by simp <;> omega))
  clear hb
  go_wp2_with (go_at_call 16; refine (in_i _ _ _ _).mono ?_; rintro e w' ⟨rfl, rfl⟩)
  go_returns
  exact ⟨rfl, hg⟩

set_option maxHeartbeats 1000000 in
theorem len_i_part (L B T t : Int) (hr : rodB L B T = true) (hd : inB t 1 300 = true) (ht : t ≤ B) (hu : T < t) (w : World) :
    Calls Tryd.prog 7 #[.agg #[.int .i64 L, .int .i64 B, .int .i64 T], .int .i64 t] w fun e w' => e = .returned (.tuple #[.int .i64 ((B - t) * L / (B - T)), .int .i64 0]) ∧ Below w.heap.size w w' := by
  obtain ⟨l1, l2⟩ := inB_of hd
  obtain ⟨m1, m2⟩ := prod_bd hr hu ht
  obtain ⟨a1, a2, b1, b2, c1', c2'⟩ := rodB_of hr
  have r1 : (B - t) * L / (B - T) ≤ (B - t) * L := Int.ediv_le_self _ m1
  have r0 : 0 ≤ (B - t) * L / (B - T) := Int.ediv_nonneg m1 (by omega)
  go_enter Tryd.func7, Tryd.ntmps7
  go_wp2_with fail
  refine (rod_i L B T _).mono ?_
  rintro e w1 ⟨rfl, hb⟩
  have c0 : w1.cell? ⟨w.heap.size, 0, none⟩ = some (.int .i64 L) := by rw [(bcell hb).1 _ _ (by simp <;> omega)]; go_simp
  have c1 : w1.cell? ⟨w.heap.size, 1, none⟩ = some (.int .i64 B) := by rw [(bcell hb).1 _ _ (by simp <;> omega)]; go_simp
  have c2 : w1.cell? ⟨w.heap.size, 2, none⟩ = some (.int .i64 T) := by rw [(bcell hb).1 _ _ (by simp <;> omega)]; go_simp
  have hg : Below w.heap.size w w1 := Below.trans (by go_grown) (hb.mono (by simp <;> omega))
  clear hb
  go_wp2_with (go_at_call 16; refine (in_i _ _ _ _).mono ?_; rintro e w' ⟨rfl, rfl⟩)
  go_returns
  exact ⟨rfl, hg⟩

end Go.Proofs.YtobohjfenjeckabDoor.rod
