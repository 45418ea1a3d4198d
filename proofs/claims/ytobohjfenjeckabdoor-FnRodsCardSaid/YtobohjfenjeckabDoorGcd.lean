/-
  Contracts of the thickness of a rod.
-/
import Derived.Test.YtobohjfenjeckabDoorRod
import Derived.Test.YtobohjfenjeckabDoorFrac
namespace Go.Proofs.YtobohjfenjeckabDoor.rod
open Go.ChangeShapes Go.WideShapes Go.ChangeAt Go.RowKit
set_option linter.unusedVariables false

/-- the thickness of a rod at a distance, times its length -/
def thk (L B T at' : Int) : Int := B * L - (B - T) * at'
/-- what a valid rod and a distance give: the products in bounds, as the walk wants them -/
theorem thk_bd {L B T d : Int} (h : rodB L B T = true) (h0 : 0 ≤ d) (h1 : d ≤ L) :
    0 ≤ B * L ∧ B * L ≤ 900000 ∧ 0 ≤ (B - T) * d ∧ (B - T) * d ≤ 900000 ∧ 100 ≤ B * L - (B - T) * d ∧ B * L - (B - T) * d ≤ 900000 ∧ L ≤ B * L - (B - T) * d := by
  unfold rodB at h
  simp only [Bool.and_eq_true] at h
  obtain ⟨h2, h3, h4⟩ := h
  obtain ⟨a1, a2⟩ := inB_of h2
  obtain ⟨b1, b2⟩ := inB_of h3
  obtain ⟨c1, c2⟩ := inB_of h4
  have e1 : 0 ≤ B * L := Int.mul_nonneg (by omega) (by omega)
  have e2 : B * L ≤ 300 * 3000 := Int.mul_le_mul b2 a2 (by omega) (by omega)
  have e3 : 0 ≤ (B - T) * d := Int.mul_nonneg (by omega) h0
  have e4 : (B - T) * d ≤ (B - T) * L := Int.mul_le_mul_of_nonneg_left h1 (by omega)
  have e5 : (B - T) * L = B * L - T * L := by rw [Int.sub_mul]
  have e6 : 1 * L ≤ T * L := Int.mul_le_mul_of_nonneg_right c1 (by omega)
  omega
set_option maxHeartbeats 1000000 in
theorem thick_s (b o : Nat) (L B T d : Int) (w : World) (h0 : w.cell? ⟨b, o, none⟩ = some (.int .i64 L)) (h1 : w.cell? ⟨b, o + 1, none⟩ = some (.int .i64 B)) (h2 : w.cell? ⟨b, o + 2, none⟩ = some (.int .i64 T))
    (hr : rodB L B T = true) (d0 : 0 ≤ d) (d1 : d ≤ L) :
    Calls Tryd.prog 22 #[.pointer (some ⟨b, o, none⟩), .int .i64 d] w fun e w' => e = .returned (.int .i64 (thk L B T d)) ∧ ∃ n, w' = w.drewN n := by
  obtain ⟨a1, a2, b1, b2, c1, c2⟩ := rodB_of hr
  obtain ⟨e1, e2, e3, e4, e5, e6, e7⟩ := thk_bd hr d0 d1
  have HR := Lib.hid hr
  clear hr
  have k1 : IntKind.i64.wrap (B * L) = B * L := IntWalk.i64_in _ (by omega)
  have k2 : IntKind.i64.wrap (B - T) = B - T := IntWalk.i64_in _ (by omega)
  have k3 : IntKind.i64.wrap ((B - T) * d) = (B - T) * d := IntWalk.i64_in _ (by omega)
  have k4 : IntKind.i64.wrap (B * L - (B - T) * d) = B * L - (B - T) * d := IntWalk.i64_in _ (by omega)
  go_enter Tryd.func22, Tryd.ntmps22
  go_wp2_with fail
  go_quiet (fail)
  go_wp2
  go_ret
  exact ⟨rfl, _, rfl⟩

set_option maxHeartbeats 1000000 in
theorem thick_i (L B T d : Int) (w : World) (hr : rodB L B T = true) (d0 : 0 ≤ d) (d1 : d ≤ L) :
    Calls Tryd.prog 18 #[.agg #[.int .i64 L, .int .i64 B, .int .i64 T], .int .i64 d] w fun e w' => e = .returned (.int .i64 (thk L B T d)) ∧ Below w.heap.size w w' := by
  obtain ⟨a1, a2, b1, b2, c1, c2⟩ := rodB_of hr
  obtain ⟨e1, e2, e3, e4, e5, e6, e7⟩ := thk_bd hr d0 d1
  clear hr
  go_enter Tryd.func18, Tryd.ntmps18
  go_wp2
  go_ret
  exact ⟨rfl, by go_grown⟩

end Go.Proofs.YtobohjfenjeckabDoor.rod
