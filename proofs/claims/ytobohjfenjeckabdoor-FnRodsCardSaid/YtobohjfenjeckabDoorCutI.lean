/-
  Contract of CutTip, the program's, on valid rods and lengths.
-/
import Derived.Test.YtobohjfenjeckabDoorThickI
namespace Go.Proofs.YtobohjfenjeckabDoor.rod
open Go.ChangeShapes Go.WideShapes Go.ChangeAt Go.RowKit Go.Proofs.YtobohjfenjeckabDoor.mem
set_option linter.unusedVariables false

/-- the thickness in whole tenths -/
def tipAt (L B T d : Int) : Int := thk L B T d / L
theorem tipAt_bd {L B T d : Int} (h : rodB L B T = true) (h0 : 0 ≤ d) (h1 : d ≤ L) : 1 ≤ thk L B T d / L ∧ thk L B T d / L ≤ 900000 := by
  obtain ⟨e1, e2, e3, e4, e5, e6, e7⟩ := thk_bd h h0 h1
  have l1 := rodB_of h
  constructor
  · exact Int.le_ediv_of_mul_le (by omega) (by unfold thk; omega)
  · have := Int.ediv_le_self (a := thk L B T d) L (by unfold thk; omega)
    unfold thk at *
    omega

set_option maxHeartbeats 1000000 in
theorem cut_i (L B T d : Int) (hr : rodB L B T = true) (hd : inB d 100 L = true) (w : World) :
    Calls Tryd.prog 9 #[.agg #[.int .i64 L, .int .i64 B, .int .i64 T], .int .i64 d] w fun e w' => e = .returned (.tuple #[.agg #[.int .i64 d, .int .i64 B, .int .i64 (thk L B T d / L)], .int .i64 0]) ∧ Below w.heap.size w w' := by
  go_enter Tryd.func9, Tryd.ntmps9
  go_wp2_with fail
  refine (rod_i L B T _).mono ?_
  rintro e w1 ⟨rfl, hb⟩
  have hz := hb.size
  simp at hz
  have c0 : w1.cell? ⟨w.heap.size + 1, 0, none⟩ = some (.int .i64 0) := by rw [(bcell hb).1 _ _ (by simp <;> omega)]; go_simp
  have c1 : w1.cell? ⟨w.heap.size + 1, 1, none⟩ = some (.int .i64 0) := by rw [(bcell hb).1 _ _ (by simp <;> omega)]; go_simp
  have c2 : w1.cell? ⟨w.heap.size + 1, 2, none⟩ = some (.int .i64 0) := by rw [(bcell hb).1 _ _ (by simp <;> omega)]; go_simp
  have f0 : w1.frozen? ⟨w.heap.size + 1, 0, none⟩ = false := by rw [(bcell hb).2 _ _ (by simp <;> omega)]; go_simp
  have f1 : w1.frozen? ⟨w.heap.size + 1, 1, none⟩ = false := by rw [(bcell hb).2 _ _ (by simp <;> omega)]; go_simp
  have f2 : w1.frozen? ⟨w.heap.size + 1, 2, none⟩ = false := by rw [(bcell hb).2 _ _ (by simp <;> omega)]; go_simp
  have c3 : w1.cell? ⟨w.heap.size, 0, none⟩ = some (.int .i64 L) := by rw [(bcell hb).1 _ _ (by simp <;> omega)]; go_simp
  have c4 : w1.cell? ⟨w.heap.size, 1, none⟩ = some (.int .i64 B) := by rw [(bcell hb).1 _ _ (by simp <;> omega)]; go_simp
  have c5 : w1.cell? ⟨w.heap.size, 2, none⟩ = some (.int .i64 T) := by rw [(bcell hb).1 _ _ (by simp <;> omega)]; go_simp
  have hg : Below w.heap.size w w1 := Below.trans (by go_grown) (hb.mono (by simp <;> omega))
  clear hb
  go_wp2_with (go_at_call 16; refine (in_i _ _ _ _).mono ?_; rintro e w' ⟨rfl, rfl⟩)
  obtain ⟨d0, d1⟩ := inB_of hd
  obtain ⟨e1, e2, e3, e4, e5, e6, e7⟩ := thk_bd hr (by omega) d1
  obtain ⟨e8, e9⟩ := tipAt_bd hr (by omega) d1
  have l1 := rodB_of hr
  have t1 : (thk L B T d).tdiv L = thk L B T d / L := Int.tdiv_eq_ediv_of_nonneg (by unfold thk; omega)
  have t2 : IntKind.i64.wrap (thk L B T d / L) = thk L B T d / L := IntWalk.i64_in _ (by omega)
  have t3 : (L == 0) = false := by simp; omega
  have t4 : ¬ L = 0 := by omega
  have HR := Lib.hid hr
  clear hr hd
  go_region_held3 (fun x => x.cell? ⟨w.heap.size, 0, none⟩ = some (.int .i64 L) ∧ x.cell? ⟨w.heap.size, 1, none⟩ = some (.int .i64 B) ∧ x.cell? ⟨w.heap.size, 2, none⟩ = some (.int .i64 T)) (first | go_keep | exact ⟨p3, p4, p5⟩)
    (first
      | (go_at_call 18; refine (thick_i L B T d _ HR.out (by omega) d1).mono ?_; rintro e w2 ⟨rfl, hb⟩
         have hz2 := hb.size
         simp at hz2
         have p0 : w2.cell? ⟨w.heap.size + 1, 0, none⟩ = some (.int .i64 0) := by rw [(bcell hb).1 _ _ (by simp <;> omega)]; go_simp
         have p1 : w2.cell? ⟨w.heap.size + 1, 1, none⟩ = some (.int .i64 0) := by rw [(bcell hb).1 _ _ (by simp <;> omega)]; go_simp
         have p2 : w2.cell? ⟨w.heap.size + 1, 2, none⟩ = some (.int .i64 0) := by rw [(bcell hb).1 _ _ (by simp <;> omega)]; go_simp
         have p3 : w2.cell? ⟨w.heap.size, 0, none⟩ = some (.int .i64 L) := by rw [(bcell hb).1 _ _ (by simp <;> omega)]; go_simp
         have p4 : w2.cell? ⟨w.heap.size, 1, none⟩ = some (.int .i64 B) := by rw [(bcell hb).1 _ _ (by simp <;> omega)]; go_simp
         have p5 : w2.cell? ⟨w.heap.size, 2, none⟩ = some (.int .i64 T) := by rw [(bcell hb).1 _ _ (by simp <;> omega)]; go_simp
         have p6 : w2.frozen? ⟨w.heap.size + 1, 0, none⟩ = false := by rw [(bcell hb).2 _ _ (by simp <;> omega)]; go_simp
         have p7 : w2.frozen? ⟨w.heap.size + 1, 1, none⟩ = false := by rw [(bcell hb).2 _ _ (by simp <;> omega)]; go_simp
         have p8 : w2.frozen? ⟨w.heap.size + 1, 2, none⟩ = false := by rw [(bcell hb).2 _ _ (by simp <;> omega)]; go_simp
         have hg2 : Below w.heap.size w w2 := Below.trans hg.drew (hb.mono (by simp; omega))
         clear hb))
  go_wp2
  exact bodyPost_ret (v := .tuple #[.agg #[.int .i64 d, .int .i64 B, .int .i64 (thk L B T d / L)], .int .i64 0]) (by simp [results, Tryd.results9, go_sem, p0, p1, p2]) rfl
    ⟨rfl, Below.setCell (Below.setCell (Below.setCell hg2 (by simp) _) (by simp) _) (by simp) _⟩

end Go.Proofs.YtobohjfenjeckabDoor.rod
