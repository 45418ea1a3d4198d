/-
  Contracts of the program's ThickAt, and of the helpers of the laws on one rod.
-/
import Derived.Test.YtobohjfenjeckabDoorThick
namespace Go.Proofs.YtobohjfenjeckabDoor.rod
open Go.ChangeShapes Go.WideShapes Go.ChangeAt Go.RowKit Go.Proofs.YtobohjfenjeckabDoor.mem
set_option linter.unusedVariables false

set_option maxHeartbeats 1000000 in
theorem thickAt_i_bad (L B T d : Int) (hr : rodB L B T = false) (w : World) :
    Calls Tryd.prog 8 #[.agg #[.int .i64 L, .int .i64 B, .int .i64 T], .int .i64 d] w fun e w' => e = .returned (.tuple #[.agg #[.int .i64 0, .int .i64 0], .int .i64 1]) ∧ Below w.heap.size w w' := by
  go_enter Tryd.func8, Tryd.ntmps8
  go_wp2_with fail
  refine (rod_i L B T _).mono ?_
  rintro e w1 ⟨rfl, hb⟩
  obtain ⟨hc, hf⟩ := bcell hb
  have hz := hb.size
  simp at hz
  have c0 : w1.cell? ⟨w.heap.size + 1, 0, none⟩ = some (.int .i64 0) := by rw [hc _ _ (by simp <;> omega)]; go_simp
  have c1 : w1.cell? ⟨w.heap.size + 1, 1, none⟩ = some (.int .i64 0) := by rw [hc _ _ (by simp <;> omega)]; go_simp
  go_wp2
  exact bodyPost_ret (v := .tuple #[.agg #[.int .i64 0, .int .i64 0], .int .i64 1]) (by simp [results, Tryd.results8, go_sem, c0, c1]) rfl
    ⟨rfl, Below.setCell (Below.setCell (Below.trans (by go_grown) (hb.mono (by simp; omega))) (by simp) _) (by simp) _⟩

set_option maxHeartbeats 1000000 in
theorem thickAt_i_out (L B T d : Int) (hr : rodB L B T = true) (hd : inB d 0 L = false) (w : World) :
    Calls Tryd.prog 8 #[.agg #[.int .i64 L, .int .i64 B, .int .i64 T], .int .i64 d] w fun e w' => e = .returned (.tuple #[.agg #[.int .i64 0, .int .i64 0], .int .i64 2]) ∧ Below w.heap.size w w' := by
  go_enter Tryd.func8, Tryd.ntmps8
  go_wp2_with fail
  refine (rod_i L B T _).mono ?_
  rintro e w1 ⟨rfl, hb⟩
  obtain ⟨hc, hf⟩ := bcell hb
  have hz := hb.size
  simp at hz
  have c0 : w1.cell? ⟨w.heap.size + 1, 0, none⟩ = some (.int .i64 0) := by rw [hc _ _ (by simp <;> omega)]; go_simp
  have c1 : w1.cell? ⟨w.heap.size + 1, 1, none⟩ = some (.int .i64 0) := by rw [hc _ _ (by simp <;> omega)]; go_simp
  have c2 : w1.cell? ⟨w.heap.size, 0, none⟩ = some (.int .i64 L) := by rw [hc _ _ (by simp <;> omega)]; go_simp
  go_wp2_with (go_at_call 16; refine (in_i _ _ _ _).mono ?_; rintro e w' ⟨rfl, rfl⟩)
  exact bodyPost_ret (v := .tuple #[.agg #[.int .i64 0, .int .i64 0], .int .i64 2]) (by simp [results, Tryd.results8, go_sem, c0, c1]) rfl
    ⟨rfl, Below.setCell (Below.setCell (Below.trans (by go_grown) (hb.mono (by simp; omega))) (by simp) _) (by simp) _⟩

set_option maxHeartbeats 1000000 in
theorem thickAt_i (L B T d : Int) (hr : rodB L B T = true) (hd : inB d 0 L = true) (w : World) :
    Calls Tryd.prog 8 #[.agg #[.int .i64 L, .int .i64 B, .int .i64 T], .int .i64 d] w fun e w' => e = .returned (.tuple #[.agg #[.int .i64 (thk L B T d / gcdI (thk L B T d) L), .int .i64 (L / gcdI (thk L B T d) L)], .int .i64 0]) ∧ Below w.heap.size w w' := by
  go_enter Tryd.func8, Tryd.ntmps8
  go_wp2_with fail
  refine (rod_i L B T _).mono ?_
  rintro e w1 ⟨rfl, hb⟩
  obtain ⟨hc, hf⟩ := bcell hb
  have hz := hb.size
  simp at hz
  have c0 : w1.cell? ⟨w.heap.size + 1, 0, none⟩ = some (.int .i64 0) := by rw [hc _ _ (by simp <;> omega)]; go_simp
  have c1 : w1.cell? ⟨w.heap.size + 1, 1, none⟩ = some (.int .i64 0) := by rw [hc _ _ (by simp <;> omega)]; go_simp
  have c2 : w1.cell? ⟨w.heap.size, 0, none⟩ = some (.int .i64 L) := by rw [hc _ _ (by simp <;> omega)]; go_simp
  have c3 : w1.cell? ⟨w.heap.size, 1, none⟩ = some (.int .i64 B) := by rw [hc _ _ (by simp <;> omega)]; go_simp
  have c4 : w1.cell? ⟨w.heap.size, 2, none⟩ = some (.int .i64 T) := by rw [hc _ _ (by simp <;> omega)]; go_simp
  have f0 : w1.frozen? ⟨w.heap.size + 1, 0, none⟩ = false := by rw [hf _ _ (by simp <;> omega)]; go_simp
  have f1 : w1.frozen? ⟨w.heap.size + 1, 1, none⟩ = false := by rw [hf _ _ (by simp <;> omega)]; go_simp
  have hg : Below w.heap.size w w1 := Below.trans (by go_grown) (hb.mono (by simp; omega))
  clear hc hf hb
  go_wp2_with (go_at_call 16; refine (in_i _ _ _ _).mono ?_; rintro e w' ⟨rfl, rfl⟩)
  obtain ⟨e1, e2, e3, e4, e5, e6, e7⟩ := thk_bd hr (inB_of hd).1 (inB_of hd).2
  have l1 := rodB_of hr
  have HR := Lib.hid hr
  have HD := Lib.hid hd
  clear hr hd
  go_region_held3 (fun x => x.cell? ⟨w.heap.size, 0, none⟩ = some (.int .i64 L) ∧ x.cell? ⟨w.heap.size, 1, none⟩ = some (.int .i64 B) ∧ x.cell? ⟨w.heap.size, 2, none⟩ = some (.int .i64 T)) (first | go_keep | exact ⟨p2, p3, p4⟩ | exact ⟨q2, q3, q4⟩)
    (first
      | (go_at_call 18; refine (thick_i L B T d _ HR.out (inB_of HD.out).1 (inB_of HD.out).2).mono ?_; rintro e w2 ⟨rfl, hb⟩
         have hz2 := hb.size
         simp at hz2
         have p0 : w2.cell? ⟨w.heap.size + 1, 0, none⟩ = some (.int .i64 0) := by rw [(bcell hb).1 _ _ (by simp <;> omega)]; go_simp
         have p1 : w2.cell? ⟨w.heap.size + 1, 1, none⟩ = some (.int .i64 0) := by rw [(bcell hb).1 _ _ (by simp <;> omega)]; go_simp
         have p2 : w2.cell? ⟨w.heap.size, 0, none⟩ = some (.int .i64 L) := by rw [(bcell hb).1 _ _ (by simp <;> omega)]; go_simp
         have p3 : w2.cell? ⟨w.heap.size, 1, none⟩ = some (.int .i64 B) := by rw [(bcell hb).1 _ _ (by simp <;> omega)]; go_simp
         have p4 : w2.cell? ⟨w.heap.size, 2, none⟩ = some (.int .i64 T) := by rw [(bcell hb).1 _ _ (by simp <;> omega)]; go_simp
         have p5 : w2.frozen? ⟨w.heap.size + 1, 0, none⟩ = false := by rw [(bcell hb).2 _ _ (by simp <;> omega)]; go_simp
         have p6 : w2.frozen? ⟨w.heap.size + 1, 1, none⟩ = false := by rw [(bcell hb).2 _ _ (by simp <;> omega)]; go_simp
         have hg2 : Below w.heap.size w w2 := Below.trans hg.drew (hb.mono (by simp; omega))
         clear hb)
      | (go_at_call 17; refine (lowest_i _ _ (by unfold thk; omega) (by unfold thk; omega) (by omega) (by omega) _).mono ?_; rintro e w3 ⟨rfl, hb⟩
         have hz3 := hb.size
         have q0 : w3.cell? ⟨w.heap.size + 1, 0, none⟩ = some (.int .i64 0) := by rw [(bcell hb).1 _ _ (by omega)]; exact p0
         have q1 : w3.cell? ⟨w.heap.size + 1, 1, none⟩ = some (.int .i64 0) := by rw [(bcell hb).1 _ _ (by omega)]; exact p1
         have q2 : w3.cell? ⟨w.heap.size, 0, none⟩ = some (.int .i64 L) := by rw [(bcell hb).1 _ _ (by omega)]; exact p2
         have q3 : w3.cell? ⟨w.heap.size, 1, none⟩ = some (.int .i64 B) := by rw [(bcell hb).1 _ _ (by omega)]; exact p3
         have q4 : w3.cell? ⟨w.heap.size, 2, none⟩ = some (.int .i64 T) := by rw [(bcell hb).1 _ _ (by omega)]; exact p4
         have q5 : w3.frozen? ⟨w.heap.size + 1, 0, none⟩ = false := by rw [(bcell hb).2 _ _ (by omega)]; exact p5
         have q6 : w3.frozen? ⟨w.heap.size + 1, 1, none⟩ = false := by rw [(bcell hb).2 _ _ (by omega)]; exact p6
         have hg3 : Below w.heap.size w w3 := Below.trans hg2 (hb.mono (by omega))
         clear hb))
  go_wp2
  exact bodyPost_ret (v := .tuple #[.agg #[.int .i64 (thk L B T d / gcdI (thk L B T d) L), .int .i64 (L / gcdI (thk L B T d) L)], .int .i64 0]) (by simp [results, Tryd.results8, go_sem, q0, q1]) rfl
    ⟨rfl, Below.setCell (Below.setCell hg3 (by simp) _) (by simp) _⟩

end Go.Proofs.YtobohjfenjeckabDoor.rod
