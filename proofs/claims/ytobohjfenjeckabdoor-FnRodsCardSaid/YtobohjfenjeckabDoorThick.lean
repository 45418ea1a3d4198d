/-
  Contracts of ThickAt, of the model's and of the program's, and of the two helpers of its law.
-/
import Derived.Test.YtobohjfenjeckabDoorGcd
import Derived.StillTailTactics
namespace Go.Proofs.YtobohjfenjeckabDoor.rod
open Go.ChangeShapes Go.WideShapes Go.ChangeAt Go.RowKit Go.Proofs.YtobohjfenjeckabDoor.mem
set_option linter.unusedVariables false

set_option maxHeartbeats 1000000 in
theorem thickAt_s_bad (L B T d : Int) (hr : rodB L B T = false) (w : World) :
    Calls Tryd.prog 10 #[.agg #[.int .i64 L, .int .i64 B, .int .i64 T], .int .i64 d] w fun e w' => e = .returned (.tuple #[.agg #[.int .i64 0, .int .i64 0], .int .i64 1]) ∧ Below w.heap.size w w' := by
  go_enter Tryd.func10, Tryd.ntmps10
  go_wp2_with fail
  refine (one_s _ _ L B T _ (by go_simp) (by go_simp) (by go_simp)).mono ?_
  rintro e w' ⟨rfl, n, rfl⟩
  go_wp2
  go_returns
  exact ⟨rfl, by go_grown; exact drewN_below (by go_grown) _⟩

set_option maxHeartbeats 1000000 in
theorem thickAt_s_out (L B T d : Int) (hr : rodB L B T = true) (hd : inB d 0 L = false) (w : World) :
    Calls Tryd.prog 10 #[.agg #[.int .i64 L, .int .i64 B, .int .i64 T], .int .i64 d] w fun e w' => e = .returned (.tuple #[.agg #[.int .i64 0, .int .i64 0], .int .i64 2]) ∧ Below w.heap.size w w' := by
  go_enter Tryd.func10, Tryd.ntmps10
  go_wp2_with fail
  refine (one_s _ _ L B T _ (by go_simp) (by go_simp) (by go_simp)).mono ?_
  rintro e w' ⟨rfl, n, rfl⟩
  go_wp2_with (go_at_call 20; refine (in_s _ _ _ _).mono ?_; rintro e w' ⟨rfl, rfl⟩)
  go_returns
  exact ⟨rfl, by go_grown; exact drewN_below (by go_grown) _⟩

set_option maxHeartbeats 1000000 in
theorem thickAt_s (L B T d : Int) (hr : rodB L B T = true) (hd : inB d 0 L = true) (w : World) :
    Calls Tryd.prog 10 #[.agg #[.int .i64 L, .int .i64 B, .int .i64 T], .int .i64 d] w fun e w' => e = .returned (.tuple #[.agg #[.int .i64 (thk L B T d / gcdI (thk L B T d) L), .int .i64 (L / gcdI (thk L B T d) L)], .int .i64 0]) ∧ Below w.heap.size w w' := by
  go_enter Tryd.func10, Tryd.ntmps10
  go_wp2_with fail
  refine (one_s _ _ L B T _ (by go_simp) (by go_simp) (by go_simp)).mono ?_
  rintro e w' ⟨rfl, n, rfl⟩
  go_wp2_with (go_at_call 20; refine (in_s _ _ _ _).mono ?_; rintro e w' ⟨rfl, rfl⟩)
  obtain ⟨e1, e2, e3, e4, e5, e6, e7⟩ := thk_bd hr (inB_of hd).1 (inB_of hd).2
  have l1 := rodB_of hr
  have HR := Lib.hid hr
  have HD := Lib.hid hd
  clear hr hd
  go_region_held3 (fun x => x.cell? ⟨w.heap.size, 0, none⟩ = some (.int .i64 L)) (first | go_keep | (rw [hc _ _ (by simp <;> omega)]; go_keep))
    (first
      | (go_at_call 22; refine (thick_s _ _ L B T d _ (by go_simp) (by go_simp) (by go_simp) HR.out (inB_of HD.out).1 (inB_of HD.out).2).mono ?_; rintro e w' ⟨rfl, m, rfl⟩)
      | (go_at_call 21; refine (make_s _ _ (by unfold thk; omega) (by unfold thk; omega) (by omega) (by omega) _).mono ?_; rintro e w1 ⟨rfl, hb⟩; obtain ⟨hc, hf⟩ := bcell hb; have hz := hb.size; simp at hz))
  have c0 : w1.cell? ⟨w.heap.size + 1, 0, none⟩ = some (.int .i64 0) := by rw [hc _ _ (by simp <;> omega)]; go_simp
  have c1 : w1.cell? ⟨w.heap.size + 1, 1, none⟩ = some (.int .i64 0) := by rw [hc _ _ (by simp <;> omega)]; go_simp
  go_wp2
  exact bodyPost_ret (v := .tuple #[.agg #[.int .i64 (thk L B T d / gcdI (thk L B T d) L), .int .i64 (L / gcdI (thk L B T d) L)], .int .i64 0]) (by simp [results, Tryd.results10, go_sem, c0, c1]) rfl
    ⟨rfl, Below.setCell (Below.setCell (Below.trans (drewN_below (by go_grown) _) (hb.mono (by simp; omega))) (by simp) _) (by simp) _⟩

end Go.Proofs.YtobohjfenjeckabDoor.rod
