/-
  For every rod and every number, FnExactCutTip returns true: CutTip of the program gives the rod and the code of the model. No condition.
-/
import Derived.Test.YtmaakconbaiagaaThickI
import Derived.ShutString
import Derived.ChangeOld
import Derived.Lib.SmallJoins
namespace Go.Proofs.Ytmaakconbaiagaa.fnExactCutTip
open Go.ChangeShapes Go.WideShapes Go.ChangeAt Go.RowKit Go.Joins
open Go.ChangeMaps (open_string shut_string)
open Go.Proofs.Ytmaakconbaiagaa.rod
set_option linter.unusedVariables false

set_option maxHeartbeats 1000000 in
theorem max_s (n : Int) (h : 1 ≤ n) (w : World) :
    Calls Try.prog 51 #[.int .i64 1, .int .i64 n] w fun e w' => e = .returned (.int .i64 n) ∧ w = w' := by
  have h1 : ¬ n < 1 := by omega
  go_enter Try.func51, Try.ntmps51
  go_wp2
  go_ret
  exact ⟨rfl, rfl⟩

/-- the thickness in whole tenths -/
def tipAt (L B T d : Int) : Int := thk L B T d / L
theorem tipAt_bd {L B T d : Int} (h : rodB L B T = true) (h0 : 0 ≤ d) (h1 : d ≤ L) : 1 ≤ thk L B T d / L ∧ thk L B T d / L ≤ 900000 := by
  obtain ⟨e1, e2, e3, e4, e5, e6, e7⟩ := thk_bd h h0 h1
  have l1 := rodB_of h
  constructor
  · exact Int.le_ediv_of_mul_le (by omega) (by unfold thk; omega)
  · have := Int.ediv_le_self (a := thk L B T d) L (by unfold thk; omega)
    unfold thk at *
    omega

set_option maxHeartbeats 1000000 in
theorem cut_s_bad (L B T d : Int) (hr : rodB L B T = false) (w : World) :
    Calls Try.prog 25 #[.agg #[.int .i64 L, .int .i64 B, .int .i64 T], .int .i64 d] w fun e w' => e = .returned (.tuple #[.agg #[.int .i64 0, .int .i64 0, .int .i64 0], .int .i64 1]) ∧ Below w.heap.size w w' := by
  go_enter Try.func25, Try.ntmps25
  go_wp2_with fail
  refine (one_s _ _ L B T _ (by go_simp) (by go_simp) (by go_simp)).mono ?_
  rintro e w' ⟨rfl, n, rfl⟩
  go_wp2_with (go_at_call 33; refine (in_s _ _ _ _).mono ?_; rintro e w' ⟨rfl, rfl⟩)
  go_returns
  exact ⟨rfl, by go_grown; exact drewN_below (by go_grown) _⟩

set_option maxHeartbeats 1000000 in
theorem cut_i_bad (L B T d : Int) (hr : rodB L B T = false) (w : World) :
    Calls Try.prog 26 #[.agg #[.int .i64 L, .int .i64 B, .int .i64 T], .int .i64 d] w fun e w' => e = .returned (.tuple #[.agg #[.int .i64 0, .int .i64 0, .int .i64 0], .int .i64 1]) ∧ Below w.heap.size w w' := by
  go_enter Try.func26, Try.ntmps26
  go_wp2_with fail
  refine (rod_i L B T _).mono ?_
  rintro e w1 ⟨rfl, hb⟩
  have hz := hb.size
  simp at hz
  have c0 : w1.cell? ⟨w.heap.size + 1, 0, none⟩ = some (.int .i64 0) := by rw [(bcell hb).1 _ _ (by simp <;> omega)]; go_simp
  have c1 : w1.cell? ⟨w.heap.size + 1, 1, none⟩ = some (.int .i64 0) := by rw [(bcell hb).1 _ _ (by simp <;> omega)]; go_simp
  have c2 : w1.cell? ⟨w.heap.size + 1, 2, none⟩ = some (.int .i64 0) := by rw [(bcell hb).1 _ _ (by simp <;> omega)]; go_simp
  have f0 : w1.frozen? ⟨w.heap.size + 1, 0, none⟩ = false := by rw [(bcell hb).2 _ _ (by simp <;> omega)]; go_simp
  have f1 : w1.frozen? ⟨w.heap.size + 1, 1, none⟩ = false := by rw [(bcell hb).2 _ _ (by simp <;> omega)]; go_simp
  have f2 : w1.frozen? ⟨w.heap.size + 1, 2, none⟩ = false := by rw [(bcell hb).2 _ _ (by simp <;> omega)]; go_simp
  have c3 : w1.cell? ⟨w.heap.size, 0, none⟩ = some (.int .i64 L) := by rw [(bcell hb).1 _ _ (by simp <;> omega)]; go_simp
  have hg : Below w.heap.size w w1 := Below.trans (by go_grown) (hb.mono (by simp <;> omega))
  clear hb
  go_wp2_with (go_at_call 34; refine (in_i _ _ _ _).mono ?_; rintro e w' ⟨rfl, rfl⟩)
  exact bodyPost_ret (v := .tuple #[.agg #[.int .i64 0, .int .i64 0, .int .i64 0], .int .i64 1]) (by simp [results, Try.results26, go_sem, c0, c1, c2]) rfl
    ⟨rfl, Below.setCell (Below.setCell (Below.setCell hg (by simp) _) (by simp) _) (by simp) _⟩

set_option maxHeartbeats 1000000 in
theorem cut_s_out (L B T d : Int) (hr : rodB L B T = true) (hd : inB d 100 L = false) (w : World) :
    Calls Try.prog 25 #[.agg #[.int .i64 L, .int .i64 B, .int .i64 T], .int .i64 d] w fun e w' => e = .returned (.tuple #[.agg #[.int .i64 0, .int .i64 0, .int .i64 0], .int .i64 2]) ∧ Below w.heap.size w w' := by
  go_enter Try.func25, Try.ntmps25
  go_wp2_with fail
  refine (one_s _ _ L B T _ (by go_simp) (by go_simp) (by go_simp)).mono ?_
  rintro e w' ⟨rfl, n, rfl⟩
  go_wp2_with (go_at_call 33; refine (in_s _ _ _ _).mono ?_; rintro e w' ⟨rfl, rfl⟩)
  go_returns
  exact ⟨rfl, by go_grown; exact drewN_below (by go_grown) _⟩

set_option maxHeartbeats 1000000 in
theorem cut_i_out (L B T d : Int) (hr : rodB L B T = true) (hd : inB d 100 L = false) (w : World) :
    Calls Try.prog 26 #[.agg #[.int .i64 L, .int .i64 B, .int .i64 T], .int .i64 d] w fun e w' => e = .returned (.tuple #[.agg #[.int .i64 0, .int .i64 0, .int .i64 0], .int .i64 2]) ∧ Below w.heap.size w w' := by
  go_enter Try.func26, Try.ntmps26
  go_wp2_with fail
  refine (rod_i L B T _).mono ?_
  rintro e w1 ⟨rfl, hb⟩
  have hz := hb.size
  simp at hz
  have c0 : w1.cell? ⟨w.heap.size + 1, 0, none⟩ = some (.int .i64 0) := by rw [(bcell hb).1 _ _ (by simp <;> omega)]; go_simp
  have c1 : w1.cell? ⟨w.heap.size + 1, 1, none⟩ = some (.int .i64 0) := by rw [(bcell hb).1 _ _ (by simp <;> omega)]; go_simp
  have c2 : w1.cell? ⟨w.heap.size + 1, 2, none⟩ = some (.int .i64 0) := by rw [(bcell hb).1 _ _ (by simp <;> omega)]; go_simp
  have f0 : w1.frozen? ⟨w.heap.size + 1, 0, none⟩ = false := by rw [(bcell hb).2 _ _ (by simp <;> omega)]; go_simp
  have f1 : w1.frozen? ⟨w.heap.size + 1, 1, none⟩ = false := by rw [(bcell hb).2 _ _ (by simp <;> omega)]; go_simp
  have f2 : w1.frozen? ⟨w.heap.size + 1, 2, none⟩ = false := by rw [(bcell hb).2 _ _ (by simp <;> omega)]; go_simp
  have c3 : w1.cell? ⟨w.heap.size, 0, none⟩ = some (.int .i64 L) := by rw [(bcell hb).1 _ _ (by simp <;> omega)]; go_simp
  have hg : Below w.heap.size w w1 := Below.trans (by go_grown) (hb.mono (by simp <;> omega))
  clear hb
  go_wp2_with (go_at_call 34; refine (in_i _ _ _ _).mono ?_; rintro e w' ⟨rfl, rfl⟩)
  exact bodyPost_ret (v := .tuple #[.agg #[.int .i64 0, .int .i64 0, .int .i64 0], .int .i64 2]) (by simp [results, Try.results26, go_sem, c0, c1, c2]) rfl
    ⟨rfl, Below.setCell (Below.setCell (Below.setCell hg (by simp) _) (by simp) _) (by simp) _⟩

set_option maxHeartbeats 1000000 in
theorem cut_s (L B T d : Int) (hr : rodB L B T = true) (hd : inB d 100 L = true) (w : World) :
    Calls Try.prog 25 #[.agg #[.int .i64 L, .int .i64 B, .int .i64 T], .int .i64 d] w fun e w' => e = .returned (.tuple #[.agg #[.int .i64 d, .int .i64 B, .int .i64 (thk L B T d / L)], .int .i64 0]) ∧ Below w.heap.size w w' := by
  go_enter Try.func25, Try.ntmps25
  go_wp2_with fail
  refine (one_s _ _ L B T _ (by go_simp) (by go_simp) (by go_simp)).mono ?_
  rintro e w' ⟨rfl, n, rfl⟩
  go_wp2_with (go_at_call 33; refine (in_s _ _ _ _).mono ?_; rintro e w' ⟨rfl, rfl⟩)
  obtain ⟨d0, d1⟩ := inB_of hd
  obtain ⟨e1, e2, e3, e4, e5, e6, e7⟩ := thk_bd hr (by omega) d1
  obtain ⟨e8, e9⟩ := tipAt_bd hr (by omega) d1
  have l1 := rodB_of hr
  have t1 : (thk L B T d).tdiv L = thk L B T d / L := Int.tdiv_eq_ediv_of_nonneg (by unfold thk; omega)
  have t2 : IntKind.i64.wrap (thk L B T d / L) = thk L B T d / L := IntWalk.i64_in _ (by omega)
  have t3 : (L == 0) = false := by simp; omega
  have t4 : ¬ L = 0 := by omega
  have HR := Lib.hid hr
  clear hr hd
  go_region_held3 (fun x => x.cell? ⟨w.heap.size, 0, none⟩ = some (.int .i64 L) ∧ x.cell? ⟨w.heap.size, 1, none⟩ = some (.int .i64 B) ∧ x.cell? ⟨w.heap.size, 2, none⟩ = some (.int .i64 T)) (first | go_keep)
    (first
      | (go_at_call 47; refine (thick_s _ _ L B T d _ (by go_simp) (by go_simp) (by go_simp) HR.out (by omega) d1).mono ?_; rintro e w' ⟨rfl, m, rfl⟩)
      | (go_at_call 51; refine (max_s _ e8 _).mono ?_; rintro e w' ⟨rfl, rfl⟩))
  go_wp2
  go_returns
  exact ⟨rfl, by go_grown; exact drewN_below (by go_grown) _⟩

set_option maxHeartbeats 1000000 in
theorem cut_i (L B T d : Int) (hr : rodB L B T = true) (hd : inB d 100 L = true) (w : World) :
    Calls Try.prog 26 #[.agg #[.int .i64 L, .int .i64 B, .int .i64 T], .int .i64 d] w fun e w' => e = .returned (.tuple #[.agg #[.int .i64 d, .int .i64 B, .int .i64 (thk L B T d / L)], .int .i64 0]) ∧ Below w.heap.size w w' := by
  go_enter Try.func26, Try.ntmps26
  go_wp2_with fail
  refine (rod_i L B T _).mono ?_
  rintro e w1 ⟨rfl, hb⟩
  have hz := hb.size
  simp at hz
  have c0 : w1.cell? ⟨w.heap.size + 1, 0, none⟩ = some (.int .i64 0) := by rw [(bcell hb).1 _ _ (by simp <;> omega)]; go_simp
  have c1 : w1.cell? ⟨w.heap.size + 1, 1, none⟩ = some (.int .i64 0) := by rw [(bcell hb).1 _ _ (by simp <;> omega)]; go_simp
  have c2 : w1.cell? ⟨w.heap.size + 1, 2, none⟩ = some (.int .i64 0) := by rw [(bcell hb).1 _ _ (by simp <;> omega)]; go_simp
  have f0 : w1.frozen? ⟨w.heap.size + 1, 0, none⟩ = false := by rw [(bcell hb).2 _ _ (by simp <;> omega)]; go_simp
  have f1 : w1.frozen? ⟨w.heap.size + 1, 1, none⟩ = false := by rw [(bcell hb).2 _ _ (by simp <;> omega)]; go_simp
  have f2 : w1.frozen? ⟨w.heap.size + 1, 2, none⟩ = false := by rw [(bcell hb).2 _ _ (by simp <;> omega)]; go_simp
  have c3 : w1.cell? ⟨w.heap.size, 0, none⟩ = some (.int .i64 L) := by rw [(bcell hb).1 _ _ (by simp <;> omega)]; go_simp
  have c4 : w1.cell? ⟨w.heap.size, 1, none⟩ = some (.int .i64 B) := by rw [(bcell hb).1 _ _ (by simp <;> omega)]; go_simp
  have c5 : w1.cell? ⟨w.heap.size, 2, none⟩ = some (.int .i64 T) := by rw [(bcell hb).1 _ _ (by simp <;> omega)]; go_simp
  have hg : Below w.heap.size w w1 := Below.trans (by go_grown) (hb.mono (by simp <;> omega))
  clear hb
  go_wp2_with (go_at_call 34; refine (in_i _ _ _ _).mono ?_; rintro e w' ⟨rfl, rfl⟩)
  obtain ⟨d0, d1⟩ := inB_of hd
  obtain ⟨e1, e2, e3, e4, e5, e6, e7⟩ := thk_bd hr (by omega) d1
  obtain ⟨e8, e9⟩ := tipAt_bd hr (by omega) d1
  have l1 := rodB_of hr
  have t1 : (thk L B T d).tdiv L = thk L B T d / L := Int.tdiv_eq_ediv_of_nonneg (by unfold thk; omega)
  have t2 : IntKind.i64.wrap (thk L B T d / L) = thk L B T d / L := IntWalk.i64_in _ (by omega)
  have t3 : (L == 0) = false := by simp; omega
  have t4 : ¬ L = 0 := by omega
  have HR := Lib.hid hr
  clear hr hd
  go_region_held3 (fun x => x.cell? ⟨w.heap.size, 0, none⟩ = some (.int .i64 L) ∧ x.cell? ⟨w.heap.size, 1, none⟩ = some (.int .i64 B) ∧ x.cell? ⟨w.heap.size, 2, none⟩ = some (.int .i64 T)) (first | go_keep | exact ⟨p3, p4, p5⟩)
    (first
      | (go_at_call 50; refine (thick_i L B T d _ HR.out (by omega) d1).mono ?_; rintro e w2 ⟨rfl, hb⟩
         have hz2 := hb.size
         simp at hz2
         have p0 : w2.cell? ⟨w.heap.size + 1, 0, none⟩ = some (.int .i64 0) := by rw [(bcell hb).1 _ _ (by simp <;> omega)]; go_simp
         have p1 : w2.cell? ⟨w.heap.size + 1, 1, none⟩ = some (.int .i64 0) := by rw [(bcell hb).1 _ _ (by simp <;> omega)]; go_simp
         have p2 : w2.cell? ⟨w.heap.size + 1, 2, none⟩ = some (.int .i64 0) := by rw [(bcell hb).1 _ _ (by simp <;> omega)]; go_simp
         have p3 : w2.cell? ⟨w.heap.size, 0, none⟩ = some (.int .i64 L) := by rw [(bcell hb).1 _ _ (by simp <;> omega)]; go_simp
         have p4 : w2.cell? ⟨w.heap.size, 1, none⟩ = some (.int .i64 B) := by rw [(bcell hb).1 _ _ (by simp <;> omega)]; go_simp
         have p5 : w2.cell? ⟨w.heap.size, 2, none⟩ = some (.int .i64 T) := by rw [(bcell hb).1 _ _ (by simp <;> omega)]; go_simp
         have p6 : w2.frozen? ⟨w.heap.size + 1, 0, none⟩ = false := by rw [(bcell hb).2 _ _ (by simp <;> omega)]; go_simp
         have p7 : w2.frozen? ⟨w.heap.size + 1, 1, none⟩ = false := by rw [(bcell hb).2 _ _ (by simp <;> omega)]; go_simp
         have p8 : w2.frozen? ⟨w.heap.size + 1, 2, none⟩ = false := by rw [(bcell hb).2 _ _ (by simp <;> omega)]; go_simp
         have hg2 : Below w.heap.size w w2 := Below.trans hg.drew (hb.mono (by simp; omega))
         clear hb))
  go_wp2
  exact bodyPost_ret (v := .tuple #[.agg #[.int .i64 d, .int .i64 B, .int .i64 (thk L B T d / L)], .int .i64 0]) (by simp [results, Try.results26, go_sem, p0, p1, p2]) rfl
    ⟨rfl, Below.setCell (Below.setCell (Below.setCell hg2 (by simp) _) (by simp) _) (by simp) _⟩

set_option maxHeartbeats 1000000 in
theorem core (L B T d n m k c : Int) (w : World)
    (hs : Hid (∀ w, Calls Try.prog 25 #[.agg #[.int .i64 L, .int .i64 B, .int .i64 T], .int .i64 d] w fun e w' => e = .returned (.tuple #[.agg #[.int .i64 n, .int .i64 m, .int .i64 k], .int .i64 c]) ∧ Below w.heap.size w w'))
    (hi : Hid (∀ w, Calls Try.prog 26 #[.agg #[.int .i64 L, .int .i64 B, .int .i64 T], .int .i64 d] w fun e w' => e = .returned (.tuple #[.agg #[.int .i64 n, .int .i64 m, .int .i64 k], .int .i64 c]) ∧ Below w.heap.size w w')) :
    Calls Try.prog 8 #[.agg #[.int .i64 L, .int .i64 B, .int .i64 T], .int .i64 d] w fun e w' => e = .returned (.bool true) ∧ Below w.heap.size w w' := by
  go_enter Try.func8, Try.ntmps8
  go_wp2_with fail
  refine (toRod_c L B T _).mono ?_
  rintro e w0 ⟨rfl, hb⟩
  have z0 := hb.size
  simp at z0
  have p0 : w0.cell? ⟨w.heap.size, 0, none⟩ = some (.int .i64 L) := by rw [(bcell hb).1 _ _ (by simp <;> omega)]; go_simp
  have p1 : w0.cell? ⟨w.heap.size, 1, none⟩ = some (.int .i64 B) := by rw [(bcell hb).1 _ _ (by simp <;> omega)]; go_simp
  have p2 : w0.cell? ⟨w.heap.size, 2, none⟩ = some (.int .i64 T) := by rw [(bcell hb).1 _ _ (by simp <;> omega)]; go_simp
  have g1 : Below w.heap.size w w0 := Below.trans (by go_grown) (hb.mono (by simp <;> omega))
  clear hb
  go_wp2_with fail
  refine (hs.out _).mono ?_
  rintro e w1 ⟨rfl, hb⟩
  have z1 := hb.size
  replace p0 : w1.cell? ⟨w.heap.size, 0, none⟩ = some (.int .i64 L) := by rw [(bcell hb).1 _ _ (by omega)]; exact p0
  replace p1 : w1.cell? ⟨w.heap.size, 1, none⟩ = some (.int .i64 B) := by rw [(bcell hb).1 _ _ (by omega)]; exact p1
  replace p2 : w1.cell? ⟨w.heap.size, 2, none⟩ = some (.int .i64 T) := by rw [(bcell hb).1 _ _ (by omega)]; exact p2
  replace g1 : Below w.heap.size w w1 := Below.trans g1 (hb.mono (by omega))
  have y1 : w.heap.size < w1.heap.size := by omega
  clear hb z1 z0
  go_wp2_with fail
  refine (toRod_c L B T _).mono ?_
  rintro e w2 ⟨rfl, hb⟩
  have z2 := hb.size
  simp at z2
  have q0 : w2.cell? ⟨w1.heap.size, 0, none⟩ = some (.int .i64 n) := by rw [(bcell hb).1 _ _ (by simp <;> omega)]; go_simp
  have q1 : w2.cell? ⟨w1.heap.size, 1, none⟩ = some (.int .i64 m) := by rw [(bcell hb).1 _ _ (by simp <;> omega)]; go_simp
  have q2 : w2.cell? ⟨w1.heap.size, 2, none⟩ = some (.int .i64 k) := by rw [(bcell hb).1 _ _ (by simp <;> omega)]; go_simp
  have g2 : Below w.heap.size w w2 := Below.trans (by go_grown) (hb.mono (by simp <;> omega))
  clear hb p0 p1 p2
  go_wp2_with fail
  refine (hi.out _).mono ?_
  rintro e w3 ⟨rfl, hb⟩
  have z3 := hb.size
  replace q0 : w3.cell? ⟨w1.heap.size, 0, none⟩ = some (.int .i64 n) := by rw [(bcell hb).1 _ _ (by omega)]; exact q0
  replace q1 : w3.cell? ⟨w1.heap.size, 1, none⟩ = some (.int .i64 m) := by rw [(bcell hb).1 _ _ (by omega)]; exact q1
  replace q2 : w3.cell? ⟨w1.heap.size, 2, none⟩ = some (.int .i64 k) := by rw [(bcell hb).1 _ _ (by omega)]; exact q2
  have g3 : Below w.heap.size w w3 := Below.trans g2 (hb.mono (by omega))
  have y3 : w1.heap.size < w3.heap.size := by omega
  clear hb z2 z3
  go_wp2_with fail
  refine (eqRod_same n m k _).mono ?_
  rintro e w4 ⟨rfl, hb⟩
  have g4 : Below w.heap.size w w4 := Below.trans (by go_grown) (hb.mono (by simp <;> omega))
  go_wp2
  go_ret
  exact ⟨rfl, g4⟩

theorem walk (L B T d : Int) (w : World) (x0 : (Lit.int .i64 L).wf = true) (x1 : (Lit.int .i64 B).wf = true) (x2 : (Lit.int .i64 T).wf = true) (x3 : (Lit.int .i64 d).wf = true) :
    Calls Try.prog 8 #[.agg #[.int .i64 L, .int .i64 B, .int .i64 T], .int .i64 d] w fun e w' => e = .returned (.bool true) ∧ Below w.heap.size w w' := by
  cases hr : rodB L B T
  · exact core L B T d 0 0 0 1 w (cut_s_bad L B T d hr) (cut_i_bad L B T d hr)
  · cases hd : inB d 100 L
    · exact core L B T d 0 0 0 2 w (cut_s_out L B T d hr hd) (cut_i_out L B T d hr hd)
    · exact core L B T d d B (thk L B T d / L) 0 w (cut_s L B T d hr hd) (cut_i L B T d hr hd)
theorem own : ownKnob Try.prog.godebug = none := by kernel_rfl
theorem laidOut : laidOutB Try.prog = true := by kernel_rfl

set_option maxRecDepth 100000 in
theorem lifted (os : Os) (started : os.Started) (H : Type) (enc : TypeId × Value → H) :
    ReturnsInHanded {} Try.checked os 8 .any (Rows.fnExactCutTipSpec.pre6 enc Try.prog Try.f8 Rows.fnExactCutTipRow.domain false) (Rows.fnExactCutTipSpec.post enc Try.prog Try.f8 false true false false) := by
  refine returnsInHanded_of_change (C := Try.checked) own started (by kernel_rfl) Try.func8
    (ChangeSpec.witness6 (enc := enc) (C := Try.checked) false ⟨#[], #[.agg #[.int .i64 0, .int .i64 0, .int .i64 0], .int .i64 0], []⟩ 8 (by kernel_rfl) (by kernel_rfl) (by kernel_rfl) (by kernel_rfl)) ?_
  intro W base args ds gs before hval0 hW hcnd hreach
  have hval : ∀ (j : Nat) t v, Try.f8.params[j]? = some t → args[j]? = some v → Value.okWide Try.prog W .any base t v := hval0
  have hW' := hW
  obtain ⟨p, q, hA0, hV, rfl, hfz, hnd⟩ := hW
  have hA : DataW.TrodAll enc Try.prog W 0 (fun _ => true) true Try.f8.params.toList args.toList ds p := hA0
  rw [Try.params8] at hA hval
  obtain ⟨v0, vs0, d0, ds0, p0, q0, hargs, rfl, rfl, h0, r0⟩ := trodAll_cons hA
  obtain ⟨v1, vs1, d1, ds1, p1, q1, hargs1, rfl, rfl, h1, r1⟩ := trodAll_cons r0
  obtain ⟨rfl, rfl, rfl⟩ := trodAll_nil r1
  obtain rfl : args = #[v0, v1] := by cases args; simp_all
  obtain ⟨rfl, rfl⟩ := trodVars_none hV
  have k0 := h0
  have lt0 : ∀ x ∈ p0, x.block < W.heap.size := by obtain ⟨m, hm⟩ := k0; exact DataW.trod_lt m _ _ _ hm
  obtain ⟨c0_0, c0_1, c0_2, y0_0, y0_1, y0_2, m0, rfl, rfl, rfl, hy0_0, hy0_1, hy0_2⟩ := open_agg3 Try.underlying30 (by kernel_rfl) (by kernel_rfl) (hval 0 30 v0 rfl rfl) h0
  obtain ⟨a0_0, e0_0, rfl, w0_0⟩ := DataW.trod_int Try.underlying2 hy0_0
  simp at e0_0
  subst e0_0
  obtain ⟨a0_1, e0_1, rfl, w0_1⟩ := DataW.trod_int Try.underlying2 hy0_1
  simp at e0_1
  subst e0_1
  obtain ⟨a0_2, e0_2, rfl, w0_2⟩ := DataW.trod_int Try.underlying2 hy0_2
  simp at e0_2
  subst e0_2
  have k1 := h1
  have lt1 : ∀ x ∈ p1, x.block < W.heap.size := by obtain ⟨m, hm⟩ := k1; exact DataW.trod_lt m _ _ _ hm
  obtain ⟨a1, rfl, rfl, rfl, w1⟩ := open_int Try.underlying2 (hval 1 2 v1 rfl rfl) h1
  clear hA0 hval0
  refine (walk a0_0 a0_1 a0_2 a1 W w0_0 w0_1 w0_2 w1).mono fun e W' ⟨he, bel⟩ => ?_
  subst he
  exact ⟨_, rfl, _, _, _, [], _, [], hW', trodAll_mk1 (shut_bool Try.underlying4 _), (trodAll_cons_mk (Below.trod laidOut (by kernel_rfl) (of_decide_eq_true (by kernel_rfl)) k0 bel lt0) (trodAll_cons_mk (Below.trod laidOut (by kernel_rfl) (of_decide_eq_true (by kernel_rfl)) k1 bel lt1) trodAll_mk0)), rfl, bel.frame _, fun h => by cases h⟩

theorem over : Rows.fnExactCutTipRow.holds Try.pinned (OpenSpec.ofChange Rows.fnExactCutTipSpec) :=
  OpenClaim.holds_of_wide 8 Try.f8 rfl rfl rfl rfl rfl rfl rfl ⟨rfl, rfl, rfl, rfl, rfl⟩ rfl rfl rfl rfl rfl (by kernel_rfl) Try.func8 (by kernel_rfl)
    (of_decide_eq_true (by kernel_rfl)) (by unfold Func.isWrapper; first | (rw [if_pos (by decide +kernel)]; kernel_rfl) | (rw [if_neg (by decide +kernel)]; exact ⟨rfl, rfl⟩))
    (fun os started H enc _ => lifted os started H enc)

theorem proved : Rows.FnExactCutTipSaid := over

end Go.Proofs.Ytmaakconbaiagaa.fnExactCutTip
