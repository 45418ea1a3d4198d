/-
  Contracts of ThickAt, of the model's and of the program's, and of the two helpers of its law.
-/
import Derived.Test.YtmaakconbaiagaaGcd
import Derived.StillTailTactics
namespace Go.Proofs.Ytmaakconbaiagaa.rod
open Go.ChangeShapes Go.WideShapes Go.ChangeAt Go.RowKit
set_option linter.unusedVariables false

set_option maxHeartbeats 1000000 in
theorem lowest_i (n d : Int) (n0 : 0 ≤ n) (n1 : n ≤ 1000000000) (d0 : 1 ≤ d) (d1 : d ≤ 1000000000) (w : World) :
    Calls Try.prog 49 #[.int .i64 n, .int .i64 d] w fun e w' => e = .returned (.agg #[.int .i64 (n / gcdI n d), .int .i64 (d / gcdI n d)]) ∧ Below w.heap.size w w' := by
  have g0 := gcdI_pos (x := n) d0
  have g1 := gcdI_le (x := n) d0
  have r1 : n / gcdI n d ≤ n := Int.ediv_le_self _ n0
  have r2 : d / gcdI n d ≤ d := Int.ediv_le_self _ (by omega)
  have r3 : 0 ≤ n / gcdI n d := Int.ediv_nonneg n0 (by omega)
  have r4 : 0 ≤ d / gcdI n d := Int.ediv_nonneg (by omega) (by omega)
  go_enter Try.func49, Try.ntmps49
  go_wp2_with fail
  go_loopw [5, 6] (fun s t wr => ∃ (x y : Int) (m : Nat), 0 ≤ x ∧ 0 ≤ y ∧ x ≤ 1000000000 ∧ y ≤ 1000000000 ∧ s = .int .i64 x ∧ t = .int .i64 y ∧ Hid (gcdI x y = gcdI n d) ∧ wr = (w.alloc (Obj.cells #[Value.int IntKind.i64 0, Value.int IntKind.i64 0] 32)).drewN m) (fun _ t _ => (intOf t).toNat)
  case atStart => exact ⟨n, d, 0, n0, by omega, n1, d1, rfl, rfl, rfl, rfl⟩
  case round =>
    obtain ⟨x, y, m, hx, hy, hx', hy', rfl, rfl, HG, rfl⟩ := hrel
    by_cases h0 : y = 0
    · subst h0
      obtain rfl : x = gcdI n d := by rw [← HG.out, gcdI_zero hx]
      have t1 : n.tdiv (gcdI n d) = n / gcdI n d := Int.tdiv_eq_ediv_of_nonneg n0
      have t2 : d.tdiv (gcdI n d) = d / gcdI n d := Int.tdiv_eq_ediv_of_nonneg (by omega)
      go_wp2
      go_region
      go_wp2
      go_returns
      exact ⟨rfl, by go_grown; exact drewN_below (by go_grown) _⟩
    · have h1 : (y == 0) = false := by simpa using h0
      have h2 : (y != 0) = true := by simpa using h0
      have h3 : 1 ≤ y := by omega
      have h4 : 0 ≤ x % y := Int.emod_nonneg _ h0
      have h5 : x % y < y := Int.emod_lt_of_pos _ (by omega)
      have t3 : x.tmod y = x % y := Int.tmod_eq_emod_of_nonneg hx
      clear h0
      go_wp2
      go_region
      go_wp2
      go_roundw
      case rel => exact ⟨y, x % y, m + 1, hy, h4, hy', by omega, rfl, rfl, (gcdI_step hx h3).trans HG.out, rfl⟩
      case measure => simp [intOf]; omega

set_option maxHeartbeats 1000000 in
theorem thickAt_s_bad (L B T d : Int) (hr : rodB L B T = false) (w : World) :
    Calls Try.prog 19 #[.agg #[.int .i64 L, .int .i64 B, .int .i64 T], .int .i64 d] w fun e w' => e = .returned (.tuple #[.agg #[.int .i64 0, .int .i64 0], .int .i64 1]) ∧ Below w.heap.size w w' := by
  go_enter Try.func19, Try.ntmps19
  go_wp2_with fail
  refine (one_s _ _ L B T _ (by go_simp) (by go_simp) (by go_simp)).mono ?_
  rintro e w' ⟨rfl, n, rfl⟩
  go_wp2
  go_returns
  exact ⟨rfl, by go_grown; exact drewN_below (by go_grown) _⟩

set_option maxHeartbeats 1000000 in
theorem thickAt_s_out (L B T d : Int) (hr : rodB L B T = true) (hd : inB d 0 L = false) (w : World) :
    Calls Try.prog 19 #[.agg #[.int .i64 L, .int .i64 B, .int .i64 T], .int .i64 d] w fun e w' => e = .returned (.tuple #[.agg #[.int .i64 0, .int .i64 0], .int .i64 2]) ∧ Below w.heap.size w w' := by
  go_enter Try.func19, Try.ntmps19
  go_wp2_with fail
  refine (one_s _ _ L B T _ (by go_simp) (by go_simp) (by go_simp)).mono ?_
  rintro e w' ⟨rfl, n, rfl⟩
  go_wp2_with (go_at_call 33; refine (in_s _ _ _ _).mono ?_; rintro e w' ⟨rfl, rfl⟩)
  go_returns
  exact ⟨rfl, by go_grown; exact drewN_below (by go_grown) _⟩

set_option maxHeartbeats 1000000 in
theorem thickAt_s (L B T d : Int) (hr : rodB L B T = true) (hd : inB d 0 L = true) (w : World) :
    Calls Try.prog 19 #[.agg #[.int .i64 L, .int .i64 B, .int .i64 T], .int .i64 d] w fun e w' => e = .returned (.tuple #[.agg #[.int .i64 (thk L B T d / gcdI (thk L B T d) L), .int .i64 (L / gcdI (thk L B T d) L)], .int .i64 0]) ∧ Below w.heap.size w w' := by
  go_enter Try.func19, Try.ntmps19
  go_wp2_with fail
  refine (one_s _ _ L B T _ (by go_simp) (by go_simp) (by go_simp)).mono ?_
  rintro e w' ⟨rfl, n, rfl⟩
  go_wp2_with (go_at_call 33; refine (in_s _ _ _ _).mono ?_; rintro e w' ⟨rfl, rfl⟩)
  obtain ⟨e1, e2, e3, e4, e5, e6, e7⟩ := thk_bd hr (inB_of hd).1 (inB_of hd).2
  have l1 := rodB_of hr
  have HR := Lib.hid hr
  have HD := Lib.hid hd
  clear hr hd
  go_region_held3 (fun x => x.cell? ⟨w.heap.size, 0, none⟩ = some (.int .i64 L)) (first | go_keep | (rw [hc _ _ (by simp <;> omega)]; go_keep))
    (first
      | (go_at_call 47; refine (thick_s _ _ L B T d _ (by go_simp) (by go_simp) (by go_simp) HR.out (inB_of HD.out).1 (inB_of HD.out).2).mono ?_; rintro e w' ⟨rfl, m, rfl⟩)
      | (go_at_call 46; refine (make_s _ _ (by unfold thk; omega) (by unfold thk; omega) (by omega) (by omega) _).mono ?_; rintro e w1 ⟨rfl, hb⟩; obtain ⟨hc, hf⟩ := bcell hb; have hz := hb.size; simp at hz))
  have c0 : w1.cell? ⟨w.heap.size + 1, 0, none⟩ = some (.int .i64 0) := by rw [hc _ _ (by simp <;> omega)]; go_simp
  have c1 : w1.cell? ⟨w.heap.size + 1, 1, none⟩ = some (.int .i64 0) := by rw [hc _ _ (by simp <;> omega)]; go_simp
  go_wp2
  exact bodyPost_ret (v := .tuple #[.agg #[.int .i64 (thk L B T d / gcdI (thk L B T d) L), .int .i64 (L / gcdI (thk L B T d) L)], .int .i64 0]) (by simp [results, Try.results19, go_sem, c0, c1]) rfl
    ⟨rfl, Below.setCell (Below.setCell (Below.trans (drewN_below (by go_grown) _) (hb.mono (by simp; omega))) (by simp) _) (by simp) _⟩

end Go.Proofs.Ytmaakconbaiagaa.rod
