/-
  Contracts of SpacingAt, of the model and of the program. No condition of a statement lies here.
-/
import Derived.Test.YthcebbamgoklcaaHa
import Derived.Test.YthcebbamgoklcaaFrac
import Derived.Test.YthcebbamgoklcaaOpen
import Derived.Test.YthcebbamgoklcaaNums
import Derived.Test.YthcebbamgoklcaaIn
namespace Go.Proofs.Ythcebbamgoklcaa.shp
open Go.ChangeShapes Go.WideShapes Go.ChangeAt Go.RowKit Go.Proofs.Ythcebbamgoklcaa.mem Go.Proofs.Ythcebbamgoklcaa.rod Go.Proofs.Ythcebbamgoklcaa.nums
set_option linter.unusedVariables false
set_option maxRecDepth 100000

set_option maxHeartbeats 1000000 in
theorem spacing_s_no1 (A : Option Addr) (n c : Nat) (X : Nat → Int) (st lv : Int) (w : World) (hn : n ≤ maxLen) (hr : Sl w A n 1 X) (hv : shpB n X = false) :
    Calls Try.prog 18 #[.slice A n c, .int .i64 st, .int .i64 lv] w fun e w' => e = .returned (.tuple #[.agg #[.int .i64 0, .int .i64 0], .int .i64 1]) ∧ Below w.heap.size w w' := by
  have HR := Lib.hid hr
  clear hr
  go_enter Try.func18, Try.ntmps18
  go_wp2_with (go_at_call 41; refine (okH_s A n c X _ hn (Sl.below HR.out (K := w.heap.size) (by go_grown) (Nat.le_refl _))).mono ?_; rintro e w' ⟨rfl, rfl⟩)
  go_returns
  exact ⟨rfl, by go_grown⟩

set_option maxHeartbeats 1000000 in
theorem spacing_s_no2 (A : Option Addr) (n c : Nat) (X : Nat → Int) (st lv : Int) (w : World) (hn : n ≤ maxLen) (hr : Sl w A n 1 X) (hv : shpB n X = true) (hk : (inB st 3 60 && inB lv 0 ((n : Int) - 1)) = false) :
    Calls Try.prog 18 #[.slice A n c, .int .i64 st, .int .i64 lv] w fun e w' => e = .returned (.tuple #[.agg #[.int .i64 0, .int .i64 0], .int .i64 2]) ∧ Below w.heap.size w w' := by
  obtain ⟨n0, n12, hX⟩ := shpB_of hv
  have HR := Lib.hid hr
  have HX := Lib.hid hX
  clear hr hX
  cases k0 : inB st 3 60
  · clear hk
    go_enter Try.func18, Try.ntmps18
    go_wp2_with (first | (go_at_call 41; refine (okH_s A n c X _ hn (Sl.below HR.out (K := w.heap.size) (by go_grown) (Nat.le_refl _))).mono ?_; rintro e w' ⟨rfl, rfl⟩) | (go_at_call 44; refine (stakes_s _ _).mono ?_; rintro e w' ⟨rfl, rfl⟩))
    go_returns
    exact ⟨rfl, by go_grown⟩
  · have k1 : inB lv 0 ((n : Int) - 1) = false := by rw [k0, Bool.true_and] at hk; exact hk
    clear hk
    go_enter Try.func18, Try.ntmps18
    go_wp2_with (first | (go_at_call 41; refine (okH_s A n c X _ hn (Sl.below HR.out (K := w.heap.size) (by go_grown) (Nat.le_refl _))).mono ?_; rintro e w' ⟨rfl, rfl⟩) | (go_at_call 44; refine (stakes_s _ _).mono ?_; rintro e w' ⟨rfl, rfl⟩) | (go_at_call 45; refine (in_s _ _ _ _).mono ?_; rintro e w' ⟨rfl, rfl⟩))
    go_returns
    exact ⟨rfl, by go_grown⟩

set_option maxHeartbeats 1000000 in
theorem spacing_s (A : Option Addr) (n c : Nat) (X : Nat → Int) (st : Int) (i : Nat) (w : World) (hn : n ≤ maxLen) (hr : Sl w A n 1 X) (hv : shpB n X = true) (k0 : inB st 3 60 = true) (hi : i < n) :
    Calls Try.prog 18 #[.slice A n c, .int .i64 st, .int .i64 (i : Int)] w fun e w' => e = .returned (.tuple #[.agg #[.int .i64 (X i / gcdI (X i) st), .int .i64 (st / gcdI (X i) st)], .int .i64 0]) ∧ Below w.heap.size w w' := by
  obtain ⟨n0, n12, hX⟩ := shpB_of hv
  have k1 : inB (i : Int) 0 ((n : Int) - 1) = true := inB_yes (by omega) (by omega)
  obtain ⟨s1, s2⟩ := inB_of k0
  obtain ⟨x1, x2⟩ := hX i hi
  have HR := Lib.hid hr
  obtain ⟨b, o, rfl, hb, hI⟩ := hr (by omega)
  have h0 := hI i (by omega)
  have hi' : (i : Int) < (n : Int) := by omega
  clear hX hI
  go_enter Try.func18, Try.ntmps18
  go_wp2_with (first | (go_at_call 41; refine (okH_s _ n c X _ hn (Sl.below HR.out (K := w.heap.size) (by go_grown) (Nat.le_refl _))).mono ?_; rintro e w' ⟨rfl, rfl⟩) | (go_at_call 44; refine (stakes_s _ _).mono ?_; rintro e w' ⟨rfl, rfl⟩) | (go_at_call 45; refine (in_s _ _ _ _).mono ?_; rintro e w' ⟨rfl, rfl⟩))
  refine (make_s (X i) st (by omega) (by omega) (by omega) (by omega) _).mono ?_
  rintro e w1 ⟨rfl, hb⟩
  obtain ⟨hc, hf⟩ := bcell hb
  have hz := hb.size
  simp at hz
  have c0 : w1.cell? ⟨w.heap.size, 0, none⟩ = some (.int .i64 0) := by rw [hc _ _ (by simp <;> omega)]; go_simp
  have c1 : w1.cell? ⟨w.heap.size, 1, none⟩ = some (.int .i64 0) := by rw [hc _ _ (by simp <;> omega)]; go_simp
  have f0 : w1.frozen? ⟨w.heap.size, 0, none⟩ = false := by rw [hf _ _ (by simp <;> omega)]; go_simp
  have f1 : w1.frozen? ⟨w.heap.size, 1, none⟩ = false := by rw [hf _ _ (by simp <;> omega)]; go_simp
  have hg : Below w.heap.size w w1 := Below.trans (by go_grown) (hb.mono (by simp <;> omega))
  clear hb hc hf
  go_wp2
  exact bodyPost_ret (v := .tuple #[.agg #[.int .i64 (X i / gcdI (X i) st), .int .i64 (st / gcdI (X i) st)], .int .i64 0]) (by simp [results, Try.results18, go_sem, c0, c1]) rfl
    ⟨rfl, Below.setCell (Below.setCell hg (Nat.le_refl _) _) (Nat.le_refl _) _⟩

set_option maxHeartbeats 1000000 in
theorem spacing_i_no1 (A : Option Addr) (n c : Nat) (X : Nat → Int) (st lv : Int) (w : World) (hn : n ≤ maxLen) (hr : Sl w A n 1 X) (hv : shpB n X = false) :
    Calls Try.prog 19 #[.slice A n c, .int .i64 st, .int .i64 lv] w fun e w' => e = .returned (.tuple #[.agg #[.int .i64 0, .int .i64 0], .int .i64 1]) ∧ Below w.heap.size w w' := by
  have HR := Lib.hid hr
  clear hr
  go_enter Try.func19, Try.ntmps19
  go_wp2_with (go_at_call 16; refine (ok_i A n c X _ hn (Sl.below HR.out (K := w.heap.size) (by go_grown) (Nat.le_refl _))).mono ?_; rintro e w' ⟨rfl, rfl⟩)
  go_returns
  exact ⟨rfl, by go_grown⟩

set_option maxHeartbeats 1000000 in
theorem spacing_i_no2 (A : Option Addr) (n c : Nat) (X : Nat → Int) (st lv : Int) (w : World) (hn : n ≤ maxLen) (hr : Sl w A n 1 X) (hv : shpB n X = true) (hk : (inB st 3 60 && inB lv 0 ((n : Int) - 1)) = false) :
    Calls Try.prog 19 #[.slice A n c, .int .i64 st, .int .i64 lv] w fun e w' => e = .returned (.tuple #[.agg #[.int .i64 0, .int .i64 0], .int .i64 2]) ∧ Below w.heap.size w w' := by
  obtain ⟨n0, n12, hX⟩ := shpB_of hv
  have HR := Lib.hid hr
  have HX := Lib.hid hX
  clear hr hX
  cases k0 : inB st 3 60
  · clear hk
    go_enter Try.func19, Try.ntmps19
    go_wp2_with (first | (go_at_call 16; refine (ok_i A n c X _ hn (Sl.below HR.out (K := w.heap.size) (by go_grown) (Nat.le_refl _))).mono ?_; rintro e w' ⟨rfl, rfl⟩) | (go_at_call 47; refine (stakes_i _ _).mono ?_; rintro e w' ⟨rfl, rfl⟩))
    go_returns
    exact ⟨rfl, by go_grown⟩
  · have k1 : inB lv 0 ((n : Int) - 1) = false := by rw [k0, Bool.true_and] at hk; exact hk
    clear hk
    go_enter Try.func19, Try.ntmps19
    go_wp2_with (first | (go_at_call 16; refine (ok_i A n c X _ hn (Sl.below HR.out (K := w.heap.size) (by go_grown) (Nat.le_refl _))).mono ?_; rintro e w' ⟨rfl, rfl⟩) | (go_at_call 47; refine (stakes_i _ _).mono ?_; rintro e w' ⟨rfl, rfl⟩) | (go_at_call 48; refine (in_i _ _ _ _).mono ?_; rintro e w' ⟨rfl, rfl⟩))
    go_returns
    exact ⟨rfl, by go_grown⟩

set_option maxHeartbeats 1000000 in
theorem spacing_i (A : Option Addr) (n c : Nat) (X : Nat → Int) (st : Int) (i : Nat) (w : World) (hn : n ≤ maxLen) (hr : Sl w A n 1 X) (hv : shpB n X = true) (k0 : inB st 3 60 = true) (hi : i < n) :
    Calls Try.prog 19 #[.slice A n c, .int .i64 st, .int .i64 (i : Int)] w fun e w' => e = .returned (.tuple #[.agg #[.int .i64 (X i / gcdI (X i) st), .int .i64 (st / gcdI (X i) st)], .int .i64 0]) ∧ Below w.heap.size w w' := by
  obtain ⟨n0, n12, hX⟩ := shpB_of hv
  have k1 : inB (i : Int) 0 ((n : Int) - 1) = true := inB_yes (by omega) (by omega)
  obtain ⟨s1, s2⟩ := inB_of k0
  obtain ⟨x1, x2⟩ := hX i hi
  have HR := Lib.hid hr
  obtain ⟨b, o, rfl, hb, hI⟩ := hr (by omega)
  have h0 := hI i (by omega)
  have hi' : (i : Int) < (n : Int) := by omega
  clear hX hI
  go_enter Try.func19, Try.ntmps19
  go_wp2_with (first | (go_at_call 16; refine (ok_i _ n c X _ hn (Sl.below HR.out (K := w.heap.size) (by go_grown) (Nat.le_refl _))).mono ?_; rintro e w' ⟨rfl, rfl⟩) | (go_at_call 47; refine (stakes_i _ _).mono ?_; rintro e w' ⟨rfl, rfl⟩) | (go_at_call 48; refine (in_i _ _ _ _).mono ?_; rintro e w' ⟨rfl, rfl⟩))
  refine (lowest_i (X i) st (by omega) (by omega) (by omega) (by omega) _).mono ?_
  rintro e w1 ⟨rfl, hb⟩
  obtain ⟨hc, hf⟩ := bcell hb
  have hz := hb.size
  simp at hz
  have c0 : w1.cell? ⟨w.heap.size, 0, none⟩ = some (.int .i64 0) := by rw [hc _ _ (by simp <;> omega)]; go_simp
  have c1 : w1.cell? ⟨w.heap.size, 1, none⟩ = some (.int .i64 0) := by rw [hc _ _ (by simp <;> omega)]; go_simp
  have f0 : w1.frozen? ⟨w.heap.size, 0, none⟩ = false := by rw [hf _ _ (by simp <;> omega)]; go_simp
  have f1 : w1.frozen? ⟨w.heap.size, 1, none⟩ = false := by rw [hf _ _ (by simp <;> omega)]; go_simp
  have hg : Below w.heap.size w w1 := Below.trans (by go_grown) (hb.mono (by simp <;> omega))
  clear hb hc hf
  go_wp2
  exact bodyPost_ret (v := .tuple #[.agg #[.int .i64 (X i / gcdI (X i) st), .int .i64 (st / gcdI (X i) st)], .int .i64 0]) (by simp [results, Try.results19, go_sem, c0, c1]) rfl
    ⟨rfl, Below.setCell (Below.setCell hg (Nat.le_refl _) _) (Nat.le_refl _) _⟩

end Go.Proofs.Ythcebbamgoklcaa.shp
