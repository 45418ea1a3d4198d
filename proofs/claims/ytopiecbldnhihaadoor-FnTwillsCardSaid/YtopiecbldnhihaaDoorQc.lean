/-
  Twills: validity and equality, contracts of the program and of the model. No condition of a statement lies here.
-/
import Derived.Test.YtopiecbldnhihaaDoorQb
import Derived.Test.YtopiecbldnhihaaDoorSame
import Derived.Test.YtopiecbldnhihaaDoorFold2
namespace Go.Proofs.YtopiecbldnhihaaDoor.twl
open Go.ChangeShapes Go.WideShapes Go.ChangeAt Go.RowKit Go.Deep Go.Proofs.YtopiecbldnhihaaDoor.mem Go.Proofs.YtopiecbldnhihaaDoor.rod Go.Proofs.YtopiecbldnhihaaDoor.nums Go.Proofs.YtopiecbldnhihaaDoor.shp
set_option linter.unusedVariables false
set_option maxRecDepth 100000

set_option maxHeartbeats 1000000 in
theorem twval_i_none (A : Option Addr) (n c : Nat) (X : Nat → Int) (st : Int) (w : World) (hn : n ≤ maxLen) (hr : Sl w A n 1 X) (h0 : ¬ 0 < n) :
    Calls Tryd.prog 19 #[.agg #[.slice A n c, .int .i64 st]] w fun e w' => e = .returned (.bool false) ∧ Below w.heap.size w w' := by
  unfold maxLen at hn
  have HR := Lib.hid hr
  clear hr
  have h0' : decide (0 < n) = false := decide_eq_false (by omega)
  have h0'' : decide ((0 : Int) < (n : Int)) = false := decide_eq_false (by omega)
  clear h0
  go_enter Tryd.func19, Tryd.ntmps19
  go_wp2_with fail
  have p0 : (w.alloc (Obj.cells #[.slice A n c, .int .i64 st] 26)).cell? ⟨w.heap.size, 0, none⟩ = some (.slice A n c) := by go_simp
  have p1 : (w.alloc (Obj.cells #[.slice A n c, .int .i64 st] 26)).cell? ⟨w.heap.size, 1, none⟩ = some (.int .i64 st) := by go_simp
  go_quiet (fail)
  go_wp2
  go_ret
  exact ⟨rfl, drewN_below (by go_grown) _⟩

set_option maxHeartbeats 1000000 in
theorem twval_i_odd (A : Option Addr) (n c : Nat) (X : Nat → Int) (st : Int) (w : World) (hn : n ≤ maxLen) (hr : Sl w A n 1 X) (h0 : 0 < n) (he : ¬ n % 2 = 0) :
    Calls Tryd.prog 19 #[.agg #[.slice A n c, .int .i64 st]] w fun e w' => e = .returned (.bool false) ∧ Below w.heap.size w w' := by
  unfold maxLen at hn
  have HR := Lib.hid hr
  clear hr
  have h0' : (0 : Int) < (n : Int) := by omega
  have e0 : (n : Int) % 2 = 1 := by omega
  clear he
  go_enter Tryd.func19, Tryd.ntmps19
  go_wp2_with fail
  have p0 : (w.alloc (Obj.cells #[.slice A n c, .int .i64 st] 26)).cell? ⟨w.heap.size, 0, none⟩ = some (.slice A n c) := by go_simp
  have p1 : (w.alloc (Obj.cells #[.slice A n c, .int .i64 st] 26)).cell? ⟨w.heap.size, 1, none⟩ = some (.int .i64 st) := by go_simp
  go_quiet (fail)
  go_wp2
  go_ret
  exact ⟨rfl, drewN_below (by go_grown) _⟩

set_option maxHeartbeats 1000000 in
theorem twval_i_out (A : Option Addr) (n c : Nat) (X : Nat → Int) (st : Int) (w : World) (hn : n ≤ maxLen) (hr : Sl w A n 1 X) (h0 : 0 < n) (he : n % 2 = 0) (HAB : (decide (n ≤ 12) && allIn 1 12 X n) = false) :
    Calls Tryd.prog 19 #[.agg #[.slice A n c, .int .i64 st]] w fun e w' => e = .returned (.bool false) ∧ Below w.heap.size w w' := by
  unfold maxLen at hn
  have HR := Lib.hid hr
  clear hr
  have h0' : (0 : Int) < (n : Int) := by omega
  have e0 : (n : Int) % 2 = 0 := by omega
  clear he
  have HA := Lib.hid (fun W (hw : Below w.heap.size w W) => are_parts A n c X W (by unfold maxLen; omega) (HR.out.below hw (Nat.le_refl _)))
  rw [HAB] at HA
  clear HAB
  go_enter Tryd.func19, Tryd.ntmps19
  go_wp2_with fail
  have p0 : (w.alloc (Obj.cells #[.slice A n c, .int .i64 st] 26)).cell? ⟨w.heap.size, 0, none⟩ = some (.slice A n c) := by go_simp
  have p1 : (w.alloc (Obj.cells #[.slice A n c, .int .i64 st] 26)).cell? ⟨w.heap.size, 1, none⟩ = some (.int .i64 st) := by go_simp
  go_quiet ((go_at_call 52; exact Calls.quiet_of_same ((HA.out _ (drewN_below (by go_grown) _)).mono fun _ _ ⟨p, q⟩ => ⟨p, q.symm⟩)))
  go_wp2
  go_ret
  exact ⟨rfl, drewN_below (by go_grown) _⟩

set_option maxHeartbeats 1000000 in
theorem twval_i_sum (A : Option Addr) (n c : Nat) (X : Nat → Int) (st : Int) (w : World) (hn : n ≤ maxLen) (hr : Sl w A n 1 X) (h0 : 0 < n) (he : n % 2 = 0) (HAB : (decide (n ≤ 12) && allIn 1 12 X n) = true) (h3 : ¬ sumN X n ≤ 12) :
    Calls Tryd.prog 19 #[.agg #[.slice A n c, .int .i64 st]] w fun e w' => e = .returned (.bool false) ∧ Below w.heap.size w w' := by
  unfold maxLen at hn
  have HR := Lib.hid hr
  clear hr
  have h0' : (0 : Int) < (n : Int) := by omega
  have e0 : ((n : Int).tmod 2 == 0) = true := by rw [Int.tmod_eq_emod_of_nonneg (by omega)]; exact beq_iff_eq.2 (by omega)
  clear he
  have h12 : n ≤ 12 := by have := HAB; rw [Bool.and_eq_true, decide_eq_true_eq] at this; exact this.1
  have HAT := Lib.hid (fun j (hj : j < n) => allIn_at (l := 1) (h := 12) (by have := HAB; rw [Bool.and_eq_true] at this; exact this.2) hj)
  have HA := Lib.hid (fun W (hw : Below w.heap.size w W) => are_parts A n c X W (by unfold maxLen; omega) (HR.out.below hw (Nat.le_refl _)))
  rw [HAB] at HA
  clear HAB
  have HW := Lib.hid (fun W (hw : Below w.heap.size w W) => width_i A n c X st W h12 HAT.out (HR.out.below hw (Nat.le_refl _)))
  have h3' : decide (sumN X n ≤ 12) = false := decide_eq_false h3
  clear h3 h12
  generalize sumN X n = S at *
  go_enter Tryd.func19, Tryd.ntmps19
  go_wp2_with fail
  have p0 : (w.alloc (Obj.cells #[.slice A n c, .int .i64 st] 26)).cell? ⟨w.heap.size, 0, none⟩ = some (.slice A n c) := by go_simp
  have p1 : (w.alloc (Obj.cells #[.slice A n c, .int .i64 st] 26)).cell? ⟨w.heap.size, 1, none⟩ = some (.int .i64 st) := by go_simp
  first | (go_region_with
    (first
      | (go_at_call 52; refine (HA.out _ (by first | exact g3 | exact g2 | go_grown)).mono ?_; rintro e w1 ⟨rfl, rfl⟩; try clear HA)
      | (go_at_call 42; refine (HW.out _ (by first | exact g3 | exact g2 | go_grown)).mono ?_; rintro e w2 ⟨rfl, hb⟩
         have hz := hb.size
         try simp at hz
         have g2 : Below w.heap.size w w2 := Below.trans (by first | exact g3 | exact g2 | go_grown) (hb.mono (by first | omega | (simp; done) | (simp; omega)))
         replace p0 := (hb.cell (p := ⟨w.heap.size, 0, none⟩) (by first | (show w.heap.size < _; omega) | (simp; done))).trans p0
         replace p1 := (hb.cell (p := ⟨w.heap.size, 1, none⟩) (by first | (show w.heap.size < _; omega) | (simp; done))).trans p1
         clear hb)
      | (go_at_call 29; refine (in_i _ _ _ _).mono ?_; rintro e w' ⟨rfl, rfl⟩))) | fail
  all_goals go_wp2
  all_goals go_ret
  all_goals exact ⟨rfl, by first | exact g2 | go_grown⟩

set_option maxHeartbeats 1000000 in
theorem twval_i_end (A : Option Addr) (n c : Nat) (X : Nat → Int) (st : Int) (w : World) (hn : n ≤ maxLen) (hr : Sl w A n 1 X) (h0 : 0 < n) (he : n % 2 = 0) (HAB : (decide (n ≤ 12) && allIn 1 12 X n) = true) (h3 : sumN X n ≤ 12) :
    Calls Tryd.prog 19 #[.agg #[.slice A n c, .int .i64 st]] w fun e w' => e = .returned (.bool (inB st 1 (sumN X n - 1))) ∧ Below w.heap.size w w' := by
  unfold maxLen at hn
  have HR := Lib.hid hr
  clear hr
  have h0' : (0 : Int) < (n : Int) := by omega
  have e0 : ((n : Int).tmod 2 == 0) = true := by rw [Int.tmod_eq_emod_of_nonneg (by omega)]; exact beq_iff_eq.2 (by omega)
  clear he
  have h12 : n ≤ 12 := by have := HAB; rw [Bool.and_eq_true, decide_eq_true_eq] at this; exact this.1
  have HAT := Lib.hid (fun j (hj : j < n) => allIn_at (l := 1) (h := 12) (by have := HAB; rw [Bool.and_eq_true] at this; exact this.2) hj)
  have HA := Lib.hid (fun W (hw : Below w.heap.size w W) => are_parts A n c X W (by unfold maxLen; omega) (HR.out.below hw (Nat.le_refl _)))
  rw [HAB] at HA
  clear HAB
  have HW := Lib.hid (fun W (hw : Below w.heap.size w W) => width_i A n c X st W h12 HAT.out (HR.out.below hw (Nat.le_refl _)))
  have HBD := sumN_bd HAT.out
  have hs : IntKind.i64.wrap (sumN X n - 1) = sumN X n - 1 := by rw [IntKind.wrap_i64]; omega
  generalize sumN X n = S at *
  go_enter Tryd.func19, Tryd.ntmps19
  go_wp2_with fail
  have p0 : (w.alloc (Obj.cells #[.slice A n c, .int .i64 st] 26)).cell? ⟨w.heap.size, 0, none⟩ = some (.slice A n c) := by go_simp
  have p1 : (w.alloc (Obj.cells #[.slice A n c, .int .i64 st] 26)).cell? ⟨w.heap.size, 1, none⟩ = some (.int .i64 st) := by go_simp
  go_region_held3 (fun x => x.cell? ⟨w.heap.size, 0, none⟩ = some (.slice A n c) ∧ x.cell? ⟨w.heap.size, 1, none⟩ = some (.int .i64 st)) (first | exact ⟨p0, p1⟩ | go_keep)
    (first
      | (go_at_call 52; refine (HA.out _ (by first | exact g3 | exact g2 | go_grown)).mono ?_; rintro e w1 ⟨rfl, rfl⟩; try clear HA)
      | (go_at_call 42; refine (HW.out _ (by first | exact g3 | exact g2 | go_grown)).mono ?_; rintro e w2 ⟨rfl, hb⟩
         have hz := hb.size
         try simp at hz
         have g2 : Below w.heap.size w w2 := Below.trans (by first | exact g3 | exact g2 | go_grown) (hb.mono (by first | omega | (simp; done) | (simp; omega)))
         replace p0 := (hb.cell (p := ⟨w.heap.size, 0, none⟩) (by first | (show w.heap.size < _; omega) | (simp; done))).trans p0
         replace p1 := (hb.cell (p := ⟨w.heap.size, 1, none⟩) (by first | (show w.heap.size < _; omega) | (simp; done))).trans p1
         clear hb)
      | (go_at_call 29; refine (in_i _ _ _ _).mono ?_; rintro e w' ⟨rfl, rfl⟩))
  go_wp2
  go_ret
  exact ⟨rfl, by first | exact g2 | go_grown⟩

theorem twB_none {n : Nat} {X : Nat → Int} {st : Int} (h : ¬ 0 < n) : twB n X st = false := by unfold twB partB; simp [h]
theorem twB_out {n : Nat} {X : Nat → Int} {st : Int} (h : (decide (n ≤ 12) && allIn 1 12 X n) = false) : twB n X st = false := by unfold twB partB; rw [h]; simp
theorem twval_i (A : Option Addr) (n c : Nat) (X : Nat → Int) (st : Int) (w : World) (hn : n ≤ maxLen) (hr : Sl w A n 1 X) :
    Calls Tryd.prog 19 #[.agg #[.slice A n c, .int .i64 st]] w fun e w' => e = .returned (.bool (twB n X st)) ∧ Below w.heap.size w w' := by
  by_cases h0 : 0 < n
  · by_cases he : n % 2 = 0
    · cases HAB : (decide (n ≤ 12) && allIn 1 12 X n)
      · rw [twB_out HAB]; exact twval_i_out A n c X st w hn hr h0 he HAB
      · by_cases h3 : sumN X n ≤ 12
        · have ⟨a, b⟩ : n ≤ 12 ∧ allIn 1 12 X n = true := by rw [Bool.and_eq_true, decide_eq_true_eq] at HAB; exact HAB
          rw [twB_end (by omega) a he b h3]; exact twval_i_end A n c X st w hn hr h0 he HAB h3
        · rw [twB_sum h3]; exact twval_i_sum A n c X st w hn hr h0 he HAB h3
    · rw [twB_odd he]; exact twval_i_odd A n c X st w hn hr h0 he
  · rw [twB_none h0]; exact twval_i_none A n c X st w hn hr h0

end Go.Proofs.YtopiecbldnhihaaDoor.twl
