/-
  Contracts of WidestLevel, of the model and of the program. No condition of a statement lies here.
-/
import Derived.Test.YtldeeilgmogjjaaHa
import Derived.Test.YtldeeilgmogjjaaOpen
import Derived.Test.YtldeeilgmogjjaaNums
import Derived.Test.YtldeeilgmogjjaaIn
namespace Go.Proofs.Ytldeeilgmogjjaa.shp
open Go.ChangeShapes Go.WideShapes Go.ChangeAt Go.RowKit Go.Proofs.Ytldeeilgmogjjaa.mem Go.Proofs.Ytldeeilgmogjjaa.rod Go.Proofs.Ytldeeilgmogjjaa.nums
set_option linter.unusedVariables false
set_option maxRecDepth 100000

/-- the first greatest one of the first n + 1 numbers -/
def wid (X : Nat → Int) : Nat → Nat
  | 0 => 0
  | n + 1 => if X (wid X n) < X (n + 1) then n + 1 else wid X n
theorem wid_yes {X : Nat → Int} {n : Nat} (h : X (wid X n) < X (n + 1)) : wid X (n + 1) = n + 1 := if_pos h
theorem wid_no {X : Nat → Int} {n : Nat} (h : ¬ X (wid X n) < X (n + 1)) : wid X (n + 1) = wid X n := if_neg h
theorem wid_le (X : Nat → Int) : ∀ n, wid X n ≤ n
  | 0 => Nat.le_refl _
  | n + 1 => by
    have := wid_le X n
    by_cases h : X (wid X n) < X (n + 1)
    · rw [wid_yes h]; omega
    · rw [wid_no h]; omega
theorem wid_max (X : Nat → Int) : ∀ n j, j ≤ n → X j ≤ X (wid X n) ∧ (j < wid X n → X j < X (wid X n))
  | 0, j, hj => by obtain rfl : j = 0 := by omega
                   exact ⟨Int.le_refl _, fun h => absurd h (by unfold wid; omega)⟩
  | n + 1, j, hj => by
    have hl := wid_le X n
    by_cases h : X (wid X n) < X (n + 1)
    · rw [wid_yes h]
      by_cases e : j = n + 1
      · subst e; exact ⟨Int.le_refl _, fun h => absurd h (by omega)⟩
      · have := (wid_max X n j (by omega)).1
        exact ⟨by omega, fun _ => by omega⟩
    · rw [wid_no h]
      by_cases e : j = n + 1
      · subst e; exact ⟨by omega, fun h => absurd h (by omega)⟩
      · exact wid_max X n j (by omega)

set_option maxHeartbeats 1000000 in
theorem widest_i_no (A : Option Addr) (n c : Nat) (X : Nat → Int) (w : World) (hn : n ≤ maxLen) (hr : Sl w A n 1 X) (hv : shpB n X = false) :
    Calls Try.prog 8 #[.slice A n c] w fun e w' => e = .returned (.tuple #[.int .i64 0, .int .i64 0, .int .i64 1]) ∧ Below w.heap.size w w' := by
  have HR := Lib.hid hr
  clear hr
  go_enter Try.func8, Try.ntmps8
  go_wp2_with (go_at_call 15; refine (ok_i A n c X _ hn (Sl.below HR.out (K := w.heap.size) (by go_grown) (Nat.le_refl _))).mono ?_; rintro e w' ⟨rfl, rfl⟩)
  go_returns
  exact ⟨rfl, by go_grown⟩

set_option maxHeartbeats 1000000 in
theorem max_i (b o n c : Nat) (X : Nat → Int) (w : World) (n0 : 0 < n) (hn : n ≤ 12) (hI : Ints w b o (n * 1) X) :
    Calls Try.prog 18 #[.slice (some ⟨b, o, none⟩) n c] w fun e w' => e = .returned (.int .i64 (X (wid X (n - 1)))) ∧ w = w' := by
  have n0' : ¬ (n : Int) < 1 := by omega
  have n1' : (0 : Int) < (n : Int) := by omega
  have h00 := hI 0 (by omega)
  rw [Nat.add_zero] at h00
  have HI := Lib.hid hI
  clear hI
  go_enter Try.func18, Try.ntmps18
  go_wp2_with fail
  clear h00
  go_loop [3, 4] (fun s t => ∃ k : Nat, 1 ≤ k ∧ k ≤ n ∧ t = .int .i64 k ∧ s = .int .i64 (X (wid X (k - 1)))) (fun s t => n - (intOf t).toNat)
  case atStart => exact ⟨1, by omega, by omega, rfl, rfl⟩
  case round =>
    obtain ⟨k, k1, kn, rfl, rfl⟩ := hrel
    by_cases hlt : k < n
    · obtain ⟨q, hq⟩ : ∃ q, k = q + 1 := ⟨k - 1, by omega⟩
      rw [show k - 1 = q by omega]
      have hlt' : (k : Int) < (n : Int) := by omega
      have hk0 : (0 : Int) ≤ (k : Int) := by omega
      have hw1 := wid_le X q
      generalize hW : wid X q = z at *
      have hz0 : (0 : Int) ≤ (z : Int) := by omega
      have hzn : (z : Int) < (n : Int) := by omega
      have h1 := HI.out k (by omega)
      by_cases hc : X z < X k
      · have hn1 := wid_yes (X := X) (n := q) (by rw [hW, ← hq]; exact hc)
        have HN := Lib.hid (show wid X k = k by rw [hq, hn1])
        have HQ := Lib.hid hq
        have HW := Lib.hid hW
        clear hq hW hn1
        go_wp2
        go_round
        case rel => exact ⟨k + 1, by omega, by omega, by go_num, by rw [Nat.add_sub_cancel, HN.out]⟩
        case measure => simp [intOf]; omega
      · have hn1 := wid_no (X := X) (n := q) (by rw [hW, ← hq]; exact hc)
        have HN := Lib.hid (show wid X k = z by rw [hq, hn1, hW])
        have HQ := Lib.hid hq
        have HW := Lib.hid hW
        clear hq hW hn1
        by_cases he : X z = X k
        · rw [he]
          have HE := Lib.hid he
          clear he hc
          go_wp2
          go_round
          case rel => exact ⟨k + 1, by omega, by omega, by go_num, by rw [Nat.add_sub_cancel, HN.out, HE.out]⟩
          case measure => simp [intOf]; omega
        · have hg : X k < X z := by omega
          clear he hc
          go_wp2
          go_round
          case rel => exact ⟨k + 1, by omega, by omega, by go_num, by rw [Nat.add_sub_cancel, HN.out]⟩
          case measure => simp [intOf]; omega
    · obtain rfl : n = k := by omega
      go_wp2
      go_ret
      exact ⟨rfl, rfl⟩

set_option maxHeartbeats 1000000 in
theorem index_i (b o n c : Nat) (X : Nat → Int) (w : World) (z : Nat) (hz : z < n) (hn : n ≤ 12) (hI : Ints w b o (n * 1) X) (hb : ∀ j, j < z → X j < X z) :
    Calls Try.prog 19 #[.slice (some ⟨b, o, none⟩) n c, .int .i64 (X z)] w fun e w' => e = .returned (.int .i64 (z : Nat)) ∧ w = w' := by
  have HI := Lib.hid hI
  have HB := Lib.hid hb
  clear hI hb
  generalize hv : X z = v at *
  have HV := Lib.hid hv
  clear hv
  go_enter Try.func19, Try.ntmps19
  go_wp2_with fail
  go_loop [8] (fun t => ∃ k : Nat, k ≤ z ∧ t = .int .i64 k) (fun t => n - (intOf t).toNat)
  case atStart => exact ⟨0, by omega, rfl⟩
  case round =>
    obtain ⟨k, kn, rfl⟩ := hrel
    have hlt' : (k : Int) < (n : Int) := by omega
    have h1 := HI.out k (by omega)
    by_cases hlt : k < z
    · have hne := HB.out k hlt
      have e1 : (v == X k) = false := by simp; omega
      clear hne
      go_wp2
      go_round
      case rel => exact ⟨k + 1, by omega, by go_num⟩
      case measure => simp [intOf]; omega
    · obtain rfl : k = z := by omega
      rw [HV.out] at h1
      go_wp2
      go_ret
      exact ⟨rfl, rfl⟩

set_option maxHeartbeats 1000000 in
theorem widest_i (A : Option Addr) (n c : Nat) (X : Nat → Int) (w : World) (hn : n ≤ maxLen) (hr : Sl w A n 1 X) (hv : shpB n X = true) :
    Calls Try.prog 8 #[.slice A n c] w fun e w' => e = .returned (.tuple #[.int .i64 (wid X (n - 1) : Nat), .int .i64 (X (wid X (n - 1))), .int .i64 0]) ∧ Below w.heap.size w w' := by
  obtain ⟨n0, n12, hX⟩ := shpB_of hv
  have HR := Lib.hid hr
  obtain ⟨b, o, rfl, hb, hI⟩ := hr (by omega)
  have HI := Lib.hid hI
  have hw1 := wid_le X (n - 1)
  have HW := Lib.hid (fun j (hj : j < wid X (n - 1)) => (wid_max X (n - 1) j (by omega)).2 hj)
  clear hr hX hI
  go_enter Try.func8, Try.ntmps8
  go_wp2_with (go_at_call 15; refine (ok_i _ n c X _ hn (Sl.below HR.out (K := w.heap.size) (by go_grown) (Nat.le_refl _))).mono ?_; rintro e w' ⟨rfl, rfl⟩)
  refine (max_i b o n c X _ n0 n12 HI.out).mono ?_
  rintro e w' ⟨rfl, rfl⟩
  go_wp2_with fail
  refine (index_i b o n c X _ (wid X (n - 1)) (by omega) n12 HI.out HW.out).mono ?_
  rintro e w' ⟨rfl, rfl⟩
  go_wp2
  go_returns
  exact ⟨rfl, by go_grown⟩

end Go.Proofs.Ytldeeilgmogjjaa.shp
