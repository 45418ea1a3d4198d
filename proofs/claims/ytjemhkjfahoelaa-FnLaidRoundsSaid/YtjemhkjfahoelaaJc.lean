/-
  Contracts of JoinsOf, of the model and of the program. No condition of a statement lies here.
-/
import Derived.Test.YtjemhkjfahoelaaJb
namespace Go.Proofs.Ytjemhkjfahoelaa.jns
open Go.ChangeShapes Go.WideShapes Go.ChangeAt Go.RowKit Go.Proofs.Ytjemhkjfahoelaa.mem Go.Proofs.Ytjemhkjfahoelaa.rod Go.Proofs.Ytjemhkjfahoelaa.nums
set_option linter.unusedVariables false
set_option maxRecDepth 100000

/-- the first k joins are told by their stakes, the others by their places -/
def mix (X : Nat → Int) (st : Int) (k j : Nat) : Int := if j < k then ps X (j + 1) % st else ps X (j + 1)
theorem mix_at (X : Nat → Int) (st : Int) (k : Nat) : mix X st k k = ps X (k + 1) := if_neg (by omega)
theorem mix_step (X : Nat → Int) (st : Int) (k j : Nat) : (if j = k then ps X (k + 1) % st else mix X st k j) = mix X st (k + 1) j := by
  unfold mix
  by_cases e : j = k
  · subst e; rw [if_pos rfl, if_pos (by omega)]
  · rw [if_neg e]
    by_cases h : j < k
    · rw [if_pos h, if_pos (by omega)]
    · rw [if_neg h, if_neg (by omega)]

set_option maxHeartbeats 1000000 in
theorem joinsOf_s_no (st : Int) (A : Option Addr) (n c : Nat) (X : Nat → Int) (w : World) (hn : n ≤ maxLen) (hr : Sl w A n 1 X) (hv : laidB st n X = false) :
    Calls Try.prog 14 #[.int .i64 st, .slice A n c] w (NumsCode w 2 [] 1) := by
  have HR := Lib.hid hr
  clear hr
  go_enter Try.func14, Try.ntmps14
  go_wp2_with (go_at_call 32; refine (okL_s st A n c X _ hn (Sl.below HR.out (K := w.heap.size) (by go_grown) (Nat.le_refl _))).mono ?_; rintro e w' ⟨rfl, rfl⟩)
  go_ret2
  exact ⟨none, 0, rfl, Nat.le_refl _, by unfold maxLen; omega, Row.none_, by go_grown⟩

set_option maxHeartbeats 2000000 in
theorem joinsOf_s (st : Int) (A : Option Addr) (n c : Nat) (X : Nat → Int) (w : World) (hn : n ≤ maxLen) (hr : Sl w A n 1 X) (hv : laidB st n X = true) (h3 : 3 ≤ st) (h6 : st ≤ 60) (R : Rds n X) :
    Calls Try.prog 14 #[.int .i64 st, .slice A n c] w (NumsCode w 2 (jm X st (n - 1)) 0) := by
  have HR := Lib.hid hr
  clear hr
  have h7 := R.le
  go_enter Try.func14, Try.ntmps14
  go_wp2_with (go_at_call 32; refine (okL_s st A n c X _ hn (Sl.below HR.out (K := w.heap.size) (by go_grown) (Nat.le_refl _))).mono ?_; rintro e w' ⟨rfl, rfl⟩)
  refine (joins_s A n c X _ R (Sl.below HR.out (K := w.heap.size) (by go_grown) (Nat.le_refl _))).mono ?_
  rintro e w1 ⟨A1, c1, rfl, k1, k2, hrow, hb1⟩
  have HO := Lib.hid (hrow.congr (Y := mix X st 0) (fun j _ => by unfold mix; rw [if_neg (by omega)]))
  have HB := Lib.hid (show Below w.heap.size w w1 from hb1)
  have z1 := hb1.size
  clear hrow hb1
  go_wp2_with fail
  go_loopw [7] (fun s wr => ∃ k : Nat, k ≤ n - 1 ∧ s = .int .i64 k ∧ Hid (Row wr w.heap.size wr.heap.size A1 (n - 1) 1 2 (mix X st k)) ∧ Below w.heap.size w wr) (fun s _ => n - (intOf s).toNat)
  case atStart => exact ⟨0, by omega, rfl, HO.out, HB.out⟩
  case round =>
    obtain ⟨k, hk, rfl, hown, hbl⟩ := hrel
    have HB2 := Lib.hid hbl
    clear hbl
    by_cases hlt : k < n - 1
    · have hlt' : (k : Int) < ((n - 1 : Nat) : Int) := by omega
      have hk0 : (0 : Int) ≤ (k : Int) := by omega
      obtain ⟨g, rfl, g1, g2, ho⟩ := hown.out (by omega)
      rw [Nat.mul_one] at ho
      have p0 := ho.cell (j := k) (by omega)
      rw [mix_at] at p0
      have f0 := ho.frozen k
      obtain ⟨q1, q2⟩ := ps_top R (k := k + 1) (by omega)
      have HS := Lib.hid (fun j (_ : j < n - 1) => mix_step X st k j)
      have HW := Lib.hid ho
      clear ho hown
      generalize hP : ps X (k + 1) = q at *
      have HP := Lib.hid hP
      have e2 : q.tmod st = q % st := Int.tmod_eq_emod_of_nonneg q1
      have d3 := Int.emod_nonneg q (show st ≠ 0 by omega)
      have d4 := Int.emod_lt_of_pos q (show 0 < st by omega)
      clear hP
      go_wp2
      go_roundw
      case rel => exact ⟨k + 1, by omega, by go_num, fun _ => ⟨g, rfl, g1, by simpa using g2, by rw [Nat.mul_one]; exact (HW.out.set k (q % st)).congr HS.out⟩, Below.setCell HB2.out g1 _⟩
      case measure => simp [intOf]; omega
    · obtain rfl : n - 1 = k := by omega
      go_wp2
      go_ret2
      exact ⟨A1, c1, by rw [jm_len]; rfl, by rw [jm_len]; exact k1, k2, by rw [jm_len]; exact hown.out.congr (fun j hj => by rw [jm_at (by omega)]; unfold mix; rw [if_pos (by omega)]), HB2.out⟩

set_option maxHeartbeats 1000000 in
theorem joinsOf_i_no (st : Int) (A : Option Addr) (n c : Nat) (X : Nat → Int) (w : World) (hn : n ≤ maxLen) (hr : Sl w A n 1 X) (hv : laidB st n X = false) :
    Calls Try.prog 15 #[.int .i64 st, .slice A n c] w (NumsCode w 2 [] 1) := by
  have HR := Lib.hid hr
  clear hr
  go_enter Try.func15, Try.ntmps15
  go_wp2_with (go_at_call 12; refine (ok_i st A n c X _ hn (Sl.below HR.out (K := w.heap.size) (by go_grown) (Nat.le_refl _))).mono ?_; rintro e w' ⟨rfl, rfl⟩)
  go_ret2
  exact ⟨none, 0, rfl, Nat.le_refl _, by unfold maxLen; omega, Row.none_, by go_grown⟩

set_option maxHeartbeats 2000000 in
theorem joinsOf_i (st : Int) (A : Option Addr) (n c : Nat) (X : Nat → Int) (w : World) (hn : n ≤ maxLen) (hr : Sl w A n 1 X) (hv : laidB st n X = true) (h3 : 3 ≤ st) (h6 : st ≤ 60) (R : Rds n X) :
    Calls Try.prog 15 #[.int .i64 st, .slice A n c] w (NumsCode w 2 (jm X st (n - 1)) 0) := by
  have HR := Lib.hid hr
  clear hr
  have h7 := R.le
  go_enter Try.func15, Try.ntmps15
  go_wp2_with (go_at_call 12; refine (ok_i st A n c X _ hn (Sl.below HR.out (K := w.heap.size) (by go_grown) (Nat.le_refl _))).mono ?_; rintro e w' ⟨rfl, rfl⟩)
  refine (places_i st A n c X _ R (Sl.below HR.out (K := w.heap.size) (by go_grown) (Nat.le_refl _))).mono ?_
  rintro e w1 ⟨A1, c1, rfl, k1, k2, hrow, hb1⟩
  have HO := Lib.hid (hrow.congr (Y := mix X st 0) (fun j _ => by unfold mix; rw [if_neg (by omega)]))
  have HB := Lib.hid (show Below w.heap.size w w1 from hb1)
  have z1 := hb1.size
  clear hrow hb1
  go_wp2_with fail
  go_loopw [23] (fun s wr => ∃ k : Nat, k ≤ n - 1 ∧ s = .int .i64 k ∧ Hid (Row wr w.heap.size wr.heap.size A1 (n - 1) 1 2 (mix X st k)) ∧ Below w.heap.size w wr) (fun s _ => n - (intOf s).toNat)
  case atStart => exact ⟨0, by omega, rfl, HO.out, HB.out⟩
  case round =>
    obtain ⟨k, hk, rfl, hown, hbl⟩ := hrel
    have HB2 := Lib.hid hbl
    clear hbl
    by_cases hlt : k < n - 1
    · have hlt' : (k : Int) < ((n - 1 : Nat) : Int) := by omega
      have hk0 : (0 : Int) ≤ (k : Int) := by omega
      obtain ⟨g, rfl, g1, g2, ho⟩ := hown.out (by omega)
      rw [Nat.mul_one] at ho
      have p0 := ho.cell (j := k) (by omega)
      rw [mix_at] at p0
      have f0 := ho.frozen k
      obtain ⟨q1, q2⟩ := ps_top R (k := k + 1) (by omega)
      have HS := Lib.hid (fun j (_ : j < n - 1) => mix_step X st k j)
      have HW := Lib.hid ho
      clear ho hown
      generalize hP : ps X (k + 1) = q at *
      have HP := Lib.hid hP
      have e2 : q.tmod st = q % st := Int.tmod_eq_emod_of_nonneg q1
      have d3 := Int.emod_nonneg q (show st ≠ 0 by omega)
      have d4 := Int.emod_lt_of_pos q (show 0 < st by omega)
      clear hP
      go_wp2
      go_roundw
      case rel => exact ⟨k + 1, by omega, by go_num, fun _ => ⟨g, rfl, g1, by simpa using g2, by rw [Nat.mul_one]; exact (HW.out.set k (q % st)).congr HS.out⟩, Below.setCell HB2.out g1 _⟩
      case measure => simp [intOf]; omega
    · obtain rfl : n - 1 = k := by omega
      go_wp2
      go_ret2
      exact ⟨A1, c1, by rw [jm_len]; rfl, by rw [jm_len]; exact k1, k2, by rw [jm_len]; exact hown.out.congr (fun j hj => by rw [jm_at (by omega)]; unfold mix; rw [if_pos (by omega)]), HB2.out⟩

end Go.Proofs.Ytjemhkjfahoelaa.jns
