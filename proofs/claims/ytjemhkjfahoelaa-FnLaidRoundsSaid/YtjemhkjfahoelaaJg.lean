/-
  Contracts of walls of rods, of CountAbove and of FirstAbove, of the model and of the program. No condition of a statement lies here.
-/
import Derived.BigQuiet
import Derived.Deep.QuietTactic
import Derived.Test.YtjemhkjfahoelaaJe
import Derived.Test.YtjemhkjfahoelaaJf
namespace Go.Proofs.Ytjemhkjfahoelaa.jns
open Go.ChangeShapes Go.WideShapes Go.ChangeAt Go.RowKit Go.Proofs.Ytjemhkjfahoelaa.mem Go.Proofs.Ytjemhkjfahoelaa.rod Go.Proofs.Ytjemhkjfahoelaa.nums
set_option linter.unusedVariables false
set_option maxRecDepth 100000

theorem laid_of {st : Int} {n : Nat} {X : Nat → Int} (h : laidB st n X = true) : 3 ≤ st ∧ st ≤ 60 ∧ Rds n X := by
  unfold laidB at h
  rw [Bool.and_eq_true] at h
  exact ⟨(inB_of h.1).1, (inB_of h.1).2, rodsB_of h.2⟩
/-- the code of what is no wall -/
def codeB (st : Int) (n : Nat) (X : Nat → Int) (bs code : Int) : Prop := laidB st n X = false ∧ code = 1 ∨ laidB st n X = true ∧ inB bs 0 5 = false ∧ code = 2

set_option maxHeartbeats 1000000 in
theorem code_s_no (st : Int) (A : Option Addr) (n c : Nat) (X : Nat → Int) (bs : Int) (w : World) (hn : n ≤ maxLen) (hr : Sl w A n 1 X) (code : Int) (hv : codeB st n X bs code) :
    Calls Try.prog 39 #[.int .i64 st, .slice A n c, .int .i64 bs] w fun e w' => e = .returned (.int .i64 code) ∧ Below w.heap.size w w' := by
  have HR := Lib.hid hr
  clear hr
  rcases hv with ⟨hv, rfl⟩ | ⟨hv, hb, rfl⟩
  · go_enter Try.func39, Try.ntmps39
    go_wp2_with (first | (go_at_call 32; refine (okL_s st A n c X _ hn (Sl.below HR.out (K := w.heap.size) (by go_grown) (Nat.le_refl _))).mono ?_; rintro e w' ⟨rfl, rfl⟩) | (go_at_call 45; refine (in_s _ _ _ _).mono ?_; rintro e w' ⟨rfl, rfl⟩))
    go_ret
    exact ⟨rfl, by go_grown⟩
  · go_enter Try.func39, Try.ntmps39
    go_wp2_with (first | (go_at_call 32; refine (okL_s st A n c X _ hn (Sl.below HR.out (K := w.heap.size) (by go_grown) (Nat.le_refl _))).mono ?_; rintro e w' ⟨rfl, rfl⟩) | (go_at_call 45; refine (in_s _ _ _ _).mono ?_; rintro e w' ⟨rfl, rfl⟩))
    go_ret
    exact ⟨rfl, by go_grown⟩

set_option maxHeartbeats 1000000 in
theorem code_s (st : Int) (A : Option Addr) (n c : Nat) (X : Nat → Int) (bs : Int) (w : World) (hn : n ≤ maxLen) (hr : Sl w A n 1 X) (hv : laidB st n X = true) (hb : inB bs 0 5 = true) :
    Calls Try.prog 39 #[.int .i64 st, .slice A n c, .int .i64 bs] w fun e w' => e = .returned (.int .i64 0) ∧ Below w.heap.size w w' := by
  have HR := Lib.hid hr
  clear hr
  go_enter Try.func39, Try.ntmps39
  go_wp2_with (first | (go_at_call 32; refine (okL_s st A n c X _ hn (Sl.below HR.out (K := w.heap.size) (by go_grown) (Nat.le_refl _))).mono ?_; rintro e w' ⟨rfl, rfl⟩) | (go_at_call 45; refine (in_s _ _ _ _).mono ?_; rintro e w' ⟨rfl, rfl⟩))
  go_ret
  exact ⟨rfl, by go_grown⟩

set_option maxHeartbeats 1000000 in
theorem code_i_no (st : Int) (A : Option Addr) (n c : Nat) (X : Nat → Int) (bs : Int) (w : World) (hn : n ≤ maxLen) (hr : Sl w A n 1 X) (code : Int) (hv : codeB st n X bs code) :
    Calls Try.prog 41 #[.int .i64 st, .slice A n c, .int .i64 bs] w fun e w' => e = .returned (.tuple #[.agg #[.int .i64 0, .slice none 0 0, .int .i64 0], .int .i64 code]) ∧ Below w.heap.size w w' := by
  have HR := Lib.hid hr
  clear hr
  rcases hv with ⟨hv, rfl⟩ | ⟨hv, hb, rfl⟩
  · go_enter Try.func41, Try.ntmps41
    go_wp2_with (first | (go_at_call 12; refine (ok_i st A n c X _ hn (Sl.below HR.out (K := w.heap.size) (by go_grown) (Nat.le_refl _))).mono ?_; rintro e w' ⟨rfl, rfl⟩) | (go_at_call 49; refine (in_i _ _ _ _).mono ?_; rintro e w' ⟨rfl, rfl⟩))
    go_returns
    exact ⟨rfl, by go_grown⟩
  · go_enter Try.func41, Try.ntmps41
    go_wp2_with (first | (go_at_call 12; refine (ok_i st A n c X _ hn (Sl.below HR.out (K := w.heap.size) (by go_grown) (Nat.le_refl _))).mono ?_; rintro e w' ⟨rfl, rfl⟩) | (go_at_call 49; refine (in_i _ _ _ _).mono ?_; rintro e w' ⟨rfl, rfl⟩))
    go_returns
    exact ⟨rfl, by go_grown⟩

set_option maxHeartbeats 1000000 in
theorem code_i (st : Int) (A : Option Addr) (n c : Nat) (X : Nat → Int) (bs : Int) (w : World) (hn : n ≤ maxLen) (hr : Sl w A n 1 X) (hv : laidB st n X = true) (hb : inB bs 0 5 = true) :
    Calls Try.prog 41 #[.int .i64 st, .slice A n c, .int .i64 bs] w fun e w' => e = .returned (.tuple #[.agg #[.int .i64 st, .slice A n c, .int .i64 bs], .int .i64 0]) ∧ Below w.heap.size w w' := by
  have HR := Lib.hid hr
  clear hr
  go_enter Try.func41, Try.ntmps41
  go_wp2_with (first | (go_at_call 12; refine (ok_i st A n c X _ hn (Sl.below HR.out (K := w.heap.size) (by go_grown) (Nat.le_refl _))).mono ?_; rintro e w' ⟨rfl, rfl⟩) | (go_at_call 49; refine (in_i _ _ _ _).mono ?_; rintro e w' ⟨rfl, rfl⟩))
  go_returns
  exact ⟨rfl, by go_grown⟩

set_option maxHeartbeats 1000000 in
theorem count_i (st bs : Int) (A : Option Addr) (n c : Nat) (X : Nat → Int) (w : World) (s0 : 3 ≤ st) (s1 : st ≤ 60) (R : Rds n X) (hr : Sl w A n 1 X) :
    Calls Try.prog 43 #[.agg #[.int .i64 st, .slice A n c, .int .i64 bs]] w fun e w' => e = .returned (.int .i64 ((abv X st bs n).length : Nat)) ∧ Below w.heap.size w w' := by
  have HR := Lib.hid hr
  clear hr
  go_enter Try.func43, Try.ntmps43
  go_wp2_with fail
  refine (above_i st bs A n c X _ s0 s1 R (Sl.below HR.out (K := w.heap.size) (by go_grown) (Nat.le_refl _))).mono ?_
  rintro e w1 ⟨A1, c1, rfl, k1, k2, hrow, hb1⟩
  have g1 : Below w.heap.size w w1 := Below.trans (by go_grown) (hb1.mono (by first | (simp; done) | (simp; omega)))
  clear hrow hb1
  go_wp2
  go_ret
  exact ⟨rfl, g1⟩

set_option maxHeartbeats 1000000 in
theorem countA_s_no (st : Int) (A : Option Addr) (n c : Nat) (X : Nat → Int) (bs : Int) (w : World) (hn : n ≤ maxLen) (hr : Sl w A n 1 X) (code : Int) (hv : codeB st n X bs code) :
    Calls Try.prog 22 #[.int .i64 st, .slice A n c, .int .i64 bs] w fun e w' => e = .returned (.tuple #[.int .i64 0, .int .i64 code]) ∧ Below w.heap.size w w' := by
  have HR := Lib.hid hr
  have HC := Lib.hid (code_s_no st A n c X bs w hn hr code hv)
  have hc0 : code ≠ 0 := by rcases hv with ⟨_, rfl⟩ | ⟨_, _, rfl⟩ <;> decide
  clear hr hv
  go_enter Try.func22, Try.ntmps22
  go_wp2_with fail
  refine HC.out.mono ?_
  rintro e w1 ⟨rfl, hb1⟩
  have hd1 : (code != 0) = true := by simp [hc0]
  have HB1 := Lib.hid hb1
  have z1 := hb1.size
  clear hb1
  go_wp2
  go_ret2
  exact ⟨rfl, HB1.out.trans (by first | exact Below.refl _ _ | (go_grown; done) | (go_grown; omega))⟩

set_option maxHeartbeats 1000000 in
theorem countA_s (st : Int) (A : Option Addr) (n c : Nat) (X : Nat → Int) (bs : Int) (w : World) (hn : n ≤ maxLen) (hr : Sl w A n 1 X) (hv : laidB st n X = true) (hb : inB bs 0 5 = true) :
    Calls Try.prog 22 #[.int .i64 st, .slice A n c, .int .i64 bs] w fun e w' => e = .returned (.tuple #[.int .i64 ((abv X st bs n).length : Nat), .int .i64 0]) ∧ Below w.heap.size w w' := by
  obtain ⟨s0, s1, R⟩ := laid_of hv
  have HR := Lib.hid hr
  have HC := Lib.hid (code_s st A n c X bs w hn hr hv hb)
  clear hr hv hb
  go_enter Try.func22, Try.ntmps22
  go_wp2_with fail
  refine HC.out.mono ?_
  rintro e w1 ⟨rfl, hb1⟩
  have HB1 := Lib.hid hb1
  have z1 := hb1.size
  clear hb1 HC
  go_wp2_with fail
  refine (above_s st bs A n c X _ s0 s1 R (Sl.below HR.out HB1.out (Nat.le_refl _))).mono ?_
  rintro e w2 ⟨A2, c2, rfl, k1, k2, hrow, hb2⟩
  clear hrow
  have g2 : Below w.heap.size w w2 := HB1.out.trans (Below.trans (B := w.heap.size) (b := _) (by go_grown) (hb2.mono (by first | omega | (simp; omega))))
  clear hb2
  go_wp2
  go_ret2
  exact ⟨rfl, g2⟩

set_option maxHeartbeats 1000000 in
theorem countA_i_no (st : Int) (A : Option Addr) (n c : Nat) (X : Nat → Int) (bs : Int) (w : World) (hn : n ≤ maxLen) (hr : Sl w A n 1 X) (code : Int) (hv : codeB st n X bs code) :
    Calls Try.prog 23 #[.int .i64 st, .slice A n c, .int .i64 bs] w fun e w' => e = .returned (.tuple #[.int .i64 0, .int .i64 code]) ∧ Below w.heap.size w w' := by
  have HR := Lib.hid hr
  have HC := Lib.hid (code_i_no st A n c X bs w hn hr code hv)
  have hc0 : code ≠ 0 := by rcases hv with ⟨_, rfl⟩ | ⟨_, _, rfl⟩ <;> decide
  clear hr hv
  go_enter Try.func23, Try.ntmps23
  go_wp2_with fail
  refine HC.out.mono ?_
  rintro e w1 ⟨rfl, hb1⟩
  have hd1 : (code != 0) = true := by simp [hc0]
  have HB1 := Lib.hid hb1
  have z1 := hb1.size
  clear hb1
  go_wp2
  go_ret2
  exact ⟨rfl, HB1.out.trans (by first | exact Below.refl _ _ | (go_grown; done) | (go_grown; omega))⟩

set_option maxHeartbeats 1000000 in
theorem countA_i (st : Int) (A : Option Addr) (n c : Nat) (X : Nat → Int) (bs : Int) (w : World) (hn : n ≤ maxLen) (hr : Sl w A n 1 X) (hv : laidB st n X = true) (hb : inB bs 0 5 = true) :
    Calls Try.prog 23 #[.int .i64 st, .slice A n c, .int .i64 bs] w fun e w' => e = .returned (.tuple #[.int .i64 ((abv X st bs n).length : Nat), .int .i64 0]) ∧ Below w.heap.size w w' := by
  obtain ⟨s0, s1, R⟩ := laid_of hv
  have HR := Lib.hid hr
  have HC := Lib.hid (code_i st A n c X bs w hn hr hv hb)
  clear hr hv hb
  go_enter Try.func23, Try.ntmps23
  go_wp2_with fail
  refine HC.out.mono ?_
  rintro e w1 ⟨rfl, hb1⟩
  have HB1 := Lib.hid hb1
  have z1 := hb1.size
  clear hb1 HC
  go_wp2_with fail
  refine (count_i st bs A n c X _ s0 s1 R (Sl.below HR.out (K := w.heap.size) (Below.trans HB1.out (by go_grown)) (Nat.le_refl _))).mono ?_
  rintro e w2 ⟨rfl, hb2⟩
  have g2 : Below w.heap.size w w2 := HB1.out.trans (Below.trans (B := w.heap.size) (b := _) (by go_grown) (hb2.mono (by first | omega | (simp; omega))))
  clear hb2
  go_wp2
  go_ret2
  exact ⟨rfl, g2⟩

set_option maxHeartbeats 1000000 in
theorem first_s_no (st : Int) (A : Option Addr) (n c : Nat) (X : Nat → Int) (bs : Int) (w : World) (hn : n ≤ maxLen) (hr : Sl w A n 1 X) (code : Int) (hv : codeB st n X bs code) :
    Calls Try.prog 20 #[.int .i64 st, .slice A n c, .int .i64 bs] w fun e w' => e = .returned (.tuple #[.int .i64 0, .int .i64 code]) ∧ Below w.heap.size w w' := by
  have HR := Lib.hid hr
  have HC := Lib.hid (code_s_no st A n c X bs w hn hr code hv)
  have hc0 : code ≠ 0 := by rcases hv with ⟨_, rfl⟩ | ⟨_, _, rfl⟩ <;> decide
  clear hr hv
  go_enter Try.func20, Try.ntmps20
  go_wp2_with fail
  refine HC.out.mono ?_
  rintro e w1 ⟨rfl, hb1⟩
  have hd1 : (code != 0) = true := by simp [hc0]
  have HB1 := Lib.hid hb1
  have z1 := hb1.size
  clear hb1
  go_wp2
  go_ret2
  exact ⟨rfl, HB1.out.trans (by first | exact Below.refl _ _ | (go_grown; done) | (go_grown; omega))⟩

set_option maxHeartbeats 1000000 in
theorem first_s_none (st : Int) (A : Option Addr) (n c : Nat) (X : Nat → Int) (bs : Int) (w : World) (hn : n ≤ maxLen) (hr : Sl w A n 1 X) (hv : laidB st n X = true) (hb : inB bs 0 5 = true) (hz : (abv X st bs n).length = 0) :
    Calls Try.prog 20 #[.int .i64 st, .slice A n c, .int .i64 bs] w fun e w' => e = .returned (.tuple #[.int .i64 0, .int .i64 3]) ∧ Below w.heap.size w w' := by
  obtain ⟨s0, s1, R⟩ := laid_of hv
  have HR := Lib.hid hr
  have HC := Lib.hid (code_s st A n c X bs w hn hr hv hb)
  clear hr hv hb
  go_enter Try.func20, Try.ntmps20
  go_wp2_with fail
  refine HC.out.mono ?_
  rintro e w1 ⟨rfl, hb1⟩
  have HB1 := Lib.hid hb1
  have z1 := hb1.size
  clear hb1 HC
  go_wp2_with fail
  refine (above_s st bs A n c X _ s0 s1 R (Sl.below HR.out HB1.out (Nat.le_refl _))).mono ?_
  rintro e w2 ⟨A2, c2, rfl, k1, k2, hrow, hb2⟩
  have g2 : Below w.heap.size w w2 := HB1.out.trans (Below.trans (B := w.heap.size) (b := _) (by go_grown) (hb2.mono (by first | omega | (simp; omega))))
  clear hrow hb2
  rw [hz] at *
  go_wp2
  go_ret2
  exact ⟨rfl, g2⟩

set_option maxHeartbeats 1000000 in
theorem first_s (st : Int) (A : Option Addr) (n c : Nat) (X : Nat → Int) (bs : Int) (w : World) (hn : n ≤ maxLen) (hr : Sl w A n 1 X) (hv : laidB st n X = true) (hb : inB bs 0 5 = true) (hz : 0 < (abv X st bs n).length) :
    Calls Try.prog 20 #[.int .i64 st, .slice A n c, .int .i64 bs] w fun e w' => e = .returned (.tuple #[.int .i64 ((abv X st bs n).getD 0 0), .int .i64 0]) ∧ Below w.heap.size w w' := by
  obtain ⟨s0, s1, R⟩ := laid_of hv
  have HR := Lib.hid hr
  have HC := Lib.hid (code_s st A n c X bs w hn hr hv hb)
  clear hr hv hb
  go_enter Try.func20, Try.ntmps20
  go_wp2_with fail
  refine HC.out.mono ?_
  rintro e w1 ⟨rfl, hb1⟩
  have HB1 := Lib.hid hb1
  have z1 := hb1.size
  clear hb1 HC
  go_wp2_with fail
  refine (above_s st bs A n c X _ s0 s1 R (Sl.below HR.out HB1.out (Nat.le_refl _))).mono ?_
  rintro e w2 ⟨A2, c2, rfl, k1, k2, hrow, hb2⟩
  have g2 : Below w.heap.size w w2 := HB1.out.trans (Below.trans (B := w.heap.size) (b := _) (by go_grown) (hb2.mono (by first | omega | (simp; omega))))
  obtain ⟨g, rfl, _, _, ho⟩ := hrow hz
  have p0 := ho.cell (j := 0) (by omega)
  clear hrow hb2 ho
  generalize hL : (abv X st bs n).length = L at *
  have hz' : (0 : Int) < (L : Int) := by omega
  have hz2 : ((L : Int) == 0) = false := by simp; omega
  generalize hv0 : (abv X st bs n).getD 0 0 = v0 at *
  have HV0 := Lib.hid hv0
  clear hL hv0
  go_wp2
  go_ret2
  exact ⟨by rw [HV0.out]; rfl, g2⟩

set_option maxHeartbeats 1000000 in
theorem first_i_no (st : Int) (A : Option Addr) (n c : Nat) (X : Nat → Int) (bs : Int) (w : World) (hn : n ≤ maxLen) (hr : Sl w A n 1 X) (code : Int) (hv : codeB st n X bs code) :
    Calls Try.prog 21 #[.int .i64 st, .slice A n c, .int .i64 bs] w fun e w' => e = .returned (.tuple #[.int .i64 0, .int .i64 code]) ∧ Below w.heap.size w w' := by
  have HR := Lib.hid hr
  have HC := Lib.hid (code_i_no st A n c X bs w hn hr code hv)
  have hc0 : code ≠ 0 := by rcases hv with ⟨_, rfl⟩ | ⟨_, _, rfl⟩ <;> decide
  clear hr hv
  go_enter Try.func21, Try.ntmps21
  go_wp2_with fail
  refine HC.out.mono ?_
  rintro e w1 ⟨rfl, hb1⟩
  have hd1 : (code != 0) = true := by simp [hc0]
  have HB1 := Lib.hid hb1
  have z1 := hb1.size
  clear hb1
  go_wp2
  go_ret2
  exact ⟨rfl, HB1.out.trans (by first | exact Below.refl _ _ | (go_grown; done) | (go_grown; omega))⟩

set_option maxHeartbeats 1000000 in
theorem first_i_none (st : Int) (A : Option Addr) (n c : Nat) (X : Nat → Int) (bs : Int) (w : World) (hn : n ≤ maxLen) (hr : Sl w A n 1 X) (hv : laidB st n X = true) (hb : inB bs 0 5 = true) (hz : (abv X st bs n).length = 0) :
    Calls Try.prog 21 #[.int .i64 st, .slice A n c, .int .i64 bs] w fun e w' => e = .returned (.tuple #[.int .i64 0, .int .i64 3]) ∧ Below w.heap.size w w' := by
  obtain ⟨s0, s1, R⟩ := laid_of hv
  have HR := Lib.hid hr
  have HC := Lib.hid (code_i st A n c X bs w hn hr hv hb)
  clear hr hv hb
  go_enter Try.func21, Try.ntmps21
  go_wp2_with fail
  refine HC.out.mono ?_
  rintro e w1 ⟨rfl, hb1⟩
  have HB1 := Lib.hid hb1
  have z1 := hb1.size
  clear hb1 HC
  go_wp2_with fail
  refine (above_i st bs A n c X _ s0 s1 R (Sl.below HR.out (K := w.heap.size) (Below.trans HB1.out (by go_grown)) (Nat.le_refl _))).mono ?_
  rintro e w2 ⟨A2, c2, rfl, k1, k2, hrow, hb2⟩
  have g2 : Below w.heap.size w w2 := HB1.out.trans (Below.trans (B := w.heap.size) (b := _) (by go_grown) (hb2.mono (by first | omega | (simp; omega))))
  clear hrow hb2
  rw [hz] at *
  go_wp2
  go_ret2
  exact ⟨rfl, g2⟩

set_option maxHeartbeats 1000000 in
theorem first_i (st : Int) (A : Option Addr) (n c : Nat) (X : Nat → Int) (bs : Int) (w : World) (hn : n ≤ maxLen) (hr : Sl w A n 1 X) (hv : laidB st n X = true) (hb : inB bs 0 5 = true) (hz : 0 < (abv X st bs n).length) :
    Calls Try.prog 21 #[.int .i64 st, .slice A n c, .int .i64 bs] w fun e w' => e = .returned (.tuple #[.int .i64 ((abv X st bs n).getD 0 0), .int .i64 0]) ∧ Below w.heap.size w w' := by
  obtain ⟨s0, s1, R⟩ := laid_of hv
  have HR := Lib.hid hr
  have HC := Lib.hid (code_i st A n c X bs w hn hr hv hb)
  clear hr hv hb
  go_enter Try.func21, Try.ntmps21
  go_wp2_with fail
  refine HC.out.mono ?_
  rintro e w1 ⟨rfl, hb1⟩
  have HB1 := Lib.hid hb1
  have z1 := hb1.size
  clear hb1 HC
  go_wp2_with fail
  refine (above_i st bs A n c X _ s0 s1 R (Sl.below HR.out (K := w.heap.size) (Below.trans HB1.out (by go_grown)) (Nat.le_refl _))).mono ?_
  rintro e w2 ⟨A2, c2, rfl, k1, k2, hrow, hb2⟩
  have g2 : Below w.heap.size w w2 := HB1.out.trans (Below.trans (B := w.heap.size) (b := _) (by go_grown) (hb2.mono (by first | omega | (simp; omega))))
  obtain ⟨g, rfl, _, _, ho⟩ := hrow hz
  have p0 := ho.cell (j := 0) (by omega)
  clear hrow hb2 ho
  generalize hL : (abv X st bs n).length = L at *
  have hz' : (0 : Int) < (L : Int) := by omega
  have hz2 : ((L : Int) == 0) = false := by simp; omega
  generalize hv0 : (abv X st bs n).getD 0 0 = v0 at *
  have HV0 := Lib.hid hv0
  clear hL hv0
  go_wp2
  go_ret2
  exact ⟨by rw [HV0.out]; rfl, g2⟩

end Go.Proofs.Ytjemhkjfahoelaa.jns
