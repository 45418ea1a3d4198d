/-
  Contracts of YieldNow, of the model's and of the program's, and of the laws' helpers on one bed.
-/
import Derived.Test.YtobohjfenjeckabBedY
namespace Go.Proofs.Ytobohjfenjeckab.rod
open Go.ChangeShapes Go.WideShapes Go.ChangeAt Go.RowKit Go.Proofs.Ytobohjfenjeckab.mem Go.Proofs.Ytobohjfenjeckab.nums
set_option linter.unusedVariables false

theorem bedAt_new {w : World} {A : Option Addr} {m c : Nat} {Y : Nat → Int} {a : Int} (T : TypeId) (h : Sl w A m 1 Y) : BedAt (w.alloc (Obj.cells #[.slice A m c, .int .i64 a] T)) w.heap.size 0 m Y a :=
  ⟨⟨A, c, by go_simp, h.below (K := w.heap.size) (by go_grown) (Nat.le_refl _)⟩, by go_simp⟩

set_option maxHeartbeats 2000000 in
theorem yieldNow_s (A : Option Addr) (m c : Nat) (Y : Nat → Int) (a : Int) (w : World) (hm : m ≤ maxLen) (h : Sl w A m 1 Y) :
    Calls Try.prog 17 #[.agg #[.slice A m c, .int .i64 a]] w fun e w' => e = .returned (.tuple #[.int .i64 (if bedB m Y a then yl m Y a else 0), .int .i64 (if bedB m Y a then 0 else 1)]) ∧ Below w.heap.size w w' := by
  have hN := bedAt_new (c := c) (a := a) 26 h
  have HN := Lib.hid hN
  clear hN h
  cases hb : bedB m Y a
  · go_enter Try.func17, Try.ntmps17
    go_wp2_with (go_at_call 41; refine (bedOne_s _ _ m Y a _ hm HN.out).mono ?_; rintro e w' ⟨rfl, n, rfl⟩)
    go_ret2
    exact ⟨rfl, drewN_below (by go_grown) _⟩
  · obtain ⟨m1, m2, -⟩ := bedB_of hb
    go_enter Try.func17, Try.ntmps17
    go_wp2_with (first
      | (go_at_call 41; refine (bedOne_s _ _ m Y a _ hm HN.out).mono ?_; rintro e w' ⟨rfl, n, rfl⟩)
      | (go_at_call 60; refine (yield_s _ _ m Y a a _ m1.1 m1.2 m2.1 (HN.out.drew ⟨_, rfl⟩)).mono ?_; rintro e w' ⟨rfl, n2, rfl⟩))
    go_ret2
    exact ⟨rfl, drewN_below (by go_grown) _⟩

set_option maxHeartbeats 2000000 in
theorem yieldNow_i (A : Option Addr) (m c : Nat) (Y : Nat → Int) (a : Int) (w : World) (hm : m ≤ maxLen) (h : Sl w A m 1 Y) :
    Calls Try.prog 16 #[.agg #[.slice A m c, .int .i64 a]] w fun e w' => e = .returned (.tuple #[.int .i64 (if bedB m Y a then yl m Y a else 0), .int .i64 (if bedB m Y a then 0 else 1)]) ∧ Below w.heap.size w w' := by
  cases hb : bedB m Y a
  · go_enter Try.func16, Try.ntmps16
    go_wp2_with fail
    refine (bedOne_i A m c Y a _ hm (Sl.below h (K := w.heap.size) (by go_grown) (Nat.le_refl _))).mono ?_
    rintro e w1 ⟨rfl, hb1⟩
    rw [hb]
    have g1 : Below w.heap.size w w1 := Below.trans (by go_grown) (hb1.mono (by simp))
    clear hb1
    go_wp2
    go_ret2
    exact ⟨rfl, g1⟩
  · obtain ⟨m1, m2, -⟩ := bedB_of hb
    go_enter Try.func16, Try.ntmps16
    go_wp2_with fail
    refine (bedOne_i A m c Y a _ hm (Sl.below h (K := w.heap.size) (by go_grown) (Nat.le_refl _))).mono ?_
    rintro e w1 ⟨rfl, hb1⟩
    rw [hb]
    have z1 := hb1.size
    simp at z1
    have g1 : Below w.heap.size w w1 := Below.trans (by go_grown) (hb1.mono (by simp))
    have c0 : w1.cell? ⟨w.heap.size, 0, none⟩ = some (.slice A m c) := by rw [(bcell hb1).1 _ _ (by simp)]; go_simp
    have c1 : w1.cell? ⟨w.heap.size, 1, none⟩ = some (.int .i64 a) := by rw [(bcell hb1).1 _ _ (by simp)]; go_simp
    have HS := Lib.hid (Sl.below h g1 (Nat.le_refl _))
    clear hb1
    go_wp2_with fail
    refine (yield_i A m c Y a a _ m1.1 m1.2 m2.1 HS.out).mono ?_
    rintro e w2 ⟨rfl, hb2⟩
    have g2 : Below w.heap.size w w2 := g1.trans (hb2.mono (by omega))
    clear hb2
    go_wp2
    go_ret2
    exact ⟨rfl, g2⟩
/-- the answer is a new bed with memory of its own -/
def NewBed (w : World) (m : Nat) (Y : Nat → Int) (a : Int) (e : Ending) (w' : World) : Prop :=
  ∃ A c, e = .returned (.agg #[.slice A m c, .int .i64 a]) ∧ m ≤ c ∧ c ≤ maxLen ∧ Row w' w.heap.size w'.heap.size A m 1 2 Y ∧ Below w.heap.size w w'

end Go.Proofs.Ytobohjfenjeckab.rod
