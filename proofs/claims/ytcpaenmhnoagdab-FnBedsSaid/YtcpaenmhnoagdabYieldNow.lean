/-
  Contracts of YieldNow, of the model's and of the program's, and of the laws' helpers on one bed.
-/
import Derived.Test.YtcpaenmhnoagdabBedY
namespace Go.Proofs.Ytcpaenmhnoagdab.rod
open Go.ChangeShapes Go.WideShapes Go.ChangeAt Go.RowKit Go.Proofs.Ytcpaenmhnoagdab.mem Go.Proofs.Ytcpaenmhnoagdab.nums
set_option linter.unusedVariables false

theorem bedAt_new {w : World} {A : Option Addr} {m c : Nat} {Y : Nat → Int} {a : Int} (T : TypeId) (h : Sl w A m 1 Y) : BedAt (w.alloc (Obj.cells #[.slice A m c, .int .i64 a] T)) w.heap.size 0 m Y a :=
  ⟨⟨A, c, by go_simp, h.below (K := w.heap.size) (by go_grown) (Nat.le_refl _)⟩, by go_simp⟩

set_option maxHeartbeats 2000000 in
theorem yieldNow_s (A : Option Addr) (m c : Nat) (Y : Nat → Int) (a : Int) (w : World) (hm : m ≤ maxLen) (h : Sl w A m 1 Y) :
    Calls Try.prog 69 #[.agg #[.slice A m c, .int .i64 a]] w fun e w' => e = .returned (.tuple #[.int .i64 (if bedB m Y a then yl m Y a else 0), .int .i64 (if bedB m Y a then 0 else 1)]) ∧ Below w.heap.size w w' := by
  have hN := bedAt_new (c := c) (a := a) 65 h
  have HN := Lib.hid hN
  clear hN h
  cases hb : bedB m Y a
  · go_enter Try.func69, Try.ntmps69
    go_wp2_with (go_at_call 95; refine (bedOne_s _ _ m Y a _ hm HN.out).mono ?_; rintro e w' ⟨rfl, n, rfl⟩)
    go_ret2
    exact ⟨rfl, drewN_below (by go_grown) _⟩
  · obtain ⟨m1, m2, -⟩ := bedB_of hb
    go_enter Try.func69, Try.ntmps69
    go_wp2_with (first
      | (go_at_call 95; refine (bedOne_s _ _ m Y a _ hm HN.out).mono ?_; rintro e w' ⟨rfl, n, rfl⟩)
      | (go_at_call 122; refine (yield_s _ _ m Y a a _ m1.1 m1.2 m2.1 (HN.out.drew ⟨_, rfl⟩)).mono ?_; rintro e w' ⟨rfl, n2, rfl⟩))
    go_ret2
    exact ⟨rfl, drewN_below (by go_grown) _⟩

set_option maxHeartbeats 2000000 in
theorem yieldNow_i (A : Option Addr) (m c : Nat) (Y : Nat → Int) (a : Int) (w : World) (hm : m ≤ maxLen) (h : Sl w A m 1 Y) :
    Calls Try.prog 68 #[.agg #[.slice A m c, .int .i64 a]] w fun e w' => e = .returned (.tuple #[.int .i64 (if bedB m Y a then yl m Y a else 0), .int .i64 (if bedB m Y a then 0 else 1)]) ∧ Below w.heap.size w w' := by
  cases hb : bedB m Y a
  · go_enter Try.func68, Try.ntmps68
    go_wp2_with fail
    refine (bedOne_i A m c Y a _ hm (Sl.below h (K := w.heap.size) (by go_grown) (Nat.le_refl _))).mono ?_
    rintro e w1 ⟨rfl, hb1⟩
    rw [hb]
    have g1 : Below w.heap.size w w1 := Below.trans (by go_grown) (hb1.mono (by simp))
    clear hb1
    go_wp2
    go_ret2
    exact ⟨rfl, g1⟩
  · obtain ⟨m1, m2, -⟩ := bedB_of hb
    go_enter Try.func68, Try.ntmps68
    go_wp2_with fail
    refine (bedOne_i A m c Y a _ hm (Sl.below h (K := w.heap.size) (by go_grown) (Nat.le_refl _))).mono ?_
    rintro e w1 ⟨rfl, hb1⟩
    rw [hb]
    have z1 := hb1.size
    simp at z1
    have g1 : Below w.heap.size w w1 := Below.trans (by go_grown) (hb1.mono (by simp))
    have c0 : w1.cell? ⟨w.heap.size, 0, none⟩ = some (.slice A m c) := by rw [(bcell hb1).1 _ _ (by simp)]; go_simp
    have c1 : w1.cell? ⟨w.heap.size, 1, none⟩ = some (.int .i64 a) := by rw [(bcell hb1).1 _ _ (by simp)]; go_simp
    have HS := Lib.hid (Sl.below h g1 (Nat.le_refl _))
    clear hb1
    go_wp2_with fail
    refine (yield_i A m c Y a a _ m1.1 m1.2 m2.1 HS.out).mono ?_
    rintro e w2 ⟨rfl, hb2⟩
    have g2 : Below w.heap.size w w2 := g1.trans (hb2.mono (by omega))
    clear hb2
    go_wp2
    go_ret2
    exact ⟨rfl, g2⟩
set_option maxHeartbeats 1000000 in
theorem szInts_c (A : Option Addr) (m c : Nat) (left : Int) (w : World) (hm : m ≤ left) (hl : left ≤ 1048576) :
    Calls Try.prog 94 #[.slice A m c, .int .i64 left] w fun e w' => e = .returned (.int .i64 (left - m)) ∧ w = w' := by
  have h : ¬ (left - (m : Int)) < 0 := by omega
  go_enter Try.func94, Try.ntmps94
  go_wp2
  go_ret
  exact ⟨rfl, rfl⟩
set_option maxHeartbeats 1000000 in
theorem szInts_big (A : Option Addr) (m c : Nat) (left : Int) (w : World) (hn : left < m) (h0 : 0 ≤ left) (hl : left ≤ 1048576) (hm : m ≤ maxLen) :
    Calls Try.prog 94 #[.slice A m c, .int .i64 left] w fun e w' => e = .returned (.int .i64 (-1)) ∧ w = w' := by
  unfold maxLen at hm
  have h : (left - (m : Int)) < 0 := by omega
  go_enter Try.func94, Try.ntmps94
  go_wp2
  go_ret
  exact ⟨rfl, rfl⟩
set_option maxHeartbeats 1000000 in
theorem szBed_c (A : Option Addr) (m c : Nat) (a left : Int) (w : World) (hm : m ≤ left) (hl : left ≤ 1048576) :
    Calls Try.prog 47 #[.agg #[.slice A m c, .int .i64 a], .int .i64 left] w fun e w' => e = .returned (.int .i64 (left - m)) ∧ Below w.heap.size w w' := by
  have h : ¬ (left - (m : Int)) < 0 := by omega
  go_enter Try.func47, Try.ntmps47
  go_wp2_with (go_at_call 94; refine (szInts_c A m c left _ hm hl).mono ?_; rintro e w' ⟨rfl, rfl⟩)
  go_ret
  exact ⟨rfl, by go_grown⟩
set_option maxHeartbeats 1000000 in
theorem szBed_big (A : Option Addr) (m c : Nat) (a left : Int) (w : World) (hn : left < m) (h0 : 0 ≤ left) (hl : left ≤ 1048576) (hm : m ≤ maxLen) :
    Calls Try.prog 47 #[.agg #[.slice A m c, .int .i64 a], .int .i64 left] w fun e w' => e = .returned (.int .i64 (-1)) ∧ Below w.heap.size w w' := by
  go_enter Try.func47, Try.ntmps47
  go_wp2_with (go_at_call 94; refine (szInts_big A m c left _ hn h0 hl hm).mono ?_; rintro e w' ⟨rfl, rfl⟩)
  go_ret
  exact ⟨rfl, by go_grown⟩

/-- the answer is a new bed with memory of its own -/
def NewBed (w : World) (m : Nat) (Y : Nat → Int) (a : Int) (e : Ending) (w' : World) : Prop :=
  ∃ A c, e = .returned (.agg #[.slice A m c, .int .i64 a]) ∧ m ≤ c ∧ c ≤ maxLen ∧ Row w' w.heap.size w'.heap.size A m 1 2 Y ∧ Below w.heap.size w w'

set_option maxHeartbeats 1000000 in
theorem toBed_c (A : Option Addr) (m c : Nat) (Y : Nat → Int) (a : Int) (w : World) (hm : m ≤ 1048576) (h : Sl w A m 1 Y) :
    Calls Try.prog 49 #[.agg #[.slice A m c, .int .i64 a]] w (NewBed w m Y a) := by
  go_enter Try.func49, Try.ntmps49
  go_wp2_with fail
  refine (toInts_c A m c Y _ hm (Sl.below h (K := w.heap.size) (by go_grown) (Nat.le_refl _))).mono ?_
  rintro e w1 ⟨A1, c1, rfl, k1, k2, hr, hb1⟩
  have z1 := hb1.size
  simp at z1
  have g1 : Below w.heap.size w w1 := Below.trans (by go_grown) (hb1.mono (by simp <;> omega))
  have p0 : w1.cell? ⟨w.heap.size, 0, none⟩ = some (.slice A m c) := by rw [(bcell hb1).1 _ _ (by simp <;> omega)]; go_simp
  have p1 : w1.cell? ⟨w.heap.size, 1, none⟩ = some (.int .i64 a) := by rw [(bcell hb1).1 _ _ (by simp <;> omega)]; go_simp
  have q0 : w1.cell? ⟨w.heap.size + 1, 0, none⟩ = some (.slice none 0 0) := by rw [(bcell hb1).1 _ _ (by simp <;> omega)]; go_simp
  have qf0 : w1.frozen? ⟨w.heap.size + 1, 0, none⟩ = false := by rw [(bcell hb1).2 _ _ (by simp <;> omega)]; go_simp
  have q1 : w1.cell? ⟨w.heap.size + 1, 1, none⟩ = some (.int .i64 0) := by rw [(bcell hb1).1 _ _ (by simp <;> omega)]; go_simp
  have qf1 : w1.frozen? ⟨w.heap.size + 1, 1, none⟩ = false := by rw [(bcell hb1).2 _ _ (by simp <;> omega)]; go_simp
  have r0 : w1.cell? ⟨w.heap.size + 1 + 1, 0, none⟩ = some (.slice none 0 0) := by rw [(bcell hb1).1 _ _ (by simp <;> omega)]; go_simp
  have rf0 : w1.frozen? ⟨w.heap.size + 1 + 1, 0, none⟩ = false := by rw [(bcell hb1).2 _ _ (by simp <;> omega)]; go_simp
  have r1 : w1.cell? ⟨w.heap.size + 1 + 1, 1, none⟩ = some (.int .i64 0) := by rw [(bcell hb1).1 _ _ (by simp <;> omega)]; go_simp
  have rf1 : w1.frozen? ⟨w.heap.size + 1 + 1, 1, none⟩ = false := by rw [(bcell hb1).2 _ _ (by simp <;> omega)]; go_simp
  have HR := Lib.hid hr
  clear hb1 hr
  go_wp2
  refine bodyPost_ret (v := .agg #[.slice A1 m c1, .int .i64 a]) (by simp [results, Try.results49, go_sem, q0, q1]) rfl ⟨A1, c1, rfl, k1, k2, ?_, ?_⟩
  · intro hn
    obtain ⟨g, e, a1, a2, ho⟩ := HR.out hn
    simp at a1
    exact ⟨g, e, by omega, by simpa using a2, (((ho.setOther (by simp; omega) _).setOther (by simp; omega) _).setOther (by simp; omega) _).setOther (by simp; omega) _⟩
  · exact Below.trans g1 (Below.setCell (Below.setCell (Below.setCell (Below.setCell (Below.refl _ _) (by simp; omega) _) (by simp; omega) _) (by simp) _) (by simp) _)

set_option maxHeartbeats 1000000 in
theorem eqBed_same (A1 A2 : Option Addr) (m c1 c2 : Nat) (Y : Nat → Int) (a : Int) (w : World) (hm : m ≤ maxLen) (h1 : Sl w A1 m 1 Y) (h2 : Sl w A2 m 1 Y) :
    Calls Try.prog 51 #[.agg #[.slice A1 m c1, .int .i64 a], .agg #[.slice A2 m c2, .int .i64 a]] w fun e w' => e = .returned (.bool true) ∧ Below w.heap.size w w' := by
  go_enter Try.func51, Try.ntmps51
  go_wp2_with fail
  refine (eqInts_b A1 A2 m c1 c2 Y _ hm (Sl.below h1 (K := w.heap.size) (by go_grown) (Nat.le_refl _)) (Sl.below h2 (K := w.heap.size) (by go_grown) (Nat.le_refl _))).mono ?_
  rintro e w1 ⟨rfl, hb1⟩
  have z1 := hb1.size
  simp at z1
  have g1 : Below w.heap.size w w1 := Below.trans (by go_grown) (hb1.mono (by simp <;> omega))
  have p1 : w1.cell? ⟨w.heap.size, 1, none⟩ = some (.int .i64 a) := by rw [(bcell hb1).1 _ _ (by simp <;> omega)]; go_simp
  have q1 : w1.cell? ⟨w.heap.size + 1, 1, none⟩ = some (.int .i64 a) := by rw [(bcell hb1).1 _ _ (by simp <;> omega)]; go_simp
  clear hb1
  go_wp2
  go_ret
  exact ⟨rfl, g1⟩

end Go.Proofs.Ytcpaenmhnoagdab.rod
