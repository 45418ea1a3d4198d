/-
  Twills in memory: the law's own words on them: size, copy, equality, marks. No condition of a statement lies here.
-/
import Derived.Test.YtakcgeafcecimaaDoorQa
import Derived.Test.YtakcgeafcecimaaDoorIn
import Derived.Test.YtakcgeafcecimaaDoorNums
namespace Go.Proofs.YtakcgeafcecimaaDoor.twl
open Go.ChangeShapes Go.WideShapes Go.ChangeAt Go.RowKit Go.Proofs.YtakcgeafcecimaaDoor.mem Go.Proofs.YtakcgeafcecimaaDoor.rod Go.Proofs.YtakcgeafcecimaaDoor.nums
set_option linter.unusedVariables false

set_option maxHeartbeats 1000000 in
theorem szNums_c (A : Option Addr) (m c : Nat) (left : Int) (w : World) (hm : m ≤ left) (hl : left ≤ 1048576) :
    Calls Tryd.prog 26 #[.slice A m c, .int .i64 left] w fun e w' => e = .returned (.int .i64 (left - m)) ∧ w = w' := by
  have h : ¬ (left - (m : Int)) < 0 := by omega
  go_enter Tryd.func26, Tryd.ntmps26
  go_wp2
  go_ret
  exact ⟨rfl, rfl⟩
set_option maxHeartbeats 1000000 in
theorem szNums_big (A : Option Addr) (m c : Nat) (left : Int) (w : World) (hn : left < m) (h0 : 0 ≤ left) (hl : left ≤ 1048576) (hm : m ≤ maxLen) :
    Calls Tryd.prog 26 #[.slice A m c, .int .i64 left] w fun e w' => e = .returned (.int .i64 (-1)) ∧ w = w' := by
  unfold maxLen at hm
  have h : (left - (m : Int)) < 0 := by omega
  go_enter Tryd.func26, Tryd.ntmps26
  go_wp2
  go_ret
  exact ⟨rfl, rfl⟩
set_option maxHeartbeats 1000000 in
theorem szTwill_c (A : Option Addr) (m c : Nat) (a left : Int) (w : World) (hm : m ≤ left) (hl : left ≤ 1048576) :
    Calls Tryd.prog 10 #[.agg #[.slice A m c, .int .i64 a], .int .i64 left] w fun e w' => e = .returned (.int .i64 (left - m)) ∧ Below w.heap.size w w' := by
  have h : ¬ (left - (m : Int)) < 0 := by omega
  go_enter Tryd.func10, Tryd.ntmps10
  go_wp2_with (go_at_call 26; refine (szNums_c A m c left _ hm hl).mono ?_; rintro e w' ⟨rfl, rfl⟩)
  go_ret
  exact ⟨rfl, by go_grown⟩
set_option maxHeartbeats 1000000 in
theorem szTwill_big (A : Option Addr) (m c : Nat) (a left : Int) (w : World) (hn : left < m) (h0 : 0 ≤ left) (hl : left ≤ 1048576) (hm : m ≤ maxLen) :
    Calls Tryd.prog 10 #[.agg #[.slice A m c, .int .i64 a], .int .i64 left] w fun e w' => e = .returned (.int .i64 (-1)) ∧ Below w.heap.size w w' := by
  go_enter Tryd.func10, Tryd.ntmps10
  go_wp2_with (go_at_call 26; refine (szNums_big A m c left _ hn h0 hl hm).mono ?_; rintro e w' ⟨rfl, rfl⟩)
  go_ret
  exact ⟨rfl, by go_grown⟩

/-- the answer is a new bed with memory of its own -/
def NewTwill (w : World) (m : Nat) (Y : Nat → Int) (a : Int) (e : Ending) (w' : World) : Prop :=
  ∃ A c, e = .returned (.agg #[.slice A m c, .int .i64 a]) ∧ m ≤ c ∧ c ≤ maxLen ∧ Row w' w.heap.size w'.heap.size A m 1 2 Y ∧ Below w.heap.size w w'

set_option maxHeartbeats 1000000 in
theorem toTwill_c (A : Option Addr) (m c : Nat) (Y : Nat → Int) (a : Int) (w : World) (hm : m ≤ 1048576) (h : Sl w A m 1 Y) :
    Calls Tryd.prog 12 #[.agg #[.slice A m c, .int .i64 a]] w (NewTwill w m Y a) := by
  go_enter Tryd.func12, Tryd.ntmps12
  go_wp2_with fail
  refine (toInts_c A m c Y _ hm (Sl.below h (K := w.heap.size) (by go_grown) (Nat.le_refl _))).mono ?_
  rintro e w1 ⟨A1, c1, rfl, k1, k2, hr, hb1⟩
  have z1 := hb1.size
  simp at z1
  have g1 : Below w.heap.size w w1 := Below.trans (by go_grown) (hb1.mono (by simp <;> omega))
  have p0 : w1.cell? ⟨w.heap.size, 0, none⟩ = some (.slice A m c) := by rw [(bcell hb1).1 _ _ (by simp <;> omega)]; go_simp
  have p1 : w1.cell? ⟨w.heap.size, 1, none⟩ = some (.int .i64 a) := by rw [(bcell hb1).1 _ _ (by simp <;> omega)]; go_simp
  have q0 : w1.cell? ⟨w.heap.size + 1, 0, none⟩ = some (.slice none 0 0) := by rw [(bcell hb1).1 _ _ (by simp <;> omega)]; go_simp
  have qf0 : w1.frozen? ⟨w.heap.size + 1, 0, none⟩ = false := by rw [(bcell hb1).2 _ _ (by simp <;> omega)]; go_simp
  have q1 : w1.cell? ⟨w.heap.size + 1, 1, none⟩ = some (.int .i64 0) := by rw [(bcell hb1).1 _ _ (by simp <;> omega)]; go_simp
  have qf1 : w1.frozen? ⟨w.heap.size + 1, 1, none⟩ = false := by rw [(bcell hb1).2 _ _ (by simp <;> omega)]; go_simp
  have r0 : w1.cell? ⟨w.heap.size + 1 + 1, 0, none⟩ = some (.slice none 0 0) := by rw [(bcell hb1).1 _ _ (by simp <;> omega)]; go_simp
  have rf0 : w1.frozen? ⟨w.heap.size + 1 + 1, 0, none⟩ = false := by rw [(bcell hb1).2 _ _ (by simp <;> omega)]; go_simp
  have r1 : w1.cell? ⟨w.heap.size + 1 + 1, 1, none⟩ = some (.int .i64 0) := by rw [(bcell hb1).1 _ _ (by simp <;> omega)]; go_simp
  have rf1 : w1.frozen? ⟨w.heap.size + 1 + 1, 1, none⟩ = false := by rw [(bcell hb1).2 _ _ (by simp <;> omega)]; go_simp
  have HR := Lib.hid hr
  clear hb1 hr
  go_wp2
  refine bodyPost_ret (v := .agg #[.slice A1 m c1, .int .i64 a]) (by simp [results, Tryd.results12, go_sem, q0, q1]) rfl ⟨A1, c1, rfl, k1, k2, ?_, ?_⟩
  · intro hn
    obtain ⟨g, e, a1, a2, ho⟩ := HR.out hn
    simp at a1
    exact ⟨g, e, by omega, by simpa using a2, (((ho.setOther (by simp; omega) _).setOther (by simp; omega) _).setOther (by simp; omega) _).setOther (by simp; omega) _⟩
  · exact Below.trans g1 (Below.setCell (Below.setCell (Below.setCell (Below.setCell (Below.refl _ _) (by simp; omega) _) (by simp; omega) _) (by simp) _) (by simp) _)

set_option maxHeartbeats 1000000 in
theorem eqTwill_same (A1 A2 : Option Addr) (m c1 c2 : Nat) (Y : Nat → Int) (a : Int) (w : World) (hm : m ≤ maxLen) (h1 : Sl w A1 m 1 Y) (h2 : Sl w A2 m 1 Y) :
    Calls Tryd.prog 7 #[.agg #[.slice A1 m c1, .int .i64 a], .agg #[.slice A2 m c2, .int .i64 a]] w fun e w' => e = .returned (.bool true) ∧ Below w.heap.size w w' := by
  go_enter Tryd.func7, Tryd.ntmps7
  go_wp2_with fail
  refine (eqInts_b A1 A2 m c1 c2 Y _ hm (Sl.below h1 (K := w.heap.size) (by go_grown) (Nat.le_refl _)) (Sl.below h2 (K := w.heap.size) (by go_grown) (Nat.le_refl _))).mono ?_
  rintro e w1 ⟨rfl, hb1⟩
  have z1 := hb1.size
  simp at z1
  have g1 : Below w.heap.size w w1 := Below.trans (by go_grown) (hb1.mono (by simp <;> omega))
  have p1 : w1.cell? ⟨w.heap.size, 1, none⟩ = some (.int .i64 a) := by rw [(bcell hb1).1 _ _ (by simp <;> omega)]; go_simp
  have q1 : w1.cell? ⟨w.heap.size + 1, 1, none⟩ = some (.int .i64 a) := by rw [(bcell hb1).1 _ _ (by simp <;> omega)]; go_simp
  clear hb1
  go_wp2
  go_ret
  exact ⟨rfl, g1⟩

theorem wrote_then {w w1 w2 : World} {lo hi lo' hi' : Nat} (h : WroteIn w w1 lo hi) (h2 : WroteIn w1 w2 lo' hi') (hl : lo ≤ lo' ∧ hi' ≤ hi ∨ hi' ≤ lo') : WroteIn w w2 lo hi :=
  ⟨h2.os.trans h.os, h2.tape.trans h.tape, h2.output.trans h.output, Nat.le_trans h.size h2.size, fun k hk hd => (h2.block k (Nat.lt_of_lt_of_le hk h.size) (by omega)).trans (h.block k hk hd)⟩
theorem wroteIn_same {w w' : World} {lo hi : Nat} (h : Below w.heap.size w w') : WroteIn w w' lo hi := ⟨h.os, h.tape, h.output, h.size, fun k hk _ => h.block k hk⟩
set_option maxHeartbeats 1000000 in
theorem markTwill_c (A : Option Addr) (m c lo hi : Nat) (q : Int) (X : Nat → Int) (a : Int) (w : World) (hm : m ≤ 1048576) (q0 : 0 ≤ q) (q1 : q ≤ 1000000000) (hr : Row w lo hi A m 1 2 X) :
    Calls Tryd.prog 8 #[.agg #[.slice A m c, .int .i64 a], .int .i64 q] w (Marked w lo hi A m 1 2 (q + m) (fun j => q + j)) := by
  have HR := Lib.hid hr
  clear hr
  go_enter Tryd.func8, Tryd.ntmps8
  go_wp2_with fail
  refine (markInts_c A m c lo hi q X _ hm q0 q1 (HR.out.wrote (lo' := hi) (hi' := hi) (wroteIn_same (by go_grown)) (.inl (Nat.le_refl _)))).mono ?_
  rintro e w2 ⟨rfl, hr2, hw2⟩
  have HR2 := Lib.hid hr2
  have g2 : WroteIn w w2 lo hi := wrote_then (wroteIn_same (by go_grown)) hw2 (.inl ⟨Nat.le_refl _, Nat.le_refl _⟩)
  have HG2 := Lib.hid g2
  clear hr2 hw2 g2
  go_wp2
  go_ret
  exact ⟨rfl, HR2.out, HG2.out⟩


set_option maxHeartbeats 1000000 in
theorem heldTwill_c (A : Option Addr) (m c : Nat) (q a : Int) (w : World) (hm : m ≤ 1048576) (q0 : 0 ≤ q) (q1 : q ≤ 1000000000) (hs : Sl w A m 1 (fun j => q + j)) :
    Calls Tryd.prog 9 #[.agg #[.slice A m c, .int .i64 a], .int .i64 q] w fun e w' => e = .returned (.int .i64 (q + m)) ∧ Below w.heap.size w w' := by
  have HS := Lib.hid hs
  have hlt : ¬ (q + (m : Int)) < 0 := by omega
  clear hs
  go_enter Tryd.func9, Tryd.ntmps9
  go_wp2_with fail
  refine (heldInts_b A m c q _ hm q0 q1 (HS.out.below (K := w.heap.size) (by go_grown) (Nat.le_refl _))).mono ?_
  rintro e w1 ⟨rfl, hb1⟩
  have g1 : Below w.heap.size w w1 := Below.trans (by go_grown) (hb1.mono (by simp))
  clear hb1
  go_wp2
  go_ret
  exact ⟨rfl, g1⟩

end Go.Proofs.YtakcgeafcecimaaDoor.twl
