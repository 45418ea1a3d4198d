/-
  Contracts of the laws' helpers on structs of 3 whole numbers and lists of them.
-/
import Derived.Test.YtcpaenmhnoagdaaIn
namespace Go.Proofs.Ytcpaenmhnoagdaa.rod
open Go.ChangeShapes Go.WideShapes Go.ChangeAt Go.RowKit
open Go.Proofs.Ytcpaenmhnoagdaa.mem
set_option linter.unusedVariables false

theorem toBunch_c (x0 x1 x2 : Int) (w : World) :
    Calls Try.prog 45 #[.agg #[.int .i64 x0, .int .i64 x1, .int .i64 x2]] w fun e w' => e = .returned (.agg #[.int .i64 x0, .int .i64 x1, .int .i64 x2]) ∧ Below w.heap.size w w' := by
  go_enter Try.func45, Try.ntmps45
  go_wp2
  go_returns
  exact ⟨rfl, by go_grown⟩

set_option maxHeartbeats 1000000 in
theorem eqBunch_same (x0 x1 x2 : Int) (w : World) :
    Calls Try.prog 48 #[.agg #[.int .i64 x0, .int .i64 x1, .int .i64 x2], .agg #[.int .i64 x0, .int .i64 x1, .int .i64 x2]] w fun e w' => e = .returned (.bool true) ∧ Below w.heap.size w w' := by
  go_enter Try.func48, Try.ntmps48
  go_wp2
  go_returns
  exact ⟨rfl, by go_grown⟩

theorem info_bunch : (Try.prog.info? 57).map (fun i => (i.zero, i.size, i.bytes)) = some (some (.agg #[.int .i64 0, .int .i64 0, .int .i64 0]), 3, 24) := by kernel_rfl

set_option maxHeartbeats 1000000 in
theorem toBunchS_c (A : Option Addr) (n c : Nat) (X : Nat → Int) (w : World) (hn : n ≤ 1048576) (hs : Sl w A n 3 X) :
    Calls Try.prog 15 #[.slice A n c] w (NewRow w n 3 57 X) := by
  have hmk := run_make_rows (P := Try.prog) 25 57 _ 3 24 Try.underlying25 info_bunch .i64 .i64 n (by omega) (by omega)
  have HS := Lib.hid hs
  clear hs
  go_enter Try.func15, Try.ntmps15
  go_wp2_with fail
  have hO : Own (w.alloc (Obj.cells (madeCells #[Value.int IntKind.i64 0, Value.int IntKind.i64 0, Value.int IntKind.i64 0] (n * 3)) 57)) w.heap.size 57 (n * 3) (fun _ => 0) :=
    own_made w _ _ _ _ (fun i hi => by match i, hi with | 0, _ => rfl | 1, _ => rfl | 2, _ => rfl) (by simp) rfl
  have HO := Lib.hid hO
  clear hO hmk
  go_loopw [4] (fun s wr => ∃ k : Nat, k ≤ n ∧ s = .int .i64 k ∧ Own wr w.heap.size 57 (n * 3) (fun j => if j < k * 3 then X j else 0) ∧ Below w.heap.size w wr) (fun s _ => n - (intOf s).toNat)
  case atStart => exact ⟨0, by omega, rfl, HO.out.congr (fun j _ => by simp), by go_grown⟩
  case round =>
    obtain ⟨k, hk, rfl, hown, hbl⟩ := hrel
    have hzz := hown.lt
    by_cases hlt : k < n
    · have hlt' : (k : Int) < (n : Int) := by omega
      obtain ⟨b, o, rfl, hb, hX⟩ := HS.out (by omega)
      have h0 := (hX.below hbl hb) (k * 3) (by omega)
      have h1 := (hX.below hbl hb) (k * 3 + 1) (by omega)
      have h2 := (hX.below hbl hb) (k * 3 + 2) (by omega)
      simp only [← Nat.add_assoc] at h1 h2
      have HW := Lib.hid hown
      clear hX hown
      go_wp2_with fail
      refine (toBunch_c (X (k * 3)) (X (k * 3 + 1)) (X (k * 3 + 2)) _).mono ?_
      rintro e w' ⟨rfl, hb2⟩
      have hz2 := hb2.size
      have g2 : Below w.heap.size w w' := Below.trans hbl (hb2.mono (by omega))
      have o2 : Own w' w.heap.size 57 (n * 3) (fun j => if j < k * 3 then X j else 0) := HW.out.below hb2 (by omega)
      have c0 := o2.cell (j := k * 3) (by omega)
      have c1 := o2.cell (j := k * 3 + 1) (by omega)
      have c2 := o2.cell (j := k * 3 + 2) (by omega)
      have f0 := o2.frozen (k * 3)
      have f1 := o2.frozen (k * 3 + 1)
      have f2 := o2.frozen (k * 3 + 2)
      have HO2 := Lib.hid o2
      clear hb2 h0 h1 h2 o2
      go_wp2
      go_roundw
      case rel =>
        refine ⟨k + 1, by omega, by go_num, (((HO2.out.set (k * 3) (X (k * 3))).set (k * 3 + 1) (X (k * 3 + 1))).set (k * 3 + 2) (X (k * 3 + 2))).congr ?_, ?_⟩
        · intro j hj
          by_cases e2 : j = k * 3 + 2
          · subst e2; first | (simp; done) | (simp; omega)
          by_cases e1 : j = k * 3 + 1
          · subst e1; first | (simp; done) | (simp; omega)
          by_cases e0 : j = k * 3
          · subst e0; first | (simp; done) | (simp; omega)
          simp only [e0, e1, e2, if_false]
          by_cases ez : j < k * 3
          · rw [if_pos ez, if_pos (by omega)]
          · rw [if_neg ez, if_neg (by omega)]
        · exact Below.setCell (Below.setCell (Below.setCell g2 (Nat.le_refl _) _) (Nat.le_refl _) _) (Nat.le_refl _) _
      case measure => simp [intOf]; omega
    · obtain rfl : k = n := by omega
      have HW := Lib.hid hown
      clear hown
      go_wp2
      go_ret
      exact ⟨_, _, rfl, Nat.le_refl _, by unfold maxLen; omega, fun _ => ⟨_, rfl, Nat.le_refl _, hzz, HW.out.congr (fun j hj => by rw [if_pos hj])⟩, hbl⟩

set_option maxHeartbeats 1000000 in
theorem szBunchS_c (A : Option Addr) (n c : Nat) (l : Int) (w : World) (hn : (n : Int) ≤ l) (hl : l ≤ 1048576) :
    Calls Try.prog 13 #[.slice A n c, .int .i64 l] w fun e w' => e = .returned (.int .i64 (l - n)) ∧ Below w.heap.size w w' := by
  have h : ¬ (l - (n : Int)) < 0 := by omega
  go_enter Try.func13, Try.ntmps13
  go_wp2
  go_ret
  exact ⟨rfl, Below.refl _ _⟩
set_option maxHeartbeats 1000000 in
theorem szBunchS_big (A : Option Addr) (n c : Nat) (l : Int) (w : World) (hn : l < n) (h0 : 0 ≤ l) (hl : l ≤ 1048576) (hm : n ≤ maxLen) :
    Calls Try.prog 13 #[.slice A n c, .int .i64 l] w fun e w' => e = .returned (.int .i64 (-1)) ∧ Below w.heap.size w w' := by
  unfold maxLen at hm
  have h : (l - (n : Int)) < 0 := by omega
  go_enter Try.func13, Try.ntmps13
  go_wp2
  go_ret
  exact ⟨rfl, Below.refl _ _⟩
set_option maxHeartbeats 2000000 in
theorem eqBunchS_same (A1 A2 : Option Addr) (n c1 c2 : Nat) (X : Nat → Int) (w : World) (hn : n ≤ maxLen) (h1 : Sl w A1 n 3 X) (h2 : Sl w A2 n 3 X) :
    Calls Try.prog 17 #[.slice A1 n c1, .slice A2 n c2] w fun e w' => e = .returned (.bool true) ∧ Below w.heap.size w w' := by
  unfold maxLen at hn
  have H1 := Lib.hid h1
  have H2 := Lib.hid h2
  clear h1 h2
  go_enter Try.func17, Try.ntmps17
  go_wp2_with fail
  go_loopw [5] (fun s wr => ∃ k : Nat, k ≤ n ∧ s = .int .i64 k ∧ Below w.heap.size w wr) (fun s _ => n - (intOf s).toNat)
  case atStart => exact ⟨0, by omega, rfl, Below.refl _ _⟩
  case round =>
    obtain ⟨k, hk, rfl, hbl⟩ := hrel
    have hzz := hbl.size
    by_cases hlt : k < n
    · have hlt' : (k : Int) < (n : Int) := by omega
      have hk0 : (0 : Int) ≤ (k : Int) := by omega
      obtain ⟨b1, o1, rfl, hb1, hX1⟩ := H1.out (by omega)
      obtain ⟨b2, o2, rfl, hb2, hX2⟩ := H2.out (by omega)
      have I1 := Lib.hid hX1
      have I2 := Lib.hid hX2
      clear hX1 hX2
      have p0 := (I1.out.below hbl hb1) (k * 3) (by omega)
      have p1 := (I1.out.below hbl hb1) (k * 3 + 1) (by omega)
      have p2 := (I1.out.below hbl hb1) (k * 3 + 2) (by omega)
      have q0 := (I2.out.below hbl hb2) (k * 3) (by omega)
      have q1 := (I2.out.below hbl hb2) (k * 3 + 1) (by omega)
      have q2 := (I2.out.below hbl hb2) (k * 3 + 2) (by omega)
      simp only [← Nat.add_assoc] at p1 q1 p2 q2
      go_wp2_with fail
      go_region_held3 (fun x => (x.cell? ⟨b1, o1 + k * 3, none⟩ = some (.int .i64 (X (k * 3))) ∧ x.cell? ⟨b1, o1 + k * 3 + 1, none⟩ = some (.int .i64 (X (k * 3 + 1))) ∧ x.cell? ⟨b1, o1 + k * 3 + 2, none⟩ = some (.int .i64 (X (k * 3 + 2)))) ∧ (x.cell? ⟨b2, o2 + k * 3, none⟩ = some (.int .i64 (X (k * 3))) ∧ x.cell? ⟨b2, o2 + k * 3 + 1, none⟩ = some (.int .i64 (X (k * 3 + 1))) ∧ x.cell? ⟨b2, o2 + k * 3 + 2, none⟩ = some (.int .i64 (X (k * 3 + 2))))) (first | exact ⟨⟨p0, p1, p2⟩, q0, q1, q2⟩ | go_keep)
        (first
          | (go_at_call 48; refine (eqBunch_same (X (k * 3)) (X (k * 3 + 1)) (X (k * 3 + 2)) _).mono ?_; rintro e w2 ⟨rfl, hb⟩
             have hz2 := hb.size
             simp at hz2
             have g2 : Below w.heap.size w w2 := Below.trans hbl.drew (hb.mono (by simp <;> omega))
             replace p0 := (I1.out.below g2 hb1) (k * 3) (by omega)
             replace p1 := (I1.out.below g2 hb1) (k * 3 + 1) (by omega)
             replace p2 := (I1.out.below g2 hb1) (k * 3 + 2) (by omega)
             replace q0 := (I2.out.below g2 hb2) (k * 3) (by omega)
             replace q1 := (I2.out.below g2 hb2) (k * 3 + 1) (by omega)
             replace q2 := (I2.out.below g2 hb2) (k * 3 + 2) (by omega)
             simp only [← Nat.add_assoc] at p1 q1 p2 q2
             clear hb))
      go_wp2
      go_roundw
      case rel => exact ⟨k + 1, by omega, by go_num, g2⟩
      case measure => simp [intOf]; omega
    · obtain rfl : k = n := by omega
      go_wp2
      go_ret
      exact ⟨rfl, hbl⟩

set_option maxHeartbeats 1000000 in
theorem markBunchS_c (A : Option Addr) (n c lo hi : Nat) (q : Int) (X : Nat → Int) (w : World) (hn : n ≤ 1048576) (q0 : 0 ≤ q) (q1 : q ≤ 1000000000) (hr : Row w lo hi A n 3 57 X) :
    Calls Try.prog 29 #[.slice A n c, .int .i64 q] w (Marked w lo hi A n 3 57 (q + n * 3) (fun j => q + j)) := by
  have HR := Lib.hid hr
  clear hr
  go_enter Try.func29, Try.ntmps29
  go_wp2_with fail
  go_loopw [5, 1] (fun s t wr => ∃ k : Nat, k ≤ n ∧ s = .int .i64 k ∧ t = .int .i64 (q + k * 3) ∧ Hid (Row wr lo hi A n 3 57 (fun j => if j < k * 3 then q + j else X j)) ∧ WroteIn w wr lo hi) (fun s _ _ => n - (intOf s).toNat)
  case atStart => exact ⟨0, by omega, rfl, by go_num, HR.out.congr (fun j _ => by simp), WroteIn.refl _ _ _⟩
  case round =>
    obtain ⟨k, hk, rfl, rfl, hrow, hw⟩ := hrel
    have hzz := hw.size
    by_cases hlt : k < n
    · have hlt' : (k : Int) < (n : Int) := by omega
      obtain ⟨g, rfl, g1, g2, ho⟩ := hrow.out (by omega)
      have c0 := ho.cell (j := k * 3) (by omega)
      have c1 := ho.cell (j := k * 3 + 1) (by omega)
      have c2 := ho.cell (j := k * 3 + 2) (by omega)
      have f0 := ho.frozen (k * 3)
      have f1 := ho.frozen (k * 3 + 1)
      have f2 := ho.frozen (k * 3 + 2)
      have HO := Lib.hid ho
      clear ho
      go_wp2
      go_roundw
      case rel =>
        refine ⟨k + 1, by omega, by go_num, by congr 1; push_cast; omega, fun _ => ⟨g, rfl, g1, g2, (((HO.out.set (k * 3) (q + k * 3)).set (k * 3 + 1) (q + k * 3 + 1)).set (k * 3 + 2) (q + k * 3 + 1 + 1)).congr ?_⟩, ?_⟩
        · intro j hj
          by_cases e2 : j = k * 3 + 2
          · subst e2; first | (simp; done) | (simp; omega)
          by_cases e1 : j = k * 3 + 1
          · subst e1; first | (simp; done) | (simp; omega)
          by_cases e0 : j = k * 3
          · subst e0; first | (simp; done) | (simp; omega)
          simp only [e0, e1, e2, if_false]
          by_cases ez : j < k * 3
          · rw [if_pos ez, if_pos (by omega)]
          · rw [if_neg ez, if_neg (by omega)]
        · exact ((hw.set g1 g2 _).set g1 g2 _).set g1 g2 _
      case measure => simp [intOf]; omega
    · obtain rfl : k = n := by omega
      go_wp2
      go_ret
      exact ⟨rfl, hrow.out.congr (fun j hj => by rw [if_pos hj]), hw⟩
set_option maxHeartbeats 1000000 in
theorem heldBunchS_c (A : Option Addr) (n c : Nat) (q : Int) (w : World) (hn : n ≤ 1048576) (q0 : 0 ≤ q) (q1 : q ≤ 1000000000) (hr : Sl w A n 3 (fun j => q + j)) :
    Calls Try.prog 30 #[.slice A n c, .int .i64 q] w fun e w' => e = .returned (.int .i64 (q + n * 3)) ∧ Below w.heap.size w w' := by
  have HR := Lib.hid hr
  clear hr
  go_enter Try.func30, Try.ntmps30
  go_wp2_with fail
  go_loopw [5, 1] (fun s t wr => ∃ k : Nat, k ≤ n ∧ s = .int .i64 k ∧ t = .int .i64 (q + k * 3) ∧ Drew w wr) (fun s _ _ => n - (intOf s).toNat)
  case atStart => exact ⟨0, by omega, rfl, by go_num, Drew.refl _⟩
  case round =>
    obtain ⟨k, hk, rfl, rfl, hd⟩ := hrel
    have HD := Lib.hid hd
    clear hd
    by_cases hlt : k < n
    · have hlt' : (k : Int) < (n : Int) := by omega
      have hk0 : (0 : Int) ≤ (k : Int) := by omega
      obtain ⟨b, o, rfl, hb, hX⟩ := (HD.out.sl HR.out) (by omega)
      have p0 : wr.cell? ⟨b, o + k * 3, none⟩ = some (.int .i64 (q + k * 3)) := (hX (k * 3) (by omega)).trans (by congr 2 <;> (push_cast; omega))
      have p1 : wr.cell? ⟨b, o + k * 3 + 1, none⟩ = some (.int .i64 (q + k * 3 + 1)) := (hX (k * 3 + 1) (by omega)).trans (by congr 2 <;> (push_cast; omega))
      have p2 : wr.cell? ⟨b, o + k * 3 + 2, none⟩ = some (.int .i64 (q + k * 3 + 1 + 1)) := (hX (k * 3 + 2) (by omega)).trans (by congr 2 <;> (push_cast; omega))
      clear hX
      go_wp2_with fail
      go_roundw
      case rel => exact ⟨k + 1, by omega, by go_num, by congr 1; push_cast; omega, by first | exact HD.out | exact HD.out.drewN _⟩
      case measure => simp [intOf]; omega
    · obtain rfl : k = n := by omega
      go_wp2
      go_ret
      exact ⟨rfl, by obtain ⟨m, hm⟩ := HD.out; rw [hm]; exact drewN_below (Below.refl _ _) m⟩
end Go.Proofs.Ytcpaenmhnoagdaa.rod
