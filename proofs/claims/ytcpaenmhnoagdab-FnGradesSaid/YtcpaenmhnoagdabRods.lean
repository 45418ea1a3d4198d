/-
  Contracts of the functions on lists of rods.
-/
import Derived.Test.YtcpaenmhnoagdabRod
import Derived.Test.YtcpaenmhnoagdabMem
namespace Go.Proofs.Ytcpaenmhnoagdab.rod
open Go.ChangeShapes Go.WideShapes Go.ChangeAt Go.RowKit
open Go.Proofs.Ytcpaenmhnoagdab.mem
set_option linter.unusedVariables false

theorem toRod_c (L B T : Int) (w : World) :
    Calls Try.prog 72 #[.agg #[.int .i64 L, .int .i64 B, .int .i64 T]] w fun e w' => e = .returned (.agg #[.int .i64 L, .int .i64 B, .int .i64 T]) ∧ Below w.heap.size w w' := by
  go_enter Try.func72, Try.ntmps72
  go_wp2
  go_returns
  exact ⟨rfl, by go_grown⟩

set_option maxHeartbeats 1000000 in
theorem eqRod_same (L B T : Int) (w : World) :
    Calls Try.prog 75 #[.agg #[.int .i64 L, .int .i64 B, .int .i64 T], .agg #[.int .i64 L, .int .i64 B, .int .i64 T]] w fun e w' => e = .returned (.bool true) ∧ Below w.heap.size w w' := by
  go_enter Try.func75, Try.ntmps75
  go_wp2
  go_returns
  exact ⟨rfl, by go_grown⟩

/-- all of the first n rods are valid -/
def allB (X : Nat → Int) : Nat → Bool
  | 0 => true
  | n + 1 => allB X n && rodB (X (n * 3)) (X (n * 3 + 1)) (X (n * 3 + 2))
theorem allB_le {X : Nat → Int} {n : Nat} : ∀ {m : Nat}, m ≤ n → allB X n = true → allB X m = true := by
  induction n with
  | zero => intro m h k; obtain rfl : m = 0 := by omega
            exact k
  | succ n ih =>
    intro m h k
    by_cases e : m = n + 1
    · subst e; exact k
    · simp only [allB, Bool.and_eq_true] at k
      exact ih (by omega) k.1
theorem allB_at {X : Nat → Int} {n i : Nat} (h : allB X n = true) (hi : i < n) : rodB (X (i * 3)) (X (i * 3 + 1)) (X (i * 3 + 2)) = true := by
  have := allB_le (m := i + 1) hi h
  simp only [allB, Bool.and_eq_true] at this
  exact this.2
theorem allB_no {X : Nat → Int} {n i : Nat} (hi : i < n) (h : rodB (X (i * 3)) (X (i * 3 + 1)) (X (i * 3 + 2)) = false) : allB X n = false := by
  cases e : allB X n
  · rfl
  · rw [allB_at e hi] at h; cases h

/-- a list of rods is valid -/
def listB (n : Nat) (X : Nat → Int) : Bool := decide (n ≤ 20) && allB X n
theorem listB_of {n : Nat} {X : Nat → Int} (h : listB n X = true) : n ≤ 20 ∧ allB X n = true := by
  unfold listB at h
  simp only [Bool.and_eq_true, decide_eq_true_eq] at h
  exact h

set_option maxHeartbeats 1000000 in
theorem ok_s (A : Option Addr) (n c : Nat) (X : Nat → Int) (w : World) (hn : n ≤ maxLen) (hr : Sl w A n 3 X) :
    Calls Try.prog 71 #[.slice A n c] w fun e w' => e = .returned (.bool (listB n X)) ∧ ∃ m, w' = w.drewN m := by
  unfold maxLen at hn
  have HR := Lib.hid hr
  clear hr
  go_enter Try.func71, Try.ntmps71
  go_wp2_with fail
  go_loopw [3] (fun s wr => ∃ k m : Nat, k ≤ n ∧ s = .int .i64 k ∧ Hid (allB X k = true) ∧ wr = w.drewN m) (fun s _ => n - (intOf s).toNat)
  case atStart => exact ⟨0, 0, by omega, rfl, rfl, rfl⟩
  case round =>
    obtain ⟨k, m, hk, rfl, HA, rfl⟩ := hrel
    by_cases hlt : k < n
    · have hlt' : (k : Int) < (n : Int) := by omega
      obtain ⟨b, o, rfl, hb, hX⟩ := HR.out (by omega)
      have h0 := hX (k * 3) (by omega)
      have h1 := hX (k * 3 + 1) (by omega)
      have h2 := hX (k * 3 + 2) (by omega)
      simp only [← Nat.add_assoc] at h1 h2
      clear hX
      cases hv : rodB (X (k * 3)) (X (k * 3 + 1)) (X (k * 3 + 2))
      · have hf : listB n X = false := by unfold listB; rw [allB_no hlt hv]; simp
        have HF := Lib.hid hf
        clear hf
        go_wp2_with fail
        refine (one_s b (o + k * 3) (X (k * 3)) (X (k * 3 + 1)) (X (k * 3 + 2)) _ (by go_simp) (by go_simp) (by go_simp)).mono ?_
        rintro e w' ⟨rfl, m2, rfl⟩
        go_wp2
        go_ret
        exact ⟨by rw [HF.out]; rfl, _, rfl⟩
      · go_wp2_with fail
        refine (one_s b (o + k * 3) (X (k * 3)) (X (k * 3 + 1)) (X (k * 3 + 2)) _ (by go_simp) (by go_simp) (by go_simp)).mono ?_
        rintro e w' ⟨rfl, m2, rfl⟩
        have HV := Lib.hid hv
        clear h0 h1 h2
        go_wp2
        go_roundw
        case rel => exact ⟨k + 1, m + m2, by omega, by go_num, by simp only [Hid, allB, HA.out, HV.out, Bool.and_self], rfl⟩
        case measure => simp [intOf]; omega
    · obtain rfl : k = n := by omega
      have e : listB k X = decide ((k : Int) ≤ 20) := by unfold listB; rw [HA.out, Bool.and_true]; congr 1; exact propext ⟨fun h => by omega, fun h => by omega⟩
      have HE := Lib.hid e
      clear e
      go_wp2
      go_ret
      exact ⟨by rw [HE.out]; rfl, _, rfl⟩

set_option maxHeartbeats 1000000 in
theorem valid_s (A : Option Addr) (n c : Nat) (X : Nat → Int) (w : World) (hn : n ≤ maxLen) (hr : Sl w A n 3 X) :
    Calls Try.prog 16 #[.slice A n c] w fun e w' => e = .returned (.bool (listB n X)) ∧ ∃ m, w' = w.drewN m := by
  have HR := Lib.hid hr
  clear hr
  go_enter Try.func16, Try.ntmps16
  go_wp2_with fail
  refine (ok_s A n c X _ hn HR.out).mono ?_
  rintro e w' ⟨rfl, m, rfl⟩
  go_wp2
  go_ret
  exact ⟨rfl, _, rfl⟩
set_option maxHeartbeats 1000000 in
theorem are_i (A : Option Addr) (n c : Nat) (X : Nat → Int) (w : World) (hn : n ≤ maxLen) (hr : Sl w A n 3 X) :
    Calls Try.prog 73 #[.slice A n c, .int .i64 20, .func (.func 74) #[] #[]] w fun e w' => e = .returned (.bool (listB n X)) ∧ Below w.heap.size w w' := by
  unfold maxLen at hn
  have HR := Lib.hid hr
  clear hr
  by_cases hbig : 20 < n
  · have hf : listB n X = false := by unfold listB; rw [decide_eq_false (by omega)]; rfl
    rw [hf]
    have hbig' : (20 : Int) < (n : Int) := by omega
    clear hf
    go_enter Try.func73, Try.ntmps73
    go_wp2
    go_ret
    exact ⟨rfl, by go_grown⟩
  have hbig' : ¬ (20 : Int) < (n : Int) := by omega
  have he : listB n X = allB X n := by unfold listB; rw [decide_eq_true (by omega)]; rfl
  have HE := Lib.hid he
  clear he hbig
  go_enter Try.func73, Try.ntmps73
  go_wp2_with fail
  go_loopw [15] (fun s wr => ∃ k : Nat, k ≤ n ∧ s = .int .i64 k ∧ Hid (allB X k = true) ∧ Below w.heap.size w wr) (fun s _ => n - (intOf s).toNat)
  case atStart => exact ⟨0, by omega, rfl, rfl, by go_grown⟩
  case round =>
    obtain ⟨k, hk, rfl, HA, hbl⟩ := hrel
    have hzz := hbl.size
    by_cases hlt : k < n
    · have hlt' : (k : Int) < (n : Int) := by omega
      obtain ⟨b, o, rfl, hb, hX⟩ := HR.out (by omega)
      have h0 := hX.below hbl hb (k * 3) (by omega)
      have h1 := hX.below hbl hb (k * 3 + 1) (by omega)
      have h2 := hX.below hbl hb (k * 3 + 2) (by omega)
      simp only [← Nat.add_assoc] at h1 h2
      clear hX
      cases hv : rodB (X (k * 3)) (X (k * 3 + 1)) (X (k * 3 + 2))
      · have hf : listB n X = false := by rw [HE.out]; exact allB_no hlt hv
        have HF := Lib.hid hf
        clear hf
        go_wp2_with fail
        refine (rod_i (X (k * 3)) (X (k * 3 + 1)) (X (k * 3 + 2)) _).mono ?_
        rintro e w' ⟨rfl, hb2⟩
        have g2 : Below w.heap.size w w' := Below.trans (by go_grown) (hb2.mono (by simp <;> omega))
        clear hb2 h0 h1 h2
        go_wp2
        go_ret
        exact ⟨by rw [HF.out]; rfl, g2⟩
      · go_wp2_with fail
        refine (rod_i (X (k * 3)) (X (k * 3 + 1)) (X (k * 3 + 2)) _).mono ?_
        rintro e w' ⟨rfl, hb2⟩
        have g2 : Below w.heap.size w w' := Below.trans (by go_grown) (hb2.mono (by simp <;> omega))
        have HV := Lib.hid hv
        clear hb2 h0 h1 h2
        go_wp2
        go_roundw
        case rel => exact ⟨k + 1, by omega, by go_num, by simp only [Hid, allB, HA.out, HV.out, Bool.and_self], g2⟩
        case measure => simp [intOf]; omega
    · obtain rfl : k = n := by omega
      go_wp2
      go_ret
      exact ⟨by rw [HE.out, HA.out]; rfl, hbl⟩

theorem valid_i (A : Option Addr) (n c : Nat) (X : Nat → Int) (w : World) (hn : n ≤ maxLen) (hr : Sl w A n 3 X) :
    Calls Try.prog 18 #[.slice A n c] w fun e w' => e = .returned (.bool (listB n X)) ∧ Below w.heap.size w w' := by
  have HR := Lib.hid hr
  clear hr
  go_enter Try.func18, Try.ntmps18
  go_wp2_with fail
  refine (are_i A n c X _ hn HR.out).mono ?_
  rintro e w' ⟨rfl, hb⟩
  go_wp2
  go_ret
  exact ⟨rfl, hb⟩

theorem info_rod : (Try.prog.info? 51).map (fun i => (i.zero, i.size, i.bytes)) = some (some (.agg #[.int .i64 0, .int .i64 0, .int .i64 0]), 3, 24) := by kernel_rfl

set_option maxHeartbeats 1000000 in
theorem toRodS_c (A : Option Addr) (n c : Nat) (X : Nat → Int) (w : World) (hn : n ≤ 1048576) (hs : Sl w A n 3 X) :
    Calls Try.prog 17 #[.slice A n c] w (NewRow w n 3 51 X) := by
  have hmk := run_make_rows (P := Try.prog) 25 51 _ 3 24 Try.underlying25 info_rod .i64 .i64 n (by omega) (by omega)
  have HS := Lib.hid hs
  clear hs
  go_enter Try.func17, Try.ntmps17
  go_wp2_with fail
  have hO : Own (w.alloc (Obj.cells (madeCells #[Value.int IntKind.i64 0, Value.int IntKind.i64 0, Value.int IntKind.i64 0] (n * 3)) 51)) w.heap.size 51 (n * 3) (fun _ => 0) :=
    own_made w _ _ _ _ (fun i hi => by match i, hi with | 0, _ => rfl | 1, _ => rfl | 2, _ => rfl) (by simp) rfl
  have HO := Lib.hid hO
  clear hO hmk
  go_loopw [4] (fun s wr => ∃ k : Nat, k ≤ n ∧ s = .int .i64 k ∧ Own wr w.heap.size 51 (n * 3) (fun j => if j < k * 3 then X j else 0) ∧ Below w.heap.size w wr) (fun s _ => n - (intOf s).toNat)
  case atStart => exact ⟨0, by omega, rfl, HO.out.congr (fun j _ => by simp), by go_grown⟩
  case round =>
    obtain ⟨k, hk, rfl, hown, hbl⟩ := hrel
    have hzz := hown.lt
    by_cases hlt : k < n
    · have hlt' : (k : Int) < (n : Int) := by omega
      obtain ⟨b, o, rfl, hb, hX⟩ := HS.out (by omega)
      have h0 := (hX.below hbl hb) (k * 3) (by omega)
      have h1 := (hX.below hbl hb) (k * 3 + 1) (by omega)
      have h2 := (hX.below hbl hb) (k * 3 + 2) (by omega)
      simp only [← Nat.add_assoc] at h1 h2
      have HW := Lib.hid hown
      clear hX hown
      go_wp2_with fail
      refine (toRod_c (X (k * 3)) (X (k * 3 + 1)) (X (k * 3 + 2)) _).mono ?_
      rintro e w' ⟨rfl, hb2⟩
      have hz2 := hb2.size
      have g2 : Below w.heap.size w w' := Below.trans hbl (hb2.mono (by omega))
      have o2 : Own w' w.heap.size 51 (n * 3) (fun j => if j < k * 3 then X j else 0) := HW.out.below hb2 (by omega)
      have c0 := o2.cell (j := k * 3) (by omega)
      have c1 := o2.cell (j := k * 3 + 1) (by omega)
      have c2 := o2.cell (j := k * 3 + 2) (by omega)
      have f0 := o2.frozen (k * 3)
      have f1 := o2.frozen (k * 3 + 1)
      have f2 := o2.frozen (k * 3 + 2)
      have HO2 := Lib.hid o2
      clear hb2 h0 h1 h2 o2
      go_wp2
      go_roundw
      case rel =>
        refine ⟨k + 1, by omega, by go_num, ((((HO2.out.set (k * 3) (X (k * 3))).set (k * 3 + 1) (X (k * 3 + 1))).set (k * 3 + 2) (X (k * 3 + 2)))).congr ?_, ?_⟩
        · intro j hj
          by_cases e2 : j = k * 3 + 2
          · subst e2; first | (simp; done) | (simp; omega)
          by_cases e1 : j = k * 3 + 1
          · subst e1; first | (simp; done) | (simp; omega)
          by_cases e0 : j = k * 3
          · subst e0; first | (simp; done) | (simp; omega)
          simp only [e0, e1, e2, if_false]
          by_cases e3 : j < k * 3
          · rw [if_pos e3, if_pos (by omega)]
          · rw [if_neg e3, if_neg (by omega)]
        · exact Below.setCell (Below.setCell (Below.setCell g2 (Nat.le_refl _) _) (Nat.le_refl _) _) (Nat.le_refl _) _
      case measure => simp [intOf]; omega
    · obtain rfl : k = n := by omega
      have HW := Lib.hid hown
      clear hown
      go_wp2
      go_ret
      exact ⟨_, _, rfl, Nat.le_refl _, by unfold maxLen; omega, fun _ => ⟨_, rfl, Nat.le_refl _, hzz, HW.out.congr (fun j hj => by rw [if_pos hj])⟩, hbl⟩

set_option maxHeartbeats 1000000 in
theorem sz_c (A : Option Addr) (n c : Nat) (w : World) (hn : n ≤ 1048576) :
    Calls Try.prog 15 #[.slice A n c, .int .i64 1048576] w fun e w' => e = .returned (.int .i64 (1048576 - n)) ∧ w = w' := by
  have h : ¬ (1048576 - (n : Int)) < 0 := by omega
  go_enter Try.func15, Try.ntmps15
  go_wp2
  go_ret
  exact ⟨rfl, rfl⟩
set_option maxHeartbeats 1000000 in
theorem sz_big (A : Option Addr) (n c : Nat) (w : World) (hn : 1048576 < n) (hm : n ≤ maxLen) :
    Calls Try.prog 15 #[.slice A n c, .int .i64 1048576] w fun e w' => e = .returned (.int .i64 (-1)) ∧ w = w' := by
  unfold maxLen at hm
  have h : (1048576 - (n : Int)) < 0 := by omega
  go_enter Try.func15, Try.ntmps15
  go_wp2
  go_ret
  exact ⟨rfl, rfl⟩

set_option maxHeartbeats 2000000 in
theorem eqRodS_same (A1 A2 : Option Addr) (n c1 c2 : Nat) (X : Nat → Int) (w : World) (hn : n ≤ maxLen) (h1 : Sl w A1 n 3 X) (h2 : Sl w A2 n 3 X) :
    Calls Try.prog 19 #[.slice A1 n c1, .slice A2 n c2] w fun e w' => e = .returned (.bool true) ∧ Below w.heap.size w w' := by
  unfold maxLen at hn
  have H1 := Lib.hid h1
  have H2 := Lib.hid h2
  clear h1 h2
  go_enter Try.func19, Try.ntmps19
  go_wp2_with fail
  go_loopw [5] (fun s wr => ∃ k : Nat, k ≤ n ∧ s = .int .i64 k ∧ Below w.heap.size w wr) (fun s _ => n - (intOf s).toNat)
  case atStart => exact ⟨0, by omega, rfl, Below.refl _ _⟩
  case round =>
    obtain ⟨k, hk, rfl, hbl⟩ := hrel
    have hzz := hbl.size
    by_cases hlt : k < n
    · have hlt' : (k : Int) < (n : Int) := by omega
      have hk0 : (0 : Int) ≤ (k : Int) := by omega
      obtain ⟨b1, o1, rfl, hb1, hX1⟩ := H1.out (by omega)
      obtain ⟨b2, o2, rfl, hb2, hX2⟩ := H2.out (by omega)
      have I1 := Lib.hid hX1
      have I2 := Lib.hid hX2
      clear hX1 hX2
      have p0 := (I1.out.below hbl hb1) (k * 3) (by omega)
      have p1 := (I1.out.below hbl hb1) (k * 3 + 1) (by omega)
      have p2 := (I1.out.below hbl hb1) (k * 3 + 2) (by omega)
      have q0 := (I2.out.below hbl hb2) (k * 3) (by omega)
      have q1 := (I2.out.below hbl hb2) (k * 3 + 1) (by omega)
      have q2 := (I2.out.below hbl hb2) (k * 3 + 2) (by omega)
      simp only [← Nat.add_assoc] at p1 p2 q1 q2
      go_wp2_with fail
      go_region_held3 (fun x => (x.cell? ⟨b1, o1 + k * 3, none⟩ = some (.int .i64 (X (k * 3))) ∧ x.cell? ⟨b1, o1 + k * 3 + 1, none⟩ = some (.int .i64 (X (k * 3 + 1))) ∧ x.cell? ⟨b1, o1 + k * 3 + 2, none⟩ = some (.int .i64 (X (k * 3 + 2)))) ∧ (x.cell? ⟨b2, o2 + k * 3, none⟩ = some (.int .i64 (X (k * 3))) ∧ x.cell? ⟨b2, o2 + k * 3 + 1, none⟩ = some (.int .i64 (X (k * 3 + 1))) ∧ x.cell? ⟨b2, o2 + k * 3 + 2, none⟩ = some (.int .i64 (X (k * 3 + 2))))) (first | exact ⟨⟨p0, p1, p2⟩, q0, q1, q2⟩ | go_keep)
        (first
          | (go_at_call 75; refine (eqRod_same (X (k * 3)) (X (k * 3 + 1)) (X (k * 3 + 2)) _).mono ?_; rintro e w2 ⟨rfl, hb⟩
             have hz2 := hb.size
             simp at hz2
             have g2 : Below w.heap.size w w2 := Below.trans hbl.drew (hb.mono (by simp <;> omega))
             replace p0 := (I1.out.below g2 hb1) (k * 3) (by omega)
             replace p1 := (I1.out.below g2 hb1) (k * 3 + 1) (by omega)
             replace p2 := (I1.out.below g2 hb1) (k * 3 + 2) (by omega)
             replace q0 := (I2.out.below g2 hb2) (k * 3) (by omega)
             replace q1 := (I2.out.below g2 hb2) (k * 3 + 1) (by omega)
             replace q2 := (I2.out.below g2 hb2) (k * 3 + 2) (by omega)
             simp only [← Nat.add_assoc] at p1 p2 q1 q2
             clear hb))
      go_wp2
      go_roundw
      case rel => exact ⟨k + 1, by omega, by go_num, g2⟩
      case measure => simp [intOf]; omega
    · obtain rfl : k = n := by omega
      go_wp2
      go_ret
      exact ⟨rfl, hbl⟩

set_option maxHeartbeats 1000000 in
theorem markRodS_c (A : Option Addr) (n c lo hi : Nat) (q : Int) (X : Nat → Int) (w : World) (hn : n ≤ 1048576) (q0 : 0 ≤ q) (q1 : q ≤ 1000000000) (hr : Row w lo hi A n 3 51 X) :
    Calls Try.prog 24 #[.slice A n c, .int .i64 q] w (Marked w lo hi A n 3 51 (q + n * 3) (fun j => q + j)) := by
  have HR := Lib.hid hr
  clear hr
  go_enter Try.func24, Try.ntmps24
  go_wp2_with fail
  go_loopw [5, 1] (fun s t wr => ∃ k : Nat, k ≤ n ∧ s = .int .i64 k ∧ t = .int .i64 (q + k * 3) ∧ Hid (Row wr lo hi A n 3 51 (fun j => if j < k * 3 then q + j else X j)) ∧ WroteIn w wr lo hi) (fun s _ _ => n - (intOf s).toNat)
  case atStart => exact ⟨0, by omega, rfl, by go_num, HR.out.congr (fun j _ => by simp), WroteIn.refl _ _ _⟩
  case round =>
    obtain ⟨k, hk, rfl, rfl, hrow, hw⟩ := hrel
    have hzz := hw.size
    by_cases hlt : k < n
    · have hlt' : (k : Int) < (n : Int) := by omega
      obtain ⟨g, rfl, g1, g2, ho⟩ := hrow.out (by omega)
      have c0 := ho.cell (j := k * 3) (by omega)
      have c1 := ho.cell (j := k * 3 + 1) (by omega)
      have c2 := ho.cell (j := k * 3 + 2) (by omega)
      have f0 := ho.frozen (k * 3)
      have f1 := ho.frozen (k * 3 + 1)
      have f2 := ho.frozen (k * 3 + 2)
      have HO := Lib.hid ho
      clear ho
      go_wp2
      go_roundw
      case rel =>
        refine ⟨k + 1, by omega, by go_num, by congr 1; push_cast; omega, fun _ => ⟨g, rfl, g1, g2, (((HO.out.set (k * 3) (q + k * 3)).set (k * 3 + 1) (q + k * 3 + 1)).set (k * 3 + 2) (q + k * 3 + 1 + 1)).congr ?_⟩, ?_⟩
        · intro j hj
          by_cases e2 : j = k * 3 + 2
          · subst e2; first | (simp; done) | (simp; omega)
          by_cases e1 : j = k * 3 + 1
          · subst e1; first | (simp; done) | (simp; omega)
          by_cases e0 : j = k * 3
          · subst e0; first | (simp; done) | (simp; omega)
          simp only [e0, e1, e2, if_false]
          by_cases e3 : j < k * 3
          · rw [if_pos e3, if_pos (by omega)]
          · rw [if_neg e3, if_neg (by omega)]
        · exact ((hw.set g1 g2 _).set g1 g2 _).set g1 g2 _
      case measure => simp [intOf]; omega
    · obtain rfl : k = n := by omega
      go_wp2
      go_ret
      exact ⟨rfl, hrow.out.congr (fun j hj => by rw [if_pos hj]), hw⟩
end Go.Proofs.Ytcpaenmhnoagdab.rod
