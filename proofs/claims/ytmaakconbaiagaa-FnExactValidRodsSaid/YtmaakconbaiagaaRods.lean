/-
  Contracts of the functions on lists of rods.
-/
import Derived.Test.YtmaakconbaiagaaRod
import Derived.Test.YtmaakconbaiagaaMem
namespace Go.Proofs.Ytmaakconbaiagaa.rod
open Go.ChangeShapes Go.WideShapes Go.ChangeAt Go.RowKit
open Go.Proofs.Ytmaakconbaiagaa.mem
set_option linter.unusedVariables false

theorem toRod_c (L B T : Int) (w : World) :
    Calls Try.prog 20 #[.agg #[.int .i64 L, .int .i64 B, .int .i64 T]] w fun e w' => e = .returned (.agg #[.int .i64 L, .int .i64 B, .int .i64 T]) ∧ Below w.heap.size w w' := by
  go_enter Try.func20, Try.ntmps20
  go_wp2
  go_returns
  exact ⟨rfl, by go_grown⟩

set_option maxHeartbeats 1000000 in
theorem eqRod_same (L B T : Int) (w : World) :
    Calls Try.prog 27 #[.agg #[.int .i64 L, .int .i64 B, .int .i64 T], .agg #[.int .i64 L, .int .i64 B, .int .i64 T]] w fun e w' => e = .returned (.bool true) ∧ Below w.heap.size w w' := by
  go_enter Try.func27, Try.ntmps27
  go_wp2
  go_returns
  exact ⟨rfl, by go_grown⟩

/-- n rods lie in block b from offset o on -/
def Rods (w : World) (b o n : Nat) (L B T : Nat → Int) : Prop :=
  ∀ i, i < n → w.cell? ⟨b, o + i * 3, none⟩ = some (.int .i64 (L i)) ∧ w.cell? ⟨b, o + i * 3 + 1, none⟩ = some (.int .i64 (B i)) ∧ w.cell? ⟨b, o + i * 3 + 2, none⟩ = some (.int .i64 (T i))
theorem Rods.below {w w' : World} {b o n : Nat} {L B T : Nat → Int} {K : Nat} (h : Rods w b o n L B T) (hb : Below K w w') (hK : b < K) : Rods w' b o n L B T := fun i hi => by
  obtain ⟨h0, h1, h2⟩ := h i hi
  exact ⟨(hb.cell (p := ⟨b, _, none⟩) hK).trans h0, (hb.cell (p := ⟨b, _, none⟩) hK).trans h1, (hb.cell (p := ⟨b, _, none⟩) hK).trans h2⟩

theorem Rods.of_ints {w : World} {b o n : Nat} {X : Nat → Int} (h : Ints w b o (n * 3) X) : Rods w b o n (fun i => X (i * 3)) (fun i => X (i * 3 + 1)) (fun i => X (i * 3 + 2)) := fun i hi =>
  ⟨h (i * 3) (by omega), h (i * 3 + 1) (by omega), h (i * 3 + 2) (by omega)⟩

/-- all of the first n rods are valid -/
def allB (L B T : Nat → Int) : Nat → Bool
  | 0 => true
  | n + 1 => allB L B T n && rodB (L n) (B n) (T n)
theorem allB_le {L B T : Nat → Int} {n : Nat} : ∀ {m : Nat}, m ≤ n → allB L B T n = true → allB L B T m = true := by
  induction n with
  | zero => intro m h k; obtain rfl : m = 0 := by omega
            exact k
  | succ n ih =>
    intro m h k
    by_cases e : m = n + 1
    · subst e; exact k
    · simp only [allB, Bool.and_eq_true] at k
      exact ih (by omega) k.1
theorem allB_at {L B T : Nat → Int} {n i : Nat} (h : allB L B T n = true) (hi : i < n) : rodB (L i) (B i) (T i) = true := by
  have := allB_le (m := i + 1) hi h
  simp only [allB, Bool.and_eq_true] at this
  exact this.2
theorem allB_no {L B T : Nat → Int} {n i : Nat} (hi : i < n) (h : rodB (L i) (B i) (T i) = false) : allB L B T n = false := by
  cases e : allB L B T n
  · rfl
  · rw [allB_at e hi] at h; cases h

/-- a list of rods is valid -/
def listB (n : Nat) (L B T : Nat → Int) : Bool := decide (n ≤ 20) && allB L B T n

set_option maxHeartbeats 1000000 in
theorem ok_s (b n c : Nat) (L B T : Nat → Int) (w : World) (hb : b < w.heap.size) (hn : n ≤ maxLen) (hr : Rods w b 0 n L B T) :
    Calls Try.prog 52 #[.slice (some ⟨b, 0, none⟩) n c] w fun e w' => e = .returned (.bool (listB n L B T)) ∧ ∃ m, w' = w.drewN m := by
  unfold maxLen at hn
  have HR := Lib.hid hr
  clear hr
  go_enter Try.func52, Try.ntmps52
  go_wp2_with fail
  go_loopw [3] (fun s wr => ∃ k m : Nat, k ≤ n ∧ s = .int .i64 k ∧ Hid (allB L B T k = true) ∧ wr = w.drewN m) (fun s _ => n - (intOf s).toNat)
  case atStart => exact ⟨0, 0, by omega, rfl, rfl, rfl⟩
  case round =>
    obtain ⟨k, m, hk, rfl, HA, rfl⟩ := hrel
    by_cases hlt : k < n
    · have hlt' : (k : Int) < (n : Int) := by omega
      obtain ⟨h0, h1, h2⟩ := HR.out k hlt
      simp only [Nat.zero_add] at h0 h1 h2
      cases hv : rodB (L k) (B k) (T k)
      · have hf : listB n L B T = false := by unfold listB; rw [allB_no hlt hv]; simp
        have HF := Lib.hid hf
        clear hf
        go_wp2_with fail
        refine (one_s b (k * 3) (L k) (B k) (T k) _ (by go_simp) (by go_simp) (by go_simp)).mono ?_
        rintro e w' ⟨rfl, m2, rfl⟩
        go_wp2
        go_ret
        exact ⟨by rw [HF.out]; rfl, _, rfl⟩
      · go_wp2_with fail
        refine (one_s b (k * 3) (L k) (B k) (T k) _ (by go_simp) (by go_simp) (by go_simp)).mono ?_
        rintro e w' ⟨rfl, m2, rfl⟩
        have HV := Lib.hid hv
        clear h0 h1 h2
        go_wp2
        go_roundw
        case rel => exact ⟨k + 1, m + m2, by omega, by go_num, by simp only [Hid, allB, HA.out, HV.out, Bool.and_self], rfl⟩
        case measure => simp [intOf]; omega
    · obtain rfl : k = n := by omega
      have e : listB k L B T = decide ((k : Int) ≤ 20) := by unfold listB; rw [HA.out, Bool.and_true]; congr 1; exact propext ⟨fun h => by omega, fun h => by omega⟩
      have HE := Lib.hid e
      clear e
      go_wp2
      go_ret
      exact ⟨by rw [HE.out]; rfl, _, rfl⟩

set_option maxHeartbeats 1000000 in
theorem valid_s (b n c : Nat) (L B T : Nat → Int) (w : World) (hb : b < w.heap.size) (hn : n ≤ maxLen) (hr : Rods w b 0 n L B T) :
    Calls Try.prog 29 #[.slice (some ⟨b, 0, none⟩) n c] w fun e w' => e = .returned (.bool (listB n L B T)) ∧ ∃ m, w' = w.drewN m := by
  have HR := Lib.hid hr
  clear hr
  go_enter Try.func29, Try.ntmps29
  go_wp2_with fail
  refine (ok_s b n c L B T _ hb hn HR.out).mono ?_
  rintro e w' ⟨rfl, m, rfl⟩
  go_wp2
  go_ret
  exact ⟨rfl, _, rfl⟩

set_option maxHeartbeats 1000000 in
theorem valid_i (b n c : Nat) (L B T : Nat → Int) (w : World) (hb : b < w.heap.size) (hn : n ≤ maxLen) (hr : Rods w b 0 n L B T) :
    Calls Try.prog 31 #[.slice (some ⟨b, 0, none⟩) n c] w fun e w' => e = .returned (.bool (listB n L B T)) ∧ Below w.heap.size w w' := by
  unfold maxLen at hn
  have HR := Lib.hid hr
  clear hr
  by_cases hbig : 20 < n
  · have hf : listB n L B T = false := by unfold listB; rw [decide_eq_false (by omega)]; rfl
    rw [hf]
    have hbig' : (20 : Int) < (n : Int) := by omega
    clear hf
    go_enter Try.func31, Try.ntmps31
    go_wp2
    go_ret
    exact ⟨rfl, Below.refl _ _⟩
  have hbig' : ¬ (20 : Int) < (n : Int) := by omega
  have he : listB n L B T = allB L B T n := by unfold listB; rw [decide_eq_true (by omega)]; rfl
  have HE := Lib.hid he
  clear he hbig
  go_enter Try.func31, Try.ntmps31
  go_wp2_with fail
  go_loopw [10] (fun s wr => ∃ k : Nat, k ≤ n ∧ s = .int .i64 k ∧ Hid (allB L B T k = true) ∧ Below w.heap.size w wr) (fun s _ => n - (intOf s).toNat)
  case atStart => exact ⟨0, by omega, rfl, rfl, Below.refl _ _⟩
  case round =>
    obtain ⟨k, hk, rfl, HA, hbl⟩ := hrel
    have hzz := hbl.size
    by_cases hlt : k < n
    · have hlt' : (k : Int) < (n : Int) := by omega
      obtain ⟨h0, h1, h2⟩ := (HR.out.below hbl hb) k hlt
      simp only [Nat.zero_add] at h0 h1 h2
      cases hv : rodB (L k) (B k) (T k)
      · have hf : listB n L B T = false := by rw [HE.out]; exact allB_no hlt hv
        have HF := Lib.hid hf
        clear hf
        go_wp2_with fail
        refine (rod_i (L k) (B k) (T k) _).mono ?_
        rintro e w' ⟨rfl, hb2⟩
        have g2 : Below w.heap.size w w' := Below.trans (by go_grown) (hb2.mono (by simp <;> omega))
        clear hb2 h0 h1 h2
        go_wp2
        go_ret
        exact ⟨by rw [HF.out]; rfl, g2⟩
      · go_wp2_with fail
        refine (rod_i (L k) (B k) (T k) _).mono ?_
        rintro e w' ⟨rfl, hb2⟩
        have g2 : Below w.heap.size w w' := Below.trans (by go_grown) (hb2.mono (by simp <;> omega))
        have HV := Lib.hid hv
        clear hb2 h0 h1 h2
        go_wp2
        go_roundw
        case rel => exact ⟨k + 1, by omega, by go_num, by simp only [Hid, allB, HA.out, HV.out, Bool.and_self], g2⟩
        case measure => simp [intOf]; omega
    · obtain rfl : k = n := by omega
      go_wp2
      go_ret
      exact ⟨by rw [HE.out, HA.out]; rfl, hbl⟩

theorem info_rod : (Try.prog.info? 35).map (fun i => (i.zero, i.size, i.bytes)) = some (some (.agg #[.int .i64 0, .int .i64 0, .int .i64 0]), 3, 24) := by kernel_rfl

set_option maxHeartbeats 1000000 in
theorem toRodS_c (A : Option Addr) (n c : Nat) (X : Nat → Int) (w : World) (hn : n ≤ 1048576) (hs : Sl w A n 3 X) :
    Calls Try.prog 30 #[.slice A n c] w (NewRow w n 35 (n * 3) X) := by
  have hmk := run_make_rows (P := Try.prog) 47 35 _ 3 24 Try.underlying47 info_rod .i64 .i64 n (by omega) (by omega)
  have HS := Lib.hid hs
  clear hs
  go_enter Try.func30, Try.ntmps30
  go_wp2_with fail
  have hO : Own (w.alloc (Obj.cells (madeCells #[Value.int IntKind.i64 0, Value.int IntKind.i64 0, Value.int IntKind.i64 0] (n * 3)) 35)) w.heap.size 35 (n * 3) (fun _ => 0) :=
    own_made w _ _ _ _ (fun i hi => by match i, hi with | 0, _ => rfl | 1, _ => rfl | 2, _ => rfl) (by simp) rfl
  have HO := Lib.hid hO
  clear hO hmk
  go_loopw [4] (fun s wr => ∃ k : Nat, k ≤ n ∧ s = .int .i64 k ∧ Own wr w.heap.size 35 (n * 3) (fun j => if j < k * 3 then X j else 0) ∧ Below w.heap.size w wr) (fun s _ => n - (intOf s).toNat)
  case atStart => exact ⟨0, by omega, rfl, HO.out.congr (fun j _ => by simp), by go_grown⟩
  case round =>
    obtain ⟨k, hk, rfl, hown, hbl⟩ := hrel
    have hzz := hown.lt
    by_cases hlt : k < n
    · have hlt' : (k : Int) < (n : Int) := by omega
      obtain ⟨b, o, rfl, hb, hX⟩ := HS.out (by omega)
      have h0 := (hX.below hbl hb) (k * 3) (by omega)
      have h1 := (hX.below hbl hb) (k * 3 + 1) (by omega)
      have h2 := (hX.below hbl hb) (k * 3 + 2) (by omega)
      simp only [← Nat.add_assoc] at h1 h2
      have HW := Lib.hid hown
      clear hX hown
      go_wp2_with fail
      refine (toRod_c (X (k * 3)) (X (k * 3 + 1)) (X (k * 3 + 2)) _).mono ?_
      rintro e w' ⟨rfl, hb2⟩
      have hz2 := hb2.size
      have g2 : Below w.heap.size w w' := Below.trans hbl (hb2.mono (by omega))
      have o2 : Own w' w.heap.size 35 (n * 3) (fun j => if j < k * 3 then X j else 0) := HW.out.below hb2 (by omega)
      have c0 := o2.cell (j := k * 3) (by omega)
      have c1 := o2.cell (j := k * 3 + 1) (by omega)
      have c2 := o2.cell (j := k * 3 + 2) (by omega)
      have f0 := o2.frozen (k * 3)
      have f1 := o2.frozen (k * 3 + 1)
      have f2 := o2.frozen (k * 3 + 2)
      have HO2 := Lib.hid o2
      clear hb2 h0 h1 h2 o2
      go_wp2
      go_roundw
      case rel =>
        refine ⟨k + 1, by omega, by go_num, ((((HO2.out.set (k * 3) (X (k * 3))).set (k * 3 + 1) (X (k * 3 + 1))).set (k * 3 + 2) (X (k * 3 + 2)))).congr ?_, ?_⟩
        · intro j hj
          by_cases e2 : j = k * 3 + 2
          · subst e2; first | (simp; done) | (simp; omega)
          by_cases e1 : j = k * 3 + 1
          · subst e1; first | (simp; done) | (simp; omega)
          by_cases e0 : j = k * 3
          · subst e0; first | (simp; done) | (simp; omega)
          simp only [e0, e1, e2, if_false]
          by_cases e3 : j < k * 3
          · rw [if_pos e3, if_pos (by omega)]
          · rw [if_neg e3, if_neg (by omega)]
        · exact Below.setCell (Below.setCell (Below.setCell g2 (Nat.le_refl _) _) (Nat.le_refl _) _) (Nat.le_refl _) _
      case measure => simp [intOf]; omega
    · obtain rfl : k = n := by omega
      have HW := Lib.hid hown
      clear hown
      go_wp2
      go_ret
      exact ⟨w.heap.size, rfl, Nat.le_refl _, HW.out.congr (fun j hj => by rw [if_pos hj]), hbl⟩

set_option maxHeartbeats 1000000 in
theorem sz_c (A : Option Addr) (n c : Nat) (w : World) (hn : n ≤ 1048576) :
    Calls Try.prog 28 #[.slice A n c, .int .i64 1048576] w fun e w' => e = .returned (.int .i64 (1048576 - n)) ∧ w = w' := by
  have h : ¬ (1048576 - (n : Int)) < 0 := by omega
  go_enter Try.func28, Try.ntmps28
  go_wp2
  go_ret
  exact ⟨rfl, rfl⟩
set_option maxHeartbeats 1000000 in
theorem sz_big (A : Option Addr) (n c : Nat) (w : World) (hn : 1048576 < n) (hm : n ≤ maxLen) :
    Calls Try.prog 28 #[.slice A n c, .int .i64 1048576] w fun e w' => e = .returned (.int .i64 (-1)) ∧ w = w' := by
  unfold maxLen at hm
  have h : (1048576 - (n : Int)) < 0 := by omega
  go_enter Try.func28, Try.ntmps28
  go_wp2
  go_ret
  exact ⟨rfl, rfl⟩

set_option maxHeartbeats 2000000 in
theorem eqRodS_same (b1 b2 n c1 c2 : Nat) (X : Nat → Int) (w : World) (hn : n ≤ 1048576) (hb1 : b1 < w.heap.size) (hb2 : b2 < w.heap.size) (h1 : Ints w b1 0 (n * 3) X) (h2 : Ints w b2 0 (n * 3) X) :
    Calls Try.prog 32 #[.slice (some ⟨b1, 0, none⟩) n c1, .slice (some ⟨b2, 0, none⟩) n c2] w fun e w' => e = .returned (.bool true) ∧ Below w.heap.size w w' := by
  have H1 := Lib.hid h1
  have H2 := Lib.hid h2
  clear h1 h2
  go_enter Try.func32, Try.ntmps32
  go_wp2_with fail
  go_loopw [5] (fun s wr => ∃ k : Nat, k ≤ n ∧ s = .int .i64 k ∧ Below w.heap.size w wr) (fun s _ => n - (intOf s).toNat)
  case atStart => exact ⟨0, by omega, rfl, Below.refl _ _⟩
  case round =>
    obtain ⟨k, hk, rfl, hbl⟩ := hrel
    have hzz := hbl.size
    by_cases hlt : k < n
    · have hlt' : (k : Int) < (n : Int) := by omega
      have hk0 : (0 : Int) ≤ (k : Int) := by omega
      have p0 := (H1.out.below hbl hb1) (k * 3) (by omega)
      have p1 := (H1.out.below hbl hb1) (k * 3 + 1) (by omega)
      have p2 := (H1.out.below hbl hb1) (k * 3 + 2) (by omega)
      have q0 := (H2.out.below hbl hb2) (k * 3) (by omega)
      have q1 := (H2.out.below hbl hb2) (k * 3 + 1) (by omega)
      have q2 := (H2.out.below hbl hb2) (k * 3 + 2) (by omega)
      simp only [Nat.zero_add, ← Nat.add_assoc] at p0 p1 p2 q0 q1 q2
      go_wp2_with fail
      go_region_held3 (fun x => (x.cell? ⟨b1, k * 3, none⟩ = some (.int .i64 (X (k * 3))) ∧ x.cell? ⟨b1, k * 3 + 1, none⟩ = some (.int .i64 (X (k * 3 + 1))) ∧ x.cell? ⟨b1, k * 3 + 2, none⟩ = some (.int .i64 (X (k * 3 + 2)))) ∧ (x.cell? ⟨b2, k * 3, none⟩ = some (.int .i64 (X (k * 3))) ∧ x.cell? ⟨b2, k * 3 + 1, none⟩ = some (.int .i64 (X (k * 3 + 1))) ∧ x.cell? ⟨b2, k * 3 + 2, none⟩ = some (.int .i64 (X (k * 3 + 2))))) (first | exact ⟨⟨p0, p1, p2⟩, q0, q1, q2⟩ | go_keep)
        (first
          | (go_at_call 27; refine (eqRod_same (X (k * 3)) (X (k * 3 + 1)) (X (k * 3 + 2)) _).mono ?_; rintro e w2 ⟨rfl, hb⟩
             have hz2 := hb.size
             simp at hz2
             have g2 : Below w.heap.size w w2 := Below.trans hbl.drew (hb.mono (by simp <;> omega))
             replace p0 := (H1.out.below g2 hb1) (k * 3) (by omega)
             replace p1 := (H1.out.below g2 hb1) (k * 3 + 1) (by omega)
             replace p2 := (H1.out.below g2 hb1) (k * 3 + 2) (by omega)
             replace q0 := (H2.out.below g2 hb2) (k * 3) (by omega)
             replace q1 := (H2.out.below g2 hb2) (k * 3 + 1) (by omega)
             replace q2 := (H2.out.below g2 hb2) (k * 3 + 2) (by omega)
             simp only [Nat.zero_add, ← Nat.add_assoc] at p0 p1 p2 q0 q1 q2
             clear hb))
      go_wp2
      go_roundw
      case rel => exact ⟨k + 1, by omega, by go_num, g2⟩
      case measure => simp [intOf]; omega
    · obtain rfl : k = n := by omega
      go_wp2
      go_ret
      exact ⟨rfl, hbl⟩

end Go.Proofs.Ytmaakconbaiagaa.rod
