/-
  Contracts: is a list of batches valid? Of the model and of the program. LatestStart.
-/
import Derived.Test.YtcpaenmhnoagdacFBatch
import Derived.Test.YtcpaenmhnoagdacBatM
namespace Go.Proofs.Ytcpaenmhnoagdac.rod
open Go.ChangeShapes Go.WideShapes Go.ChangeAt Go.RowKit Go.Proofs.Ytcpaenmhnoagdac.mem
set_option linter.unusedVariables false

theorem hours_s (n : Int) (w : World) :
    Calls Try.prog 116 #[.int .i64 n] w fun e w' => e = .returned (.bool (inB n 1 500)) ∧ w = w' := by
  go_enter Try.func116, Try.ntmps116
  go_wp2_with (go_at_call 73; refine (in_s _ _ _ _).mono ?_; rintro e w' ⟨rfl, rfl⟩)
  go_ret
  exact ⟨rfl, rfl⟩
theorem hour_s (n : Int) (w : World) :
    Calls Try.prog 87 #[.int .i64 n] w fun e w' => e = .returned (.bool (inB n 0 10000)) ∧ w = w' := by
  go_enter Try.func87, Try.ntmps87
  go_wp2_with (go_at_call 73; refine (in_s _ _ _ _).mono ?_; rintro e w' ⟨rfl, rfl⟩)
  go_ret
  exact ⟨rfl, rfl⟩

set_option maxHeartbeats 1000000 in
theorem bat_i (S K P B : Int) (w : World) :
    Calls Try.prog 85 #[.agg #[.int .i64 S, .int .i64 K, .int .i64 P, .int .i64 B]] w fun e w' => e = .returned (.bool (batB S K P B)) ∧ Below w.heap.size w w' := by
  unfold batB
  cases h1 : inB S 0 5000
  · go_enter Try.func85, Try.ntmps85
    go_wp2_with (go_at_call 71; refine (in_i _ _ _ _).mono ?_; rintro e w' ⟨rfl, rfl⟩)
    go_ret
    exact ⟨rfl, by go_grown⟩
  cases h2 : inB K 1 500
  · go_enter Try.func85, Try.ntmps85
    go_wp2_with (go_at_call 71; refine (in_i _ _ _ _).mono ?_; rintro e w' ⟨rfl, rfl⟩)
    go_ret
    exact ⟨rfl, by go_grown⟩
  cases h3 : inB P 1 500
  · go_enter Try.func85, Try.ntmps85
    go_wp2_with (go_at_call 71; refine (in_i _ _ _ _).mono ?_; rintro e w' ⟨rfl, rfl⟩)
    go_ret
    exact ⟨rfl, by go_grown⟩
  cases h4 : inB B 1 100
  all_goals
    go_enter Try.func85, Try.ntmps85
    go_wp2_with (go_at_call 71; refine (in_i _ _ _ _).mono ?_; rintro e w' ⟨rfl, rfl⟩)
    go_ret
    exact ⟨rfl, by go_grown⟩

set_option maxHeartbeats 1000000 in
theorem okT_s (A : Option Addr) (n c : Nat) (X : Nat → Int) (w : World) (hn : n ≤ maxLen) (hr : Sl w A n 4 X) :
    Calls Try.prog 82 #[.slice A n c] w fun e w' => e = .returned (.bool (listT n X)) ∧ Below w.heap.size w w' := by
  unfold maxLen at hn
  have HR := Lib.hid hr
  clear hr
  go_enter Try.func82, Try.ntmps82
  go_wp2_with fail
  go_outline
  go_loopw [3] (fun s wr => ∃ k : Nat, k ≤ n ∧ s = .int .i64 k ∧ Hid (allT X k = true) ∧ Below w.heap.size w wr) (fun s _ => n - (intOf s).toNat)
  case atStart => exact ⟨0, by omega, rfl, rfl, Below.refl _ _⟩
  case round =>
    obtain ⟨k, hk, rfl, HA, hbl⟩ := hrel
    have hzz := hbl.size
    by_cases hlt : k < n
    · have hlt' : (k : Int) < (n : Int) := by omega
      obtain ⟨b, o, rfl, hb, hX⟩ := HR.out (by omega)
      have h0 := hX.below hbl hb (k * 4) (by omega)
      have h1 := hX.below hbl hb (k * 4 + 1) (by omega)
      have h2 := hX.below hbl hb (k * 4 + 2) (by omega)
      have h3 := hX.below hbl hb (k * 4 + 3) (by omega)
      simp only [← Nat.add_assoc] at h1 h2 h3
      clear hX
      cases hv : batA X k
      · have HF := Lib.hid (show listT n X = false by unfold listT; rw [allT_no hlt hv]; simp)
        unfold batA batB at hv
        cases i1 : inB (X (k * 4)) 0 5000
        · clear hv
          go_wp2_with (first | (go_at_call 73; refine (in_s _ _ _ _).mono ?_; rintro e w' ⟨rfl, rfl⟩) | (go_at_call 116; refine (hours_s _ _).mono ?_; rintro e w' ⟨rfl, rfl⟩))
          go_ret
          exact ⟨by rw [HF.out]; rfl, by go_grown⟩
        cases i2 : inB (X (k * 4 + 1)) 1 500
        · clear hv
          go_wp2_with (first | (go_at_call 73; refine (in_s _ _ _ _).mono ?_; rintro e w' ⟨rfl, rfl⟩) | (go_at_call 116; refine (hours_s _ _).mono ?_; rintro e w' ⟨rfl, rfl⟩))
          go_ret
          exact ⟨by rw [HF.out]; rfl, by go_grown⟩
        cases i3 : inB (X (k * 4 + 2)) 1 500
        · clear hv
          go_wp2_with (first | (go_at_call 73; refine (in_s _ _ _ _).mono ?_; rintro e w' ⟨rfl, rfl⟩) | (go_at_call 116; refine (hours_s _ _).mono ?_; rintro e w' ⟨rfl, rfl⟩))
          go_ret
          exact ⟨by rw [HF.out]; rfl, by go_grown⟩
        cases i4 : inB (X (k * 4 + 3)) 1 100
        · clear hv
          go_wp2_with (first | (go_at_call 73; refine (in_s _ _ _ _).mono ?_; rintro e w' ⟨rfl, rfl⟩) | (go_at_call 116; refine (hours_s _ _).mono ?_; rintro e w' ⟨rfl, rfl⟩))
          go_ret
          exact ⟨by rw [HF.out]; rfl, by go_grown⟩
        · rw [i1, i2, i3, i4] at hv; cases hv
      · have HV := Lib.hid hv
        unfold batA batB at hv
        simp only [Bool.and_eq_true] at hv
        obtain ⟨i1, i2, i3, i4⟩ := hv
        go_wp2_with (first | (go_at_call 73; refine (in_s _ _ _ _).mono ?_; rintro e w' ⟨rfl, rfl⟩) | (go_at_call 116; refine (hours_s _ _).mono ?_; rintro e w' ⟨rfl, rfl⟩))
        go_roundw
        case rel => exact ⟨k + 1, by omega, by go_num, by simp only [Hid, allT, HA.out, HV.out, Bool.and_self], by go_grown⟩
        case measure => simp [intOf]; omega
    · obtain rfl : k = n := by omega
      have HE := Lib.hid (show listT k X = decide ((k : Int) ≤ 10) by unfold listT; rw [HA.out, Bool.and_true]; congr 1; exact propext ⟨fun h => by omega, fun h => by omega⟩)
      go_wp2
      go_ret
      exact ⟨by rw [HE.out]; rfl, hbl⟩

set_option maxHeartbeats 1000000 in
theorem validT_s (A : Option Addr) (n c : Nat) (X : Nat → Int) (w : World) (hn : n ≤ maxLen) (hr : Sl w A n 4 X) :
    Calls Try.prog 29 #[.slice A n c] w fun e w' => e = .returned (.bool (listT n X)) ∧ Below w.heap.size w w' := by
  have HR := Lib.hid hr
  clear hr
  go_enter Try.func29, Try.ntmps29
  go_wp2_with fail
  refine (okT_s A n c X _ hn HR.out).mono ?_
  rintro e w' ⟨rfl, hb⟩
  go_wp2
  go_ret
  exact ⟨rfl, hb⟩

set_option maxHeartbeats 1000000 in
theorem areT_i (A : Option Addr) (n c : Nat) (X : Nat → Int) (w : World) (hn : n ≤ maxLen) (hr : Sl w A n 4 X) :
    Calls Try.prog 84 #[.slice A n c, .int .i64 10, .func (.func 85) #[] #[]] w fun e w' => e = .returned (.bool (listT n X)) ∧ Below w.heap.size w w' := by
  unfold maxLen at hn
  have HR := Lib.hid hr
  clear hr
  by_cases hbig : 10 < n
  · have hf : listT n X = false := by unfold listT; rw [decide_eq_false (by omega)]; rfl
    rw [hf]
    have hbig' : (10 : Int) < (n : Int) := by omega
    clear hf
    go_enter Try.func84, Try.ntmps84
    go_wp2
    go_ret
    exact ⟨rfl, by go_grown⟩
  have hbig' : ¬ (10 : Int) < (n : Int) := by omega
  have HE := Lib.hid (show listT n X = allT X n by unfold listT; rw [decide_eq_true (by omega)]; rfl)
  clear hbig
  go_enter Try.func84, Try.ntmps84
  go_wp2_with fail
  go_outline
  go_loopw [15] (fun s wr => ∃ k : Nat, k ≤ n ∧ s = .int .i64 k ∧ Hid (allT X k = true) ∧ Below w.heap.size w wr) (fun s _ => n - (intOf s).toNat)
  case atStart => exact ⟨0, by omega, rfl, rfl, by go_grown⟩
  case round =>
    obtain ⟨k, hk, rfl, HA, hbl⟩ := hrel
    have hzz := hbl.size
    by_cases hlt : k < n
    · have hlt' : (k : Int) < (n : Int) := by omega
      obtain ⟨b, o, rfl, hb, hX⟩ := HR.out (by omega)
      have h0 := hX.below hbl hb (k * 4) (by omega)
      have h1 := hX.below hbl hb (k * 4 + 1) (by omega)
      have h2 := hX.below hbl hb (k * 4 + 2) (by omega)
      have h3 := hX.below hbl hb (k * 4 + 3) (by omega)
      simp only [← Nat.add_assoc] at h1 h2 h3
      clear hX
      cases hv : batA X k
      · have HF := Lib.hid (show listT n X = false by rw [HE.out]; exact allT_no hlt hv)
        unfold batA at hv
        go_wp2_with fail
        refine (bat_i (X (k * 4)) (X (k * 4 + 1)) (X (k * 4 + 2)) (X (k * 4 + 3)) _).mono ?_
        rintro e w' ⟨rfl, hb2⟩
        have g2 : Below w.heap.size w w' := Below.trans (by go_grown) (hb2.mono (by simp <;> omega))
        clear hb2 h0 h1 h2 h3
        go_wp2
        go_ret
        exact ⟨by rw [HF.out]; rfl, g2⟩
      · have HV := Lib.hid hv
        unfold batA at hv
        go_wp2_with fail
        refine (bat_i (X (k * 4)) (X (k * 4 + 1)) (X (k * 4 + 2)) (X (k * 4 + 3)) _).mono ?_
        rintro e w' ⟨rfl, hb2⟩
        have g2 : Below w.heap.size w w' := Below.trans (by go_grown) (hb2.mono (by simp <;> omega))
        clear hb2 h0 h1 h2 h3
        go_wp2
        go_roundw
        case rel => exact ⟨k + 1, by omega, by go_num, by simp only [Hid, allT, HA.out, HV.out, Bool.and_self], g2⟩
        case measure => simp [intOf]; omega
    · obtain rfl : k = n := by omega
      go_wp2
      go_ret
      exact ⟨by rw [HE.out, HA.out]; rfl, hbl⟩

theorem validT_i (A : Option Addr) (n c : Nat) (X : Nat → Int) (w : World) (hn : n ≤ maxLen) (hr : Sl w A n 4 X) :
    Calls Try.prog 31 #[.slice A n c] w fun e w' => e = .returned (.bool (listT n X)) ∧ Below w.heap.size w w' := by
  have HR := Lib.hid hr
  clear hr
  go_enter Try.func31, Try.ntmps31
  go_wp2_with fail
  refine (areT_i A n c X _ hn HR.out).mono ?_
  rintro e w' ⟨rfl, hb⟩
  go_wp2
  go_ret
  exact ⟨rfl, hb⟩

/-- the latest start, and its code -/
def latest (s p h : Int) : Int × Int := if inB h 0 10000 && (inB s 1 500 && inB p 1 500) then (if h < s then (0, 3) else (h - s, 0)) else (0, 2)

set_option maxHeartbeats 1000000 in
theorem latest_i (s p h : Int) (w : World) :
    Calls Try.prog 50 #[.int .i64 s, .int .i64 p, .int .i64 h] w fun e w' => e = .returned (.tuple #[.int .i64 (latest s p h).1, .int .i64 (latest s p h).2]) ∧ Below w.heap.size w w' := by
  cases h1 : inB h 0 10000 <;> cases h2 : inB s 1 500 <;> cases h3 : inB p 1 500
  case true.true.true =>
    have b1 := inB_of h1
    have b2 := inB_of h2
    by_cases hlt : h < s
    · have HE := Lib.hid (show latest s p h = (0, 3) by unfold latest; rw [h1, h2, h3]; simp [hlt])
      go_enter Try.func50, Try.ntmps50
      go_wp2_with (go_at_call 71; refine (in_i _ _ _ _).mono ?_; rintro e w' ⟨rfl, rfl⟩)
      go_ret2
      exact ⟨by rw [HE.out]; rfl, Below.refl _ _⟩
    · have HE := Lib.hid (show latest s p h = (h - s, 0) by unfold latest; rw [h1, h2, h3]; simp [hlt])
      go_enter Try.func50, Try.ntmps50
      go_wp2_with (go_at_call 71; refine (in_i _ _ _ _).mono ?_; rintro e w' ⟨rfl, rfl⟩)
      go_ret2
      exact ⟨by rw [HE.out]; rfl, Below.refl _ _⟩
  all_goals
    have HE := Lib.hid (show latest s p h = (0, 2) by unfold latest; rw [h1, h2, h3]; rfl)
    go_enter Try.func50, Try.ntmps50
    go_wp2_with (go_at_call 71; refine (in_i _ _ _ _).mono ?_; rintro e w' ⟨rfl, rfl⟩)
    go_ret2
    exact ⟨by rw [HE.out]; rfl, Below.refl _ _⟩

end Go.Proofs.Ytcpaenmhnoagdac.rod
