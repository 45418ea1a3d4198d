/-
  A bed in memory: a slice of numbers and an age. Contracts of its validity and of what it yields.
-/
import Derived.Test.YtcpaenmhnoagdacIn
namespace Go.Proofs.Ytcpaenmhnoagdac.rod
open Go.ChangeShapes Go.WideShapes Go.ChangeAt Go.RowKit Go.Proofs.Ytcpaenmhnoagdac.mem
set_option linter.unusedVariables false

/-- a bed lies in two cells from offset o of block b on: a slice of m numbers, nil or not, and an age -/
def BedAt (w : World) (b o m : Nat) (Y : Nat → Int) (a : Int) : Prop :=
  (∃ A c, w.cell? ⟨b, o, none⟩ = some (.slice A m c) ∧ Sl w A m 1 Y) ∧ w.cell? ⟨b, o + 1, none⟩ = some (.int .i64 a)
theorem BedAt.below {w w' : World} {b o m : Nat} {Y : Nat → Int} {a : Int} (h : BedAt w b o m Y a) (hb : Below w.heap.size w w') (hlt : b < w.heap.size) : BedAt w' b o m Y a := by
  obtain ⟨⟨A, c, h0, hs⟩, h1⟩ := h
  exact ⟨⟨A, c, (hb.cell (p := ⟨b, o, none⟩) hlt).trans h0, hs.below hb (Nat.le_refl _)⟩, (hb.cell (p := ⟨b, o + 1, none⟩) hlt).trans h1⟩
theorem BedAt.drew {w w' : World} {b o m : Nat} {Y : Nat → Int} {a : Int} (d : Drew w w') (h : BedAt w b o m Y a) : BedAt w' b o m Y a := by obtain ⟨k, rfl⟩ := d; exact h

/-- the first n numbers are yields -/
def allY (Y : Nat → Int) : Nat → Bool
  | 0 => true
  | n + 1 => allY Y n && inB (Y n) 0 10000
theorem allY_le {Y : Nat → Int} {n : Nat} : ∀ {m : Nat}, m ≤ n → allY Y n = true → allY Y m = true := by
  induction n with
  | zero => intro m h k; obtain rfl : m = 0 := by omega
            exact k
  | succ n ih =>
    intro m h k
    by_cases e : m = n + 1
    · subst e; exact k
    · simp only [allY, Bool.and_eq_true] at k
      exact ih (by omega) k.1
theorem allY_no {Y : Nat → Int} {n i : Nat} (hi : i < n) (h : inB (Y i) 0 10000 = false) : allY Y n = false := by
  cases e : allY Y n
  · rfl
  · have := allY_le (m := i + 1) hi e
    simp only [allY, h, Bool.and_false] at this
    cases this
theorem allY_at {Y : Nat → Int} {n i : Nat} (hi : i < n) (h : allY Y n = true) : 0 ≤ Y i ∧ Y i ≤ 10000 := by
  have := allY_le (m := i + 1) hi h
  simp only [allY, Bool.and_eq_true] at this
  exact inB_of this.2
/-- a bed is valid -/
def bedB (m : Nat) (Y : Nat → Int) (a : Int) : Bool := allY Y m && (inB m 1 5 && inB a 0 m)
theorem bedB_of {m : Nat} {Y : Nat → Int} {a : Int} (h : bedB m Y a = true) : (1 ≤ m ∧ m ≤ 5) ∧ (0 ≤ a ∧ a ≤ m) ∧ ∀ i, i < m → 0 ≤ Y i ∧ Y i ≤ 10000 := by
  unfold bedB at h
  simp only [Bool.and_eq_true] at h
  obtain ⟨h1, h2, h3⟩ := h
  have a1 := inB_of h2
  have a2 := inB_of h3
  exact ⟨by omega, a2, fun i hi => allY_at hi h1⟩

set_option maxHeartbeats 2000000 in
theorem bedOne_s (b o m : Nat) (Y : Nat → Int) (a : Int) (w : World) (hm : m ≤ maxLen) (h : BedAt w b o m Y a) :
    Calls Try.prog 56 #[.pointer (some ⟨b, o, none⟩)] w fun e w' => e = .returned (.bool (bedB m Y a)) ∧ ∃ n, w' = w.drewN n := by
  unfold maxLen at hm
  have HB := Lib.hid h
  clear h
  go_enter Try.func56, Try.ntmps56
  go_wp2_with fail
  go_loopw [3] (fun s wr => ∃ k : Nat, k ≤ m ∧ s = .int .i64 k ∧ Hid (allY Y k = true) ∧ Drew w wr) (fun s _ => m - (intOf s).toNat)
  case atStart => exact ⟨0, by omega, rfl, rfl, Drew.refl _⟩
  case round =>
    obtain ⟨k, hk, rfl, HA, hd⟩ := hrel
    have HD := Lib.hid hd
    clear hd
    obtain ⟨⟨A, c, c0, hs⟩, c1⟩ := HB.out.drew HD.out
    have HS := Lib.hid hs
    clear hs
    by_cases hlt : k < m
    · have hlt' : (k : Int) < (m : Int) := by omega
      have hk0 : (0 : Int) ≤ (k : Int) := by omega
      obtain ⟨b2, o2, rfl, hb, hX⟩ := HS.out (by omega)
      have h0 := hX k (by omega)
      clear hX
      cases hv : inB (Y k) 0 10000
      · have hf : bedB m Y a = false := by unfold bedB; rw [allY_no hlt hv]; rfl
        have HF := Lib.hid hf
        clear hf
        go_wp2_with (go_at_call 73; refine (in_s _ _ _ _).mono ?_; rintro e w' ⟨rfl, rfl⟩)
        go_ret
        exact ⟨by rw [HF.out]; rfl, HD.out⟩
      · have HV := Lib.hid hv
        go_wp2_with (go_at_call 73; refine (in_s _ _ _ _).mono ?_; rintro e w' ⟨rfl, rfl⟩)
        go_roundw
        case rel => exact ⟨k + 1, by omega, by go_num, by simp only [Hid, allY, HA.out, HV.out, Bool.and_self], HD.out⟩
        case measure => simp [intOf]; omega
    · obtain rfl : k = m := by omega
      have he : bedB k Y a = (inB k 1 5 && inB a 0 k) := by unfold bedB; rw [HA.out]; rfl
      have HE := Lib.hid he
      clear he
      cases h1 : inB k 1 5
      · go_wp2_with (go_at_call 73; refine (in_s _ _ _ _).mono ?_; rintro e w' ⟨rfl, rfl⟩)
        go_ret
        exact ⟨by rw [HE.out, h1]; rfl, HD.out⟩
      · go_wp2_with (go_at_call 73; refine (in_s _ _ _ _).mono ?_; rintro e w' ⟨rfl, rfl⟩)
        go_ret
        exact ⟨by rw [HE.out, h1]; rfl, HD.out⟩

set_option maxHeartbeats 2000000 in
theorem bedOne_i (A : Option Addr) (m c : Nat) (Y : Nat → Int) (a : Int) (w : World) (hm : m ≤ maxLen) (h : Sl w A m 1 Y) :
    Calls Try.prog 53 #[.agg #[.slice A m c, .int .i64 a]] w fun e w' => e = .returned (.bool (bedB m Y a)) ∧ Below w.heap.size w w' := by
  unfold maxLen at hm
  have HS := Lib.hid h
  clear h
  cases h1 : inB m 1 5
  · have he : bedB m Y a = false := by unfold bedB; rw [h1]; simp
    rw [he]
    clear he
    go_enter Try.func53, Try.ntmps53
    go_wp2_with (go_at_call 71; refine (in_i _ _ _ _).mono ?_; rintro e w' ⟨rfl, rfl⟩)
    go_ret
    exact ⟨rfl, by go_grown⟩
  · cases h2 : inB a 0 m
    · have he : bedB m Y a = false := by unfold bedB; rw [h2]; simp
      rw [he]
      clear he
      go_enter Try.func53, Try.ntmps53
      go_wp2_with (go_at_call 71; refine (in_i _ _ _ _).mono ?_; rintro e w' ⟨rfl, rfl⟩)
      go_ret
      exact ⟨rfl, by go_grown⟩
    · have he : bedB m Y a = allY Y m := by unfold bedB; rw [h1, h2]; simp
      rw [he]
      clear he
      go_enter Try.func53, Try.ntmps53
      go_wp2_with (go_at_call 71; refine (in_i _ _ _ _).mono ?_; rintro e w' ⟨rfl, rfl⟩)
      go_loopw [22] (fun s wr => ∃ k : Nat, k ≤ m ∧ s = .int .i64 k ∧ Hid (allY Y k = true) ∧ Below w.heap.size w wr) (fun s _ => m - (intOf s).toNat)
      case atStart => exact ⟨0, by omega, rfl, rfl, by go_grown⟩
      case round =>
        obtain ⟨k, hk, rfl, HA, hbl⟩ := hrel
        have hzz := hbl.size
        by_cases hlt : k < m
        · have hlt' : (k : Int) < (m : Int) := by omega
          obtain ⟨b, o, rfl, hb, hX⟩ := HS.out (by omega)
          have h0 := hX.below hbl hb k (by omega)
          clear hX
          cases hv : inB (Y k) 0 10000
          · have HF := Lib.hid (allY_no hlt hv)
            go_wp2_with (go_at_call 71; refine (in_i _ _ _ _).mono ?_; rintro e w' ⟨rfl, rfl⟩)
            go_ret
            exact ⟨by rw [HF.out]; rfl, hbl⟩
          · have HV := Lib.hid hv
            go_wp2_with (go_at_call 71; refine (in_i _ _ _ _).mono ?_; rintro e w' ⟨rfl, rfl⟩)
            go_roundw
            case rel => exact ⟨k + 1, by omega, by go_num, by simp only [Hid, allY, HA.out, HV.out, Bool.and_self], hbl⟩
            case measure => simp [intOf]; omega
        · obtain rfl : k = m := by omega
          go_wp2
          go_ret
          exact ⟨by rw [HA.out]; rfl, hbl⟩

end Go.Proofs.Ytcpaenmhnoagdac.rod
