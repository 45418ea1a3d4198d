/-
  Contracts of limits and grades.
-/
import Derived.Test.YtmaakconbaiagabRods
import Derived.Test.YtmaakconbaiagabNums
namespace Go.Proofs.Ytmaakconbaiagab.rod
open Go.ChangeShapes Go.WideShapes Go.ChangeAt Go.RowKit
open Go.Proofs.Ytmaakconbaiagab.mem Go.Proofs.Ytmaakconbaiagab.nums
set_option linter.unusedVariables false

/-- the limit at place n is in bounds and greater than the one before -/
def stepB (Y : Nat → Int) (n : Nat) : Bool := inB (Y n) 100 3000 && (decide (n = 0) || decide (Y (n - 1) < Y n))
def risB (Y : Nat → Int) : Nat → Bool
  | 0 => true
  | n + 1 => risB Y n && stepB Y n
theorem risB_le {Y : Nat → Int} {n : Nat} : ∀ {m : Nat}, m ≤ n → risB Y n = true → risB Y m = true := by
  induction n with
  | zero => intro m h k; obtain rfl : m = 0 := by omega
            exact k
  | succ n ih =>
    intro m h k
    by_cases e : m = n + 1
    · subst e; exact k
    · simp only [risB, Bool.and_eq_true] at k
      exact ih (by omega) k.1
theorem risB_no {Y : Nat → Int} {n i : Nat} (hi : i < n) (h : stepB Y i = false) : risB Y n = false := by
  cases e : risB Y n
  · rfl
  · have := risB_le (m := i + 1) hi e
    simp only [risB, h, Bool.and_false] at this
    cases this
theorem risB_at {Y : Nat → Int} {n i : Nat} (hi : i < n) (h : risB Y n = true) : stepB Y i = true := by
  have := risB_le (m := i + 1) hi h
  simp only [risB, Bool.and_eq_true] at this
  exact this.2
/-- numbers are limits of grades -/
def limB (n : Nat) (Y : Nat → Int) : Bool := decide (n ≤ 8) && risB Y n
theorem limB_of {n : Nat} {Y : Nat → Int} (h : limB n Y = true) : n ≤ 8 ∧ risB Y n = true := by
  unfold limB at h
  simp only [Bool.and_eq_true, decide_eq_true_eq] at h
  exact h

set_option maxHeartbeats 1000000 in
theorem rises_s (A : Option Addr) (n c : Nat) (Y : Nat → Int) (w : World) (hn : n ≤ maxLen) (hr : Sl w A n 1 Y) :
    Calls Try.prog 55 #[.slice A n c, .int .i64 100, .int .i64 3000] w fun e w' => e = .returned (.bool (risB Y n)) ∧ ∃ m, w' = w.drewN m := by
  unfold maxLen at hn
  have HR := Lib.hid hr
  clear hr
  go_enter Try.func55, Try.ntmps55
  go_wp2_with fail
  go_loopw [7] (fun s wr => ∃ k : Nat, k ≤ n ∧ s = .int .i64 k ∧ Hid (risB Y k = true) ∧ Drew w wr) (fun s _ => n - (intOf s).toNat)
  case atStart => exact ⟨0, by omega, rfl, rfl, Drew.refl _⟩
  case round =>
    obtain ⟨k, hk, rfl, HA, hd⟩ := hrel
    have HD := Lib.hid hd
    clear hd
    by_cases hlt : k < n
    · have hlt' : (k : Int) < (n : Int) := by omega
      have hk0 : (0 : Int) ≤ (k : Int) := by omega
      obtain ⟨b, o, rfl, hb, hX⟩ := (HD.out.sl HR.out) (by omega)
      have h0 := hX k (by omega)
      cases hv : inB (Y k) 100 3000
      · have hf : risB Y n = false := risB_no hlt (by unfold stepB; rw [hv]; rfl)
        have HF := Lib.hid hf
        clear hf hX
        go_wp2_with fail
        go_quiet ((go_at_call 51; exact Calls.quiet_of_same ((in_s _ _ _ _).mono fun _ _ ⟨p, q⟩ => ⟨p.trans (by rw [hv]), q.symm⟩)))
        go_wp2
        go_ret
        exact ⟨by rw [HF.out]; rfl, HD.out.drewN _⟩
      · by_cases hz : k = 0
        · have hs : stepB Y k = true := by unfold stepB; rw [hv, hz]; rfl
          have HV := Lib.hid hs
          have hd : decide (0 < k) = false := by simp; omega
          clear hX hs hz
          go_wp2_with fail
          go_quiet ((go_at_call 51; exact Calls.quiet_of_same ((in_s _ _ _ _).mono fun _ _ ⟨p, q⟩ => ⟨p.trans (by rw [hv]), q.symm⟩)))
          go_wp2
          go_roundw
          case rel => exact ⟨k + 1, by omega, by go_num, by simp only [Hid, risB, HA.out, HV.out, Bool.and_self], HD.out.drewN _⟩
          case measure => simp [intOf]; omega
        · have hd : decide (0 < k) = true := by simp; omega
          have w1 : IntKind.i64.wrap ((k : Int) - 1) = (k : Int) - 1 := IntWalk.i64_in _ (by omega)
          have w2 : (0 : Int) ≤ (k : Int) - 1 := by omega
          have w3 : (k : Int) - 1 < (n : Int) := by omega
          have w4 : 1 ≤ (k : Int) := by omega
          have w5 : ((k : Int) - 1).toNat = k - 1 := by omega
          have h1 := hX (k - 1) (by omega)
          clear hX
          have W1 := Lib.hid w1
          cases hc : decide (Y (k - 1) < Y k)
          · have hf : risB Y n = false := risB_no hlt (by unfold stepB; rw [hv, hc, decide_eq_false hz]; rfl)
            have HF := Lib.hid hf
            have hge : Y k ≤ Y (k - 1) := by simpa using hc
            clear hf hz
            go_wp2_with fail
            go_quiet ((go_at_call 51; exact Calls.quiet_of_same ((in_s _ _ _ _).mono fun _ _ ⟨p, q⟩ => ⟨p.trans (by rw [hv]), q.symm⟩)))
            go_wp2
            go_ret
            exact ⟨by rw [HF.out]; rfl, HD.out.drewN _⟩
          · have hs : stepB Y k = true := by unfold stepB; rw [hv, hc]; simp
            have HV := Lib.hid hs
            have hge : ¬ Y k ≤ Y (k - 1) := by simpa using hc
            clear hs hz
            go_wp2_with fail
            go_quiet ((go_at_call 51; exact Calls.quiet_of_same ((in_s _ _ _ _).mono fun _ _ ⟨p, q⟩ => ⟨p.trans (by rw [hv]), q.symm⟩)))
            go_wp2
            go_roundw
            case rel => exact ⟨k + 1, by omega, by go_num, by simp only [Hid, risB, HA.out, HV.out, Bool.and_self], HD.out.drewN _⟩
            case measure => simp [intOf]; omega
    · obtain rfl : k = n := by omega
      go_wp2
      go_ret
      exact ⟨by rw [HA.out]; rfl, HD.out⟩

end Go.Proofs.Ytmaakconbaiagab.rod
