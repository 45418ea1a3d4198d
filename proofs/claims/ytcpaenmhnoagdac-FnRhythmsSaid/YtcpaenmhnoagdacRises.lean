/-
  Contracts of strictly increasing numbers within bounds, of the model's test and of the program's.
-/
import Derived.Test.YtcpaenmhnoagdacIn
import Derived.Test.YtcpaenmhnoagdacNums
namespace Go.Proofs.Ytcpaenmhnoagdac.rod
open Go.ChangeShapes Go.WideShapes Go.ChangeAt Go.RowKit
open Go.Proofs.Ytcpaenmhnoagdac.mem Go.Proofs.Ytcpaenmhnoagdac.nums
set_option linter.unusedVariables false

/-- the number at place n is in bounds and greater than the one before -/
def stepL (lo hi : Int) (Y : Nat → Int) (n : Nat) : Bool := inB (Y n) lo hi && (decide (n = 0) || decide (Y (n - 1) < Y n))
def risL (lo hi : Int) (Y : Nat → Int) : Nat → Bool
  | 0 => true
  | n + 1 => risL lo hi Y n && stepL lo hi Y n
theorem risL_le {lo hi : Int} {Y : Nat → Int} {n : Nat} : ∀ {m : Nat}, m ≤ n → risL lo hi Y n = true → risL lo hi Y m = true := by
  induction n with
  | zero => intro m h k; obtain rfl : m = 0 := by omega
            exact k
  | succ n ih =>
    intro m h k
    by_cases e : m = n + 1
    · subst e; exact k
    · simp only [risL, Bool.and_eq_true] at k
      exact ih (by omega) k.1
theorem risL_no {lo hi : Int} {Y : Nat → Int} {n i : Nat} (hi' : i < n) (h : stepL lo hi Y i = false) : risL lo hi Y n = false := by
  cases e : risL lo hi Y n
  · rfl
  · have := risL_le (m := i + 1) hi' e
    simp only [risL, h, Bool.and_false] at this
    cases this
theorem risL_at {lo hi : Int} {Y : Nat → Int} {n i : Nat} (hi' : i < n) (h : risL lo hi Y n = true) : stepL lo hi Y i = true := by
  have := risL_le (m := i + 1) hi' h
  simp only [risL, Bool.and_eq_true] at this
  exact this.2
theorem risL_in {lo hi : Int} {Y : Nat → Int} {n i : Nat} (hi' : i < n) (h : risL lo hi Y n = true) : lo ≤ Y i ∧ Y i ≤ hi := by
  have := risL_at hi' h
  unfold stepL at this
  simp only [Bool.and_eq_true] at this
  exact inB_of this.1
theorem risL_up {lo hi : Int} {Y : Nat → Int} {n i : Nat} (hi' : i + 1 < n) (h : risL lo hi Y n = true) : Y i < Y (i + 1) := by
  have := risL_at hi' h
  unfold stepL at this
  simp only [Bool.and_eq_true] at this
  have h2 := this.2
  simp at h2
  exact h2
theorem risL_lt {lo hi : Int} {Y : Nat → Int} {n i k : Nat} (hk : k < n) (hik : i < k) (h : risL lo hi Y n = true) : Y i < Y k := by
  induction k with
  | zero => omega
  | succ k ih =>
    have h1 := risL_up (i := k) hk h
    by_cases e : i = k
    · subst e; exact h1
    · have := ih (by omega) (by omega); omega
theorem lim_step {lo hi : Int} {Y : Nat → Int} {k : Nat} {lst : Int} (h : risL lo hi Y k = true) (e : lst = if k = 0 then lo else Y (k - 1) + 1) : inB (Y k) lst hi = stepL lo hi Y k := by
  unfold stepL
  by_cases hk : k = 0
  · rw [if_pos hk] at e
    subst e
    simp [hk]
  · rw [if_neg hk] at e
    have h2 := risL_in (i := k - 1) (by omega) h
    rw [decide_eq_false hk, Bool.false_or]
    subst e
    unfold inB
    rw [← Bool.decide_and]
    congr 1
    exact propext ⟨fun h => ⟨⟨by omega, by omega⟩, by omega⟩, fun h => ⟨by omega, by omega⟩⟩

set_option maxHeartbeats 1000000 in
theorem risesL_s (A : Option Addr) (n c : Nat) (Y : Nat → Int) (lo hi : Int) (w : World) (hn : n ≤ maxLen) (hr : Sl w A n 1 Y) :
    Calls Try.prog 66 #[.slice A n c, .int .i64 lo, .int .i64 hi] w fun e w' => e = .returned (.bool (risL lo hi Y n)) ∧ ∃ m, w' = w.drewN m := by
  unfold maxLen at hn
  have HR := Lib.hid hr
  clear hr
  go_enter Try.func66, Try.ntmps66
  go_wp2_with fail
  go_loopw [7] (fun s wr => ∃ k : Nat, k ≤ n ∧ s = .int .i64 k ∧ Hid (risL lo hi Y k = true) ∧ Drew w wr) (fun s _ => n - (intOf s).toNat)
  case atStart => exact ⟨0, by omega, rfl, rfl, Drew.refl _⟩
  case round =>
    obtain ⟨k, hk, rfl, HA, hd⟩ := hrel
    have HD := Lib.hid hd
    clear hd
    by_cases hlt : k < n
    · have hlt' : (k : Int) < (n : Int) := by omega
      have hk0 : (0 : Int) ≤ (k : Int) := by omega
      obtain ⟨b, o, rfl, hb, hX⟩ := (HD.out.sl HR.out) (by omega)
      have h0 := hX k (by omega)
      cases hv : inB (Y k) lo hi
      · have hf : risL lo hi Y n = false := risL_no hlt (by unfold stepL; rw [hv]; rfl)
        have HF := Lib.hid hf
        clear hf hX
        go_wp2_with fail
        go_quiet ((go_at_call 73; exact Calls.quiet_of_same ((in_s _ _ _ _).mono fun _ _ ⟨p, q⟩ => ⟨p.trans (by rw [hv]), q.symm⟩)))
        go_wp2
        go_ret
        exact ⟨by rw [HF.out]; rfl, HD.out.drewN _⟩
      · by_cases hz : k = 0
        · have hs : stepL lo hi Y k = true := by unfold stepL; rw [hv, hz]; rfl
          have HV := Lib.hid hs
          have hd : decide (0 < k) = false := by simp; omega
          clear hX hs hz
          go_wp2_with fail
          go_quiet ((go_at_call 73; exact Calls.quiet_of_same ((in_s _ _ _ _).mono fun _ _ ⟨p, q⟩ => ⟨p.trans (by rw [hv]), q.symm⟩)))
          go_wp2
          go_roundw
          case rel => exact ⟨k + 1, by omega, by go_num, by simp only [Hid, risL, HA.out, HV.out, Bool.and_self], HD.out.drewN _⟩
          case measure => simp [intOf]; omega
        · have hd : decide (0 < k) = true := by simp; omega
          have w1 : IntKind.i64.wrap ((k : Int) - 1) = (k : Int) - 1 := IntWalk.i64_in _ (by omega)
          have w2 : (0 : Int) ≤ (k : Int) - 1 := by omega
          have w3 : (k : Int) - 1 < (n : Int) := by omega
          have w4 : 1 ≤ (k : Int) := by omega
          have w5 : ((k : Int) - 1).toNat = k - 1 := by omega
          have h1 := hX (k - 1) (by omega)
          clear hX
          have W1 := Lib.hid w1
          cases hc : decide (Y (k - 1) < Y k)
          · have hf : risL lo hi Y n = false := risL_no hlt (by unfold stepL; rw [hv, hc, decide_eq_false hz]; rfl)
            have HF := Lib.hid hf
            have hge : Y k ≤ Y (k - 1) := by simpa using hc
            clear hf hz
            go_wp2_with fail
            go_quiet ((go_at_call 73; exact Calls.quiet_of_same ((in_s _ _ _ _).mono fun _ _ ⟨p, q⟩ => ⟨p.trans (by rw [hv]), q.symm⟩)))
            go_wp2
            go_ret
            exact ⟨by rw [HF.out]; rfl, HD.out.drewN _⟩
          · have hs : stepL lo hi Y k = true := by unfold stepL; rw [hv, hc]; simp
            have HV := Lib.hid hs
            have hge : ¬ Y k ≤ Y (k - 1) := by simpa using hc
            clear hs hz
            go_wp2_with fail
            go_quiet ((go_at_call 73; exact Calls.quiet_of_same ((in_s _ _ _ _).mono fun _ _ ⟨p, q⟩ => ⟨p.trans (by rw [hv]), q.symm⟩)))
            go_wp2
            go_roundw
            case rel => exact ⟨k + 1, by omega, by go_num, by simp only [Hid, risL, HA.out, HV.out, Bool.and_self], HD.out.drewN _⟩
            case measure => simp [intOf]; omega
    · obtain rfl : k = n := by omega
      go_wp2
      go_ret
      exact ⟨by rw [HA.out]; rfl, HD.out⟩

set_option maxHeartbeats 1000000 in
theorem incr_i (A : Option Addr) (n c : Nat) (Y : Nat → Int) (lo hi : Int) (w : World) (hn : n ≤ maxLen) (l0 : -1000000000 ≤ lo) (l1 : lo ≤ 1000000000) (h1 : hi ≤ 1000000000) (hr : Sl w A n 1 Y) :
    Calls Try.prog 61 #[.slice A n c, .int .i64 lo, .int .i64 hi] w fun e w' => e = .returned (.bool (risL lo hi Y n)) ∧ w = w' := by
  unfold maxLen at hn
  have HR := Lib.hid hr
  clear hr
  go_enter Try.func61, Try.ntmps61
  go_wp2_with fail
  go_loop [11, 1] (fun s t => ∃ (k : Nat) (lst : Int), k ≤ n ∧ s = .int .i64 k ∧ t = .int .i64 lst ∧ Hid (risL lo hi Y k = true) ∧ Hid (lst = if k = 0 then lo else Y (k - 1) + 1) ∧ -1000000000 ≤ lst ∧ lst ≤ 1000000001) (fun s _ => n - (intOf s).toNat)
  case atStart => exact ⟨0, lo, by omega, rfl, rfl, rfl, rfl, by omega, by omega⟩
  case round =>
    obtain ⟨k, lst, hk, rfl, rfl, HA, HL, l0, l1⟩ := hrel
    by_cases hlt : k < n
    · have hlt' : (k : Int) < (n : Int) := by omega
      obtain ⟨b, o, rfl, hb, hX⟩ := HR.out (by omega)
      have h0 := hX k (by omega)
      clear hX
      have hq := lim_step HA.out HL.out
      cases hv : inB (Y k) lst hi
      · have hf : risL lo hi Y n = false := risL_no hlt (by rw [← hq, hv])
        have HF := Lib.hid hf
        clear hf hq
        go_wp2_with (go_at_call 71; refine (in_i _ _ _ _).mono ?_; rintro e w' ⟨rfl, rfl⟩)
        go_ret
        exact ⟨by rw [HF.out]; rfl, rfl⟩
      · have HV := Lib.hid (hq.symm.trans hv)
        obtain ⟨y0, y1⟩ := inB_of hv
        clear hq
        go_wp2_with (go_at_call 71; refine (in_i _ _ _ _).mono ?_; rintro e w' ⟨rfl, rfl⟩)
        go_round
        case rel => exact ⟨k + 1, Y k + 1, by omega, by go_num, rfl, by simp only [Hid, risL, HA.out, HV.out, Bool.and_self], by simp [Hid], by omega, by omega⟩
        case measure => simp [intOf]; omega
    · obtain rfl : k = n := by omega
      go_wp2
      go_ret
      exact ⟨by rw [HA.out]; rfl, rfl⟩

end Go.Proofs.Ytcpaenmhnoagdac.rod
