/-
  Contracts of the validity of lists of beds, of the model and of the program.
-/
import Derived.Test.YtcpaenmhnoagdacBeds
namespace Go.Proofs.Ytcpaenmhnoagdac.rod
open Go.ChangeShapes Go.WideShapes Go.ChangeAt Go.RowKit Go.Proofs.Ytcpaenmhnoagdac.mem Go.Proofs.Ytcpaenmhnoagdac.nums
set_option linter.unusedVariables false

/-- all of the first n beds are valid -/
def allBd (M : Nat → Nat) (Y : Nat → Nat → Int) (G : Nat → Int) : Nat → Bool
  | 0 => true
  | n + 1 => allBd M Y G n && bedB (M n) (Y n) (G n)
theorem allBd_le {M : Nat → Nat} {Y : Nat → Nat → Int} {G : Nat → Int} {n : Nat} : ∀ {m : Nat}, m ≤ n → allBd M Y G n = true → allBd M Y G m = true := by
  induction n with
  | zero => intro m h k; obtain rfl : m = 0 := by omega
            exact k
  | succ n ih =>
    intro m h k
    by_cases e : m = n + 1
    · subst e; exact k
    · simp only [allBd, Bool.and_eq_true] at k
      exact ih (by omega) k.1
theorem allBd_at {M : Nat → Nat} {Y : Nat → Nat → Int} {G : Nat → Int} {n i : Nat} (h : allBd M Y G n = true) (hi : i < n) : bedB (M i) (Y i) (G i) = true := by
  have := allBd_le (m := i + 1) hi h
  simp only [allBd, Bool.and_eq_true] at this
  exact this.2
theorem allBd_no {M : Nat → Nat} {Y : Nat → Nat → Int} {G : Nat → Int} {n i : Nat} (hi : i < n) (h : bedB (M i) (Y i) (G i) = false) : allBd M Y G n = false := by
  cases e : allBd M Y G n
  · rfl
  · rw [allBd_at e hi] at h; cases h
/-- a list of beds is valid -/
def bedsB (n : Nat) (M : Nat → Nat) (Y : Nat → Nat → Int) (G : Nat → Int) : Bool := decide (n ≤ 8) && allBd M Y G n
theorem bedsB_of {n : Nat} {M : Nat → Nat} {Y : Nat → Nat → Int} {G : Nat → Int} (h : bedsB n M Y G = true) : n ≤ 8 ∧ ∀ i, i < n → bedB (M i) (Y i) (G i) = true := by
  unfold bedsB at h
  simp only [Bool.and_eq_true, decide_eq_true_eq] at h
  exact ⟨h.1, fun i hi => allBd_at h.2 hi⟩

set_option maxHeartbeats 2000000 in
theorem bedsOk_s (A : Option Addr) (n c : Nat) (M : Nat → Nat) (Y : Nat → Nat → Int) (G : Nat → Int) (w : World) (hn : n ≤ maxLen) (hM : ∀ j, j < n → M j ≤ maxLen) (hs : Beds w A n M Y G) :
    Calls Try.prog 65 #[.slice A n c] w fun e w' => e = .returned (.bool (bedsB n M Y G)) ∧ ∃ m, w' = w.drewN m := by
  unfold maxLen at hn
  have HR := Lib.hid hs
  have HM := Lib.hid hM
  clear hs hM
  go_enter Try.func65, Try.ntmps65
  go_wp2_with fail
  go_loopw [3] (fun s wr => ∃ k m : Nat, k ≤ n ∧ s = .int .i64 k ∧ Hid (allBd M Y G k = true) ∧ wr = w.drewN m) (fun s _ => n - (intOf s).toNat)
  case atStart => exact ⟨0, 0, by omega, rfl, rfl, rfl⟩
  case round =>
    obtain ⟨k, m, hk, rfl, HA, rfl⟩ := hrel
    by_cases hlt : k < n
    · have hlt' : (k : Int) < (n : Int) := by omega
      obtain ⟨b, o, rfl, hb, hX⟩ := HR.out (by omega)
      have HB := Lib.hid (BedAt.drew ⟨m, rfl⟩ (hX k hlt))
      clear hX
      cases hv : bedB (M k) (Y k) (G k)
      · have hf : bedsB n M Y G = false := by unfold bedsB; rw [allBd_no hlt hv]; simp
        have HF := Lib.hid hf
        clear hf
        go_wp2_with fail
        refine (bedOne_s b (o + k * 2) (M k) (Y k) (G k) _ (HM.out k hlt) HB.out).mono ?_
        rintro e w' ⟨rfl, m2, rfl⟩
        rw [hv]
        go_wp2
        go_ret
        exact ⟨by rw [HF.out]; rfl, _, rfl⟩
      · have HV := Lib.hid hv
        go_wp2_with fail
        refine (bedOne_s b (o + k * 2) (M k) (Y k) (G k) _ (HM.out k hlt) HB.out).mono ?_
        rintro e w' ⟨rfl, m2, rfl⟩
        rw [HV.out]
        go_wp2
        go_roundw
        case rel => exact ⟨k + 1, m + m2, by omega, by go_num, by simp only [Hid, allBd, HA.out, HV.out, Bool.and_self], rfl⟩
        case measure => simp [intOf]; omega
    · obtain rfl : k = n := by omega
      have e : bedsB k M Y G = decide ((k : Int) ≤ 8) := by unfold bedsB; rw [HA.out, Bool.and_true]; congr 1; exact propext ⟨fun h => by omega, fun h => by omega⟩
      have HE := Lib.hid e
      clear e
      go_wp2
      go_ret
      exact ⟨by rw [HE.out]; rfl, _, rfl⟩

set_option maxHeartbeats 2000000 in
theorem areBeds_i (A : Option Addr) (n c : Nat) (M : Nat → Nat) (Y : Nat → Nat → Int) (G : Nat → Int) (w : World) (hn : n ≤ maxLen) (hM : ∀ j, j < n → M j ≤ maxLen) (hs : Beds w A n M Y G) :
    Calls Try.prog 104 #[.slice A n c, .int .i64 8, .func (.func 53) #[] #[]] w fun e w' => e = .returned (.bool (bedsB n M Y G)) ∧ Below w.heap.size w w' := by
  unfold maxLen at hn
  have HR := Lib.hid hs
  have HM := Lib.hid hM
  clear hs hM
  by_cases hbig : 8 < n
  · have hf : bedsB n M Y G = false := by unfold bedsB; rw [decide_eq_false (by omega)]; rfl
    rw [hf]
    have hbig' : (8 : Int) < (n : Int) := by omega
    clear hf
    go_enter Try.func104, Try.ntmps104
    go_wp2
    go_ret
    exact ⟨rfl, by go_grown⟩
  have hbig' : ¬ (8 : Int) < (n : Int) := by omega
  have he : bedsB n M Y G = allBd M Y G n := by unfold bedsB; rw [decide_eq_true (by omega)]; rfl
  have HE := Lib.hid he
  clear he hbig
  go_enter Try.func104, Try.ntmps104
  go_wp2_with fail
  go_loopw [15] (fun s wr => ∃ k : Nat, k ≤ n ∧ s = .int .i64 k ∧ Hid (allBd M Y G k = true) ∧ Below w.heap.size w wr) (fun s _ => n - (intOf s).toNat)
  case atStart => exact ⟨0, by omega, rfl, rfl, by go_grown⟩
  case round =>
    obtain ⟨k, hk, rfl, HA, hbl⟩ := hrel
    have hzz := hbl.size
    by_cases hlt : k < n
    · have hlt' : (k : Int) < (n : Int) := by omega
      obtain ⟨b, o, rfl, hb, hX⟩ := HR.out (by omega)
      obtain ⟨⟨A0, c0, h0, hs0⟩, h1⟩ := hX k hlt
      have g0 := (hbl.cell (p := ⟨b, o + k * 2, none⟩) hb).trans h0
      have g1 := (hbl.cell (p := ⟨b, o + k * 2 + 1, none⟩) hb).trans h1
      have HS0 := Lib.hid (hs0.below hbl (Nat.le_refl _))
      clear hX h0 h1 hs0
      cases hv : bedB (M k) (Y k) (G k)
      · have hf : bedsB n M Y G = false := by rw [HE.out]; exact allBd_no hlt hv
        have HF := Lib.hid hf
        clear hf
        go_wp2_with fail
        refine (bedOne_i A0 (M k) c0 (Y k) (G k) _ (HM.out k hlt) (HS0.out.below (K := wr.heap.size) (by go_grown) (Nat.le_refl _))).mono ?_
        rintro e w' ⟨rfl, hb2⟩
        rw [hv]
        have g2 : Below w.heap.size w w' := Below.trans (by go_grown) (hb2.mono (by simp <;> omega))
        clear hb2 g0 g1
        go_wp2
        go_ret
        exact ⟨by rw [HF.out]; rfl, g2⟩
      · have HV := Lib.hid hv
        go_wp2_with fail
        refine (bedOne_i A0 (M k) c0 (Y k) (G k) _ (HM.out k hlt) (HS0.out.below (K := wr.heap.size) (by go_grown) (Nat.le_refl _))).mono ?_
        rintro e w' ⟨rfl, hb2⟩
        rw [HV.out]
        have g2 : Below w.heap.size w w' := Below.trans (by go_grown) (hb2.mono (by simp <;> omega))
        clear hb2 g0 g1
        go_wp2
        go_roundw
        case rel => exact ⟨k + 1, by omega, by go_num, by simp only [Hid, allBd, HA.out, HV.out, Bool.and_self], g2⟩
        case measure => simp [intOf]; omega
    · obtain rfl : k = n := by omega
      go_wp2
      go_ret
      exact ⟨by rw [HE.out, HA.out]; rfl, hbl⟩

theorem validBeds_i (A : Option Addr) (n c : Nat) (M : Nat → Nat) (Y : Nat → Nat → Int) (G : Nat → Int) (w : World) (hn : n ≤ maxLen) (hM : ∀ j, j < n → M j ≤ maxLen) (hs : Beds w A n M Y G) :
    Calls Try.prog 60 #[.slice A n c] w fun e w' => e = .returned (.bool (bedsB n M Y G)) ∧ Below w.heap.size w w' := by
  have HR := Lib.hid hs
  have HM := Lib.hid hM
  clear hs hM
  go_enter Try.func60, Try.ntmps60
  go_wp2_with fail
  refine (areBeds_i A n c M Y G _ hn HM.out HR.out).mono ?_
  rintro e w' ⟨rfl, hb⟩
  go_wp2
  go_ret
  exact ⟨rfl, hb⟩

end Go.Proofs.Ytcpaenmhnoagdac.rod
