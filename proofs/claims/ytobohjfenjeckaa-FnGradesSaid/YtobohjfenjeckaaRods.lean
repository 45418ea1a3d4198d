/-
  Contracts of the functions on lists of rods.
-/
import Derived.Test.YtobohjfenjeckaaRod
import Derived.Test.YtobohjfenjeckaaMem
namespace Go.Proofs.Ytobohjfenjeckaa.rod
open Go.ChangeShapes Go.WideShapes Go.ChangeAt Go.RowKit
open Go.Proofs.Ytobohjfenjeckaa.mem
set_option linter.unusedVariables false

/-- all of the first n rods are valid -/
def allB (X : Nat → Int) : Nat → Bool
  | 0 => true
  | n + 1 => allB X n && rodB (X (n * 3)) (X (n * 3 + 1)) (X (n * 3 + 2))
theorem allB_le {X : Nat → Int} {n : Nat} : ∀ {m : Nat}, m ≤ n → allB X n = true → allB X m = true := by
  induction n with
  | zero => intro m h k; obtain rfl : m = 0 := by omega
            exact k
  | succ n ih =>
    intro m h k
    by_cases e : m = n + 1
    · subst e; exact k
    · simp only [allB, Bool.and_eq_true] at k
      exact ih (by omega) k.1
theorem allB_at {X : Nat → Int} {n i : Nat} (h : allB X n = true) (hi : i < n) : rodB (X (i * 3)) (X (i * 3 + 1)) (X (i * 3 + 2)) = true := by
  have := allB_le (m := i + 1) hi h
  simp only [allB, Bool.and_eq_true] at this
  exact this.2
theorem allB_no {X : Nat → Int} {n i : Nat} (hi : i < n) (h : rodB (X (i * 3)) (X (i * 3 + 1)) (X (i * 3 + 2)) = false) : allB X n = false := by
  cases e : allB X n
  · rfl
  · rw [allB_at e hi] at h; cases h

/-- a list of rods is valid -/
def listB (n : Nat) (X : Nat → Int) : Bool := decide (n ≤ 20) && allB X n
theorem listB_of {n : Nat} {X : Nat → Int} (h : listB n X = true) : n ≤ 20 ∧ allB X n = true := by
  unfold listB at h
  simp only [Bool.and_eq_true, decide_eq_true_eq] at h
  exact h

set_option maxHeartbeats 1000000 in
theorem valid_i (A : Option Addr) (n c : Nat) (X : Nat → Int) (w : World) (hn : n ≤ maxLen) (hr : Sl w A n 3 X) :
    Calls Try.prog 75 #[.slice A n c] w fun e w' => e = .returned (.bool (listB n X)) ∧ Below w.heap.size w w' := by
  unfold maxLen at hn
  have HR := Lib.hid hr
  clear hr
  by_cases hbig : 20 < n
  · have hf : listB n X = false := by unfold listB; rw [decide_eq_false (by omega)]; rfl
    rw [hf]
    have hbig' : (20 : Int) < (n : Int) := by omega
    clear hf
    go_enter Try.func75, Try.ntmps75
    go_wp2
    go_ret
    exact ⟨rfl, Below.refl _ _⟩
  have hbig' : ¬ (20 : Int) < (n : Int) := by omega
  have he : listB n X = allB X n := by unfold listB; rw [decide_eq_true (by omega)]; rfl
  have HE := Lib.hid he
  clear he hbig
  go_enter Try.func75, Try.ntmps75
  go_wp2_with fail
  go_loopw [10] (fun s wr => ∃ k : Nat, k ≤ n ∧ s = .int .i64 k ∧ Hid (allB X k = true) ∧ Below w.heap.size w wr) (fun s _ => n - (intOf s).toNat)
  case atStart => exact ⟨0, by omega, rfl, rfl, Below.refl _ _⟩
  case round =>
    obtain ⟨k, hk, rfl, HA, hbl⟩ := hrel
    have hzz := hbl.size
    by_cases hlt : k < n
    · have hlt' : (k : Int) < (n : Int) := by omega
      obtain ⟨b, o, rfl, hb, hX⟩ := HR.out (by omega)
      have h0 := hX.below hbl hb (k * 3) (by omega)
      have h1 := hX.below hbl hb (k * 3 + 1) (by omega)
      have h2 := hX.below hbl hb (k * 3 + 2) (by omega)
      simp only [← Nat.add_assoc] at h1 h2
      clear hX
      cases hv : rodB (X (k * 3)) (X (k * 3 + 1)) (X (k * 3 + 2))
      · have hf : listB n X = false := by rw [HE.out]; exact allB_no hlt hv
        have HF := Lib.hid hf
        clear hf
        go_wp2_with fail
        refine (rod_i (X (k * 3)) (X (k * 3 + 1)) (X (k * 3 + 2)) _).mono ?_
        rintro e w' ⟨rfl, hb2⟩
        have g2 : Below w.heap.size w w' := Below.trans (by go_grown) (hb2.mono (by simp <;> omega))
        clear hb2 h0 h1 h2
        go_wp2
        go_ret
        exact ⟨by rw [HF.out]; rfl, g2⟩
      · go_wp2_with fail
        refine (rod_i (X (k * 3)) (X (k * 3 + 1)) (X (k * 3 + 2)) _).mono ?_
        rintro e w' ⟨rfl, hb2⟩
        have g2 : Below w.heap.size w w' := Below.trans (by go_grown) (hb2.mono (by simp <;> omega))
        have HV := Lib.hid hv
        clear hb2 h0 h1 h2
        go_wp2
        go_roundw
        case rel => exact ⟨k + 1, by omega, by go_num, by simp only [Hid, allB, HA.out, HV.out, Bool.and_self], g2⟩
        case measure => simp [intOf]; omega
    · obtain rfl : k = n := by omega
      go_wp2
      go_ret
      exact ⟨by rw [HE.out, HA.out]; rfl, hbl⟩

theorem info_rod : (Try.prog.info? 57).map (fun i => (i.zero, i.size, i.bytes)) = some (some (.agg #[.int .i64 0, .int .i64 0, .int .i64 0]), 3, 24) := by kernel_rfl

end Go.Proofs.Ytobohjfenjeckaa.rod
