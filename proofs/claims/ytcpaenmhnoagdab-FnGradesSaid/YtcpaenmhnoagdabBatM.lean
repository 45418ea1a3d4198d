/-
  Batches in plain numbers: when one is valid, how many bundles all have at an hour. No function of the program lies here.
-/
import Derived.Test.YtcpaenmhnoagdabIn
namespace Go.Proofs.Ytcpaenmhnoagdab.rod
open Go.Proofs.Ytcpaenmhnoagdab.mem
set_option linter.unusedVariables false

/-- a batch is valid -/
def batB (S K P B : Int) : Bool := inB S 0 5000 && (inB K 1 500 && (inB P 1 500 && inB B 1 100))
theorem batB_of {S K P B : Int} (h : batB S K P B = true) : 0 ≤ S ∧ S ≤ 5000 ∧ 1 ≤ K ∧ K ≤ 500 ∧ 1 ≤ P ∧ P ≤ 500 ∧ 1 ≤ B ∧ B ≤ 100 := by
  unfold batB at h
  simp only [Bool.and_eq_true] at h
  obtain ⟨h1, h2, h3, h4⟩ := h
  obtain ⟨a1, a2⟩ := inB_of h1
  obtain ⟨b1, b2⟩ := inB_of h2
  obtain ⟨c1, c2⟩ := inB_of h3
  obtain ⟨d1, d2⟩ := inB_of h4
  exact ⟨a1, a2, b1, b2, c1, c2, d1, d2⟩
/-- batch i of a list -/
def batA (X : Nat → Int) (i : Nat) : Bool := batB (X (i * 4)) (X (i * 4 + 1)) (X (i * 4 + 2)) (X (i * 4 + 3))
/-- all of the first n batches are valid -/
def allT (X : Nat → Int) : Nat → Bool
  | 0 => true
  | n + 1 => allT X n && batA X n
theorem allT_le {X : Nat → Int} {n : Nat} : ∀ {m : Nat}, m ≤ n → allT X n = true → allT X m = true := by
  induction n with
  | zero => intro m h k; obtain rfl : m = 0 := by omega
            exact k
  | succ n ih =>
    intro m h k
    by_cases e : m = n + 1
    · subst e; exact k
    · simp only [allT, Bool.and_eq_true] at k
      exact ih (by omega) k.1
theorem allT_at {X : Nat → Int} {n i : Nat} (h : allT X n = true) (hi : i < n) : batA X i = true := by
  have := allT_le (m := i + 1) hi h
  simp only [allT, Bool.and_eq_true] at this
  exact this.2
theorem allT_no {X : Nat → Int} {n i : Nat} (hi : i < n) (h : batA X i = false) : allT X n = false := by
  cases e : allT X n
  · rfl
  · rw [allT_at e hi] at h; cases h
theorem allT_bd {X : Nat → Int} {n i : Nat} (h : allT X n = true) (hi : i < n) : 0 ≤ X (i * 4) ∧ X (i * 4) ≤ 5000 ∧ 1 ≤ X (i * 4 + 1) ∧ X (i * 4 + 1) ≤ 500 ∧ 1 ≤ X (i * 4 + 2) ∧ X (i * 4 + 2) ≤ 500 ∧ 1 ≤ X (i * 4 + 3) ∧ X (i * 4 + 3) ≤ 100 := batB_of (allT_at h hi)
/-- a list of batches is valid -/
def listT (n : Nat) (X : Nat → Int) : Bool := decide (n ≤ 10) && allT X n
theorem listT_of {n : Nat} {X : Nat → Int} (h : listT n X = true) : n ≤ 10 ∧ allT X n = true := by
  unfold listT at h
  simp only [Bool.and_eq_true, decide_eq_true_eq] at h
  exact h

/-- the stretch of batch i: m = 0: in the tank; else supple -/
def fstT (m : Nat) (X : Nat → Int) (i : Nat) : Int := if m = 0 then X (i * 4) else X (i * 4) + X (i * 4 + 1)
def endT (m : Nat) (X : Nat → Int) (i : Nat) : Int := if m = 0 then X (i * 4) + X (i * 4 + 1) else X (i * 4) + X (i * 4 + 1) + X (i * 4 + 2)
def atT (m : Nat) (X : Nat → Int) (i : Nat) (h : Int) : Bool := decide (fstT m X i ≤ h ∧ h < endT m X i)
/-- how many bundles the first n batches have at an hour -/
def load (m : Nat) (X : Nat → Int) : Nat → Int → Int
  | 0, _ => 0
  | n + 1, h => load m X n h + (if atT m X n h = true then X (n * 4 + 3) else 0)
theorem load_yes {m n : Nat} {X : Nat → Int} {h : Int} (e : atT m X n h = true) : load m X (n + 1) h = load m X n h + X (n * 4 + 3) := by simp only [load, e, if_true]
theorem load_no {m n : Nat} {X : Nat → Int} {h : Int} (e : atT m X n h = false) : load m X (n + 1) h = load m X n h := by simp [load, e]
theorem load_bd {m : Nat} {X : Nat → Int} {h : Int} : ∀ {n : Nat}, allT X n = true → 0 ≤ load m X n h ∧ load m X n h ≤ 100 * n
  | 0, _ => by simp [load]
  | n + 1, hv => by
    have ih := load_bd (m := m) (h := h) (allT_le (m := n) (by omega) hv)
    have hb := allT_bd hv (i := n) (by omega)
    simp only [load]
    split <;> omega
theorem load_congr {m n : Nat} {X Y : Nat → Int} {h : Int} (e : ∀ j, j < n * 4 → X j = Y j) : load m X n h = load m Y n h := by
  induction n with
  | zero => rfl
  | succ n ih =>
    have i1 := ih (fun j hj => e j (by omega))
    have e0 := e (n * 4) (by omega)
    have e1 := e (n * 4 + 1) (by omega)
    have e2 := e (n * 4 + 2) (by omega)
    have e3 := e (n * 4 + 3) (by omega)
    have f1 : fstT m X n = fstT m Y n := by unfold fstT; rw [e0, e1]
    have f2 : endT m X n = endT m Y n := by unfold endT; rw [e0, e1, e2]
    have ha : atT m X n h = atT m Y n h := by unfold atT; simp only [f1, f2]
    simp only [load, i1, ha, e3]
theorem at_fst {m i n : Nat} {X : Nat → Int} (hv : allT X n = true) (hi : i < n) : fstT m X i < endT m X i := by
  have := allT_bd hv hi
  unfold fstT endT
  split <;> omega
end Go.Proofs.Ytcpaenmhnoagdab.rod
