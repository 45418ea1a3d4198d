/-
  Bundles in plain numbers: when one is valid. No function of the program lies here.
-/
import Derived.Test.YtlepgkmpbhlajaaDoorIn
namespace Go.Proofs.YtlepgkmpbhlajaaDoor.rod
open Go.Proofs.YtlepgkmpbhlajaaDoor.mem
set_option linter.unusedVariables false

/-- a bundle is valid -/
def bunB (L G W : Int) : Bool := inB L 100 3000 && (inB G 10 2000 && inB W 1 50000)
theorem bunB_of {L G W : Int} (h : bunB L G W = true) : 100 ≤ L ∧ L ≤ 3000 ∧ 10 ≤ G ∧ G ≤ 2000 ∧ 1 ≤ W ∧ W ≤ 50000 := by
  unfold bunB at h
  simp only [Bool.and_eq_true] at h
  obtain ⟨h1, h2, h3⟩ := h
  obtain ⟨a1, a2⟩ := inB_of h1
  obtain ⟨b1, b2⟩ := inB_of h2
  obtain ⟨c1, c2⟩ := inB_of h3
  exact ⟨a1, a2, b1, b2, c1, c2⟩
/-- bundle i of a list -/
def bunA (X : Nat → Int) (i : Nat) : Bool := bunB (X (i * 3)) (X (i * 3 + 1)) (X (i * 3 + 2))
/-- all of the first n bundles are valid -/
def allU (X : Nat → Int) : Nat → Bool
  | 0 => true
  | n + 1 => allU X n && bunA X n
theorem allU_le {X : Nat → Int} {n : Nat} : ∀ {m : Nat}, m ≤ n → allU X n = true → allU X m = true := by
  induction n with
  | zero => intro m h k; obtain rfl : m = 0 := by omega
            exact k
  | succ n ih =>
    intro m h k
    by_cases e : m = n + 1
    · subst e; exact k
    · simp only [allU, Bool.and_eq_true] at k
      exact ih (by omega) k.1
theorem allU_at {X : Nat → Int} {n i : Nat} (h : allU X n = true) (hi : i < n) : bunA X i = true := by
  have := allU_le (m := i + 1) hi h
  simp only [allU, Bool.and_eq_true] at this
  exact this.2
theorem allU_no {X : Nat → Int} {n i : Nat} (hi : i < n) (h : bunA X i = false) : allU X n = false := by
  cases e : allU X n
  · rfl
  · rw [allU_at e hi] at h; cases h
theorem allU_bd {X : Nat → Int} {n i : Nat} (h : allU X n = true) (hi : i < n) : 100 ≤ X (i * 3) ∧ X (i * 3) ≤ 3000 ∧ 10 ≤ X (i * 3 + 1) ∧ X (i * 3 + 1) ≤ 2000 ∧ 1 ≤ X (i * 3 + 2) ∧ X (i * 3 + 2) ≤ 50000 := bunB_of (allU_at h hi)
/-- a list of bundles is valid -/
def listU (n : Nat) (X : Nat → Int) : Bool := decide (n ≤ 30) && allU X n
theorem listU_of {n : Nat} {X : Nat → Int} (h : listU n X = true) : n ≤ 30 ∧ allU X n = true := by
  unfold listU at h
  simp only [Bool.and_eq_true, decide_eq_true_eq] at h
  exact h
theorem bunA_congr {X Y : Nat → Int} {n i : Nat} (e : ∀ j, j < n * 3 → X j = Y j) (hi : i < n) : bunA X i = bunA Y i := by unfold bunA; rw [e _ (by omega), e _ (by omega), e _ (by omega)]
theorem allU_congr {X Y : Nat → Int} : ∀ {n : Nat}, (∀ j, j < n * 3 → X j = Y j) → allU X n = allU Y n
  | 0, _ => rfl
  | n + 1, e => by simp only [allU, allU_congr (n := n) (fun j hj => e j (by omega)), bunA_congr (n := n + 1) (i := n) e (by omega)]
theorem listU_congr {X Y : Nat → Int} {n : Nat} (e : ∀ j, j < n * 3 → X j = Y j) : listU n X = listU n Y := by unfold listU; rw [allU_congr e]

/-- the weight of bundle i -/
def wgt (X : Nat → Int) (i : Nat) : Int := X (i * 3 + 2)
theorem wgt_bd {X : Nat → Int} {n i : Nat} (h : allU X n = true) (hi : i < n) : 1 ≤ wgt X i ∧ wgt X i ≤ 50000 := by have := allU_bd h hi; unfold wgt; omega
/-- what the first n bundles of a length weigh -/
def wol (X : Nat → Int) (l : Int) : Nat → Int
  | 0 => 0
  | n + 1 => wol X l n + (if X (n * 3) = l then X (n * 3 + 2) else 0)
theorem wol_yes {X : Nat → Int} {l : Int} {n : Nat} (e : X (n * 3) = l) : wol X l (n + 1) = wol X l n + X (n * 3 + 2) := by simp only [wol, if_pos e]
theorem wol_no {X : Nat → Int} {l : Int} {n : Nat} (e : ¬ X (n * 3) = l) : wol X l (n + 1) = wol X l n := by simp [wol, if_neg e]
theorem wol_bd {X : Nat → Int} {l : Int} : ∀ {n : Nat}, allU X n = true → 0 ≤ wol X l n ∧ wol X l n ≤ 50000 * n
  | 0, _ => by simp [wol]
  | n + 1, hv => by
    have ih := wol_bd (l := l) (allU_le (m := n) (by omega) hv)
    have hb := allU_bd hv (i := n) (by omega)
    simp only [wol]
    split <;> omega
theorem wol_congr {X Y : Nat → Int} {l : Int} : ∀ {n : Nat}, (∀ j, j < n * 3 → X j = Y j) → wol X l n = wol Y l n
  | 0, _ => rfl
  | n + 1, e => by simp only [wol, wol_congr (n := n) (fun j hj => e j (by omega)), e (n * 3) (by omega), e (n * 3 + 2) (by omega)]

end Go.Proofs.YtlepgkmpbhlajaaDoor.rod
