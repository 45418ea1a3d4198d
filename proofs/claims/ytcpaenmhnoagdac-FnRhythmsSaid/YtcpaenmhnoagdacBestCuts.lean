/-
  Contracts of BestCuts, of the model's and of the program's.
-/
import Derived.Test.YtcpaenmhnoagdacHarvestW
import Derived.Test.YtcpaenmhnoagdacYieldOfPlan
import Derived.Test.YtcpaenmhnoagdacCutForW
import Derived.Test.YtcpaenmhnoagdacMarkBeds
namespace Go.Proofs.Ytcpaenmhnoagdac.rod
open Go.ChangeShapes Go.WideShapes Go.ChangeAt Go.RowKit Go.Proofs.Ytcpaenmhnoagdac.mem Go.Proofs.Ytcpaenmhnoagdac.nums
set_option linter.unusedVariables false

section
variable (m : Nat) (Y : Nat → Int) (a : Int) (N : Nat)
/-- the best of the first b sets -/
def topS : Nat → Nat
  | 0 => 0
  | b + 1 => if ky (pls m Y a (topS b) N).1 (topS b) < ky (pls m Y a b N).1 b then b else topS b
end
theorem topS_max {m : Nat} {Y : Nat → Int} {a : Int} {N : Nat} : ∀ b x, x < b → ky (pls m Y a x N).1 x ≤ ky (pls m Y a (topS m Y a N b) N).1 (topS m Y a N b)
  | 0, x, h => by omega
  | b + 1, x, h => by
    have ih := fun y (hy : y < b) => topS_max (m := m) (Y := Y) (a := a) (N := N) b y hy
    simp only [topS]
    by_cases hc : ky (pls m Y a (topS m Y a N b) N).1 (topS m Y a N b) < ky (pls m Y a b N).1 b
    · rw [if_pos hc]
      by_cases e : x = b
      · subst e; exact Int.le_refl _
      · have := ih x (by omega); omega
    · rw [if_neg hc]
      by_cases e : x = b
      · subst e; omega
      · exact ih x (by omega)
theorem topS_lt {m : Nat} {Y : Nat → Int} {a : Int} {N : Nat} : ∀ b, 0 < b → topS m Y a N b < b
  | 0, h => by omega
  | b + 1, _ => by
    simp only [topS]
    split
    · omega
    · rcases Nat.eq_zero_or_pos b with h | h
      · subst h; exact Nat.zero_lt_one
      · have := topS_lt (m := m) (Y := Y) (a := a) (N := N) b h; omega
theorem pls_zero {m : Nat} {Y : Nat → Int} {a : Int} : ∀ y, (pls m Y a 0 y).1 = 0
  | 0 => rfl
  | y + 1 => by rw [pls_no (by simp)]; exact pls_zero y

/-- numbers of a set, a sum and a code -/
def BestSaid (w : World) (l : List Int) (v code : Int) (e : Ending) (w' : World) : Prop :=
  ∃ A c, e = .returned (.tuple #[.slice A l.length c, .int .i64 v, .int .i64 code]) ∧ l.length ≤ c ∧ c ≤ maxLen ∧ Row w' w.heap.size w'.heap.size A l.length 1 2 (fun j => l.getD j 0) ∧ Below w.heap.size w w'
/-- what is wrong with the arguments -/
def BestNo (m : Nat) (Y : Nat → Int) (a : Int) (years code : Int) : Prop := bedB m Y a = false ∧ code = 1 ∨ bedB m Y a = true ∧ inB years 1 12 = false ∧ code = 2

section
variable {m : Nat} {Y : Nat → Int} {a : Int} {N b : Nat}
theorem topS_cmp (hN : N ≤ 12) (hb : b < 2 ^ N) (hX : topS m Y a N b < 2 ^ N) : (ky (pls m Y a (topS m Y a N b) N).1 (topS m Y a N b) < ky (pls m Y a b N).1 b) ↔ ((pls m Y a (topS m Y a N b) N).1 < (pls m Y a b N).1 ∨ (pls m Y a b N).1 = (pls m Y a (topS m Y a N b) N).1 ∧ befB N b (topS m Y a N b) = true) := by
  have p16 : (2 : Nat) ^ N ≤ 2 ^ 16 := Nat.pow_le_pow_right (by decide) (by omega)
  rw [← ky_iff (by omega) (by omega), ← befB_more hb hX (by omega), befB_iff (by omega) (by omega)]
  rfl
theorem topS_new (hN : N ≤ 12) (hb : b < 2 ^ N) (hX : topS m Y a N b < 2 ^ N) (h : (pls m Y a (topS m Y a N b) N).1 < (pls m Y a b N).1 ∨ (pls m Y a b N).1 = (pls m Y a (topS m Y a N b) N).1 ∧ befB N b (topS m Y a N b) = true) : topS m Y a N (b + 1) = b := by
  show (if _ then _ else _) = _; rw [if_pos ((topS_cmp hN hb hX).2 h)]
theorem topS_old (hN : N ≤ 12) (hb : b < 2 ^ N) (hX : topS m Y a N b < 2 ^ N) (h : (pls m Y a b N).1 < (pls m Y a (topS m Y a N b) N).1 ∨ (pls m Y a b N).1 = (pls m Y a (topS m Y a N b) N).1 ∧ befB N b (topS m Y a N b) = false) : topS m Y a N (b + 1) = topS m Y a N b := by
  show (if _ then _ else _) = _
  rw [if_neg]
  rw [topS_cmp hN hb hX]
  rintro (h1 | ⟨h1, h2⟩)
  · rcases h with h | ⟨h, _⟩ <;> omega
  · rcases h with h | ⟨_, h⟩
    · omega
    · rw [h] at h2; cases h2
theorem topS_one : topS m Y a N 1 = 0 := by
  show (if _ then _ else _) = _
  rw [if_neg]
  · rfl
  show ¬ ky (pls m Y a 0 N).1 0 < ky (pls m Y a 0 N).1 0
  omega
end

theorem wroteIn_below {w w' : World} {lo hi : Nat} (h : Below w.heap.size w w') : WroteIn w w' lo hi := ⟨h.os, h.tape, h.output, h.size, fun k hk _ => h.block k hk⟩
end Go.Proofs.Ytcpaenmhnoagdac.rod
