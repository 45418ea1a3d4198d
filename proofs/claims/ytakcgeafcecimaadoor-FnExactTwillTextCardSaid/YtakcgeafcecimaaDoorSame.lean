/-
  Contracts: are two lists of numbers equal? Are two lists of beds? Of the model and of the program.
-/
import Derived.Test.YtakcgeafcecimaaDoorBeds
namespace Go.Proofs.YtakcgeafcecimaaDoor.rod
open Go.ChangeShapes Go.WideShapes Go.ChangeAt Go.RowKit Go.Proofs.YtakcgeafcecimaaDoor.mem Go.Proofs.YtakcgeafcecimaaDoor.nums
set_option linter.unusedVariables false

/-- the first n numbers are the same -/
def eqL (Y Z : Nat → Int) : Nat → Bool
  | 0 => true
  | n + 1 => eqL Y Z n && decide (Y n = Z n)
theorem eqL_le {Y Z : Nat → Int} {n : Nat} : ∀ {m : Nat}, m ≤ n → eqL Y Z n = true → eqL Y Z m = true := by
  induction n with
  | zero => intro m h k; obtain rfl : m = 0 := by omega
            exact k
  | succ n ih =>
    intro m h k
    by_cases e : m = n + 1
    · subst e; exact k
    · simp only [eqL, Bool.and_eq_true] at k
      exact ih (by omega) k.1
theorem eqL_no {Y Z : Nat → Int} {n i : Nat} (hi : i < n) (h : ¬ Y i = Z i) : eqL Y Z n = false := by
  cases e : eqL Y Z n
  · rfl
  · have := eqL_le (m := i + 1) hi e
    simp only [eqL, decide_eq_false h, Bool.and_false] at this
    cases this
def sameL (m n : Nat) (Y Z : Nat → Int) : Bool := decide (m = n) && eqL Y Z m
theorem sameL_ne {m n : Nat} {Y Z : Nat → Int} (h : m ≠ n) : sameL m n Y Z = false := by unfold sameL; rw [decide_eq_false h]; rfl
theorem sameL_eq {m : Nat} {Y Z : Nat → Int} : sameL m m Y Z = eqL Y Z m := by unfold sameL; simp

/-- two beds are the same; the first n beds are; two lists are -/
def bedSame (m n : Nat) (Y Z : Nat → Int) (g h : Int) : Bool := decide (g = h) && sameL m n Y Z
theorem bedSame_no {m n : Nat} {Y Z : Nat → Int} {g h : Int} (e : ¬ g = h) : bedSame m n Y Z g h = false := by unfold bedSame; rw [decide_eq_false e]; rfl
theorem bedSame_yes {m n : Nat} {Y Z : Nat → Int} {g : Int} : bedSame m n Y Z g g = sameL m n Y Z := by unfold bedSame; simp
def sameU (M N : Nat → Nat) (Y Z : Nat → Nat → Int) (G H : Nat → Int) : Nat → Bool
  | 0 => true
  | k + 1 => sameU M N Y Z G H k && bedSame (M k) (N k) (Y k) (Z k) (G k) (H k)
theorem sameU_le {M N : Nat → Nat} {Y Z : Nat → Nat → Int} {G H : Nat → Int} {n : Nat} : ∀ {m : Nat}, m ≤ n → sameU M N Y Z G H n = true → sameU M N Y Z G H m = true := by
  induction n with
  | zero => intro m h k; obtain rfl : m = 0 := by omega
            exact k
  | succ n ih =>
    intro m h k
    by_cases e : m = n + 1
    · subst e; exact k
    · simp only [sameU, Bool.and_eq_true] at k
      exact ih (by omega) k.1
theorem sameU_no {M N : Nat → Nat} {Y Z : Nat → Nat → Int} {G H : Nat → Int} {n i : Nat} (hi : i < n) (h : bedSame (M i) (N i) (Y i) (Z i) (G i) (H i) = false) : sameU M N Y Z G H n = false := by
  cases e : sameU M N Y Z G H n
  · rfl
  · have := sameU_le (m := i + 1) hi e
    simp only [sameU, h, Bool.and_false] at this
    cases this
def bedsSame (n n2 : Nat) (M N : Nat → Nat) (Y Z : Nat → Nat → Int) (G H : Nat → Int) : Bool := decide (n = n2) && sameU M N Y Z G H n
theorem bedsSame_ne {n n2 : Nat} {M N : Nat → Nat} {Y Z : Nat → Nat → Int} {G H : Nat → Int} (h : n ≠ n2) : bedsSame n n2 M N Y Z G H = false := by unfold bedsSame; rw [decide_eq_false h]; rfl
theorem bedsSame_eq {n : Nat} {M N : Nat → Nat} {Y Z : Nat → Nat → Int} {G H : Nat → Int} : bedsSame n n M N Y Z G H = sameU M N Y Z G H n := by unfold bedsSame; simp

end Go.Proofs.YtakcgeafcecimaaDoor.rod
