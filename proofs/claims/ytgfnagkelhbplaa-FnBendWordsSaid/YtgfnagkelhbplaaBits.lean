/-
  Sets of small numbers as bits: the operations on whole numbers in words of sets. No function of the program lies here.
-/
import Derived.Test.YtgfnagkelhbplaaMem
import Derived.Laws.ShiftsVar
namespace Go.Proofs.Ytgfnagkelhbplaa.mem
open Go.ChangeShapes Go.WideShapes Go.ChangeAt Go.RowKit
set_option linter.unusedVariables false

theorem i64_wraps (n : Int) (h0 : 0 ≤ n) (h1 : n < 2 ^ 62) : IntKind.i64.wrap n = n := IntWalk.i64_in _ (by omega)
theorem i64_and_nat {a b : Nat} (ha : a < 2 ^ 62) (hb : b < 2 ^ 62) : bits .and .i64 (a : Int) (b : Int) = ((a &&& b : Nat) : Int) := (bits_nat .i64 62 (by decide) i64_wraps a b ha hb).1
theorem i64_or_nat {a b : Nat} (ha : a < 2 ^ 62) (hb : b < 2 ^ 62) : bits .or .i64 (a : Int) (b : Int) = ((a ||| b : Nat) : Int) := (bits_nat .i64 62 (by decide) i64_wraps a b ha hb).2
theorem shr_nat (B k : Nat) : (B : Int) / 2 ^ k = ((B / 2 ^ k : Nat) : Int) := by simp
/-- the test of a bit, as the walk spells it -/
theorem i64_bit (B k : Nat) (hB : B < 2 ^ 62) : (bits .and .i64 ((B : Int) / 2 ^ k) 1 == 1) = B.testBit k := by
  have h1 : B / 2 ^ k < 2 ^ 62 := Nat.lt_of_le_of_lt (Nat.div_le_self _ _) hB
  rw [shr_nat, show (1 : Int) = ((1 : Nat) : Int) from rfl, i64_and_nat h1 (by decide), Nat.testBit_eq_decide_div_mod_eq, Nat.and_one_is_mod]
  apply Bool.eq_iff_iff.2
  simp only [beq_iff_eq, decide_eq_true_eq]
  omega

/-- the bits of the first n numbers of a list -/
def orC (C : Nat → Int) : Nat → Nat
  | 0 => 0
  | n + 1 => orC C n ||| 2 ^ (C n).toNat
theorem orC_lt {C : Nat → Int} {K : Nat} : ∀ {n : Nat}, (∀ i, i < n → (C i).toNat < K) → orC C n < 2 ^ K
  | 0, _ => Nat.two_pow_pos K
  | n + 1, h => Nat.or_lt_two_pow (orC_lt (fun i hi => h i (by omega))) (Nat.pow_lt_pow_right (by decide) (h n (by omega)))
theorem orC_bit {C : Nat → Int} {y : Nat} : ∀ {n : Nat}, (orC C n).testBit y = true ↔ ∃ i, i < n ∧ (C i).toNat = y
  | 0 => by simp [orC]
  | n + 1 => by
    unfold orC
    rw [Nat.testBit_or, Bool.or_eq_true, orC_bit, Nat.testBit_two_pow]
    constructor
    · rintro (⟨i, hi, e⟩ | h)
      · exact ⟨i, by omega, e⟩
      · exact ⟨n, by omega, by simpa using h⟩
    · rintro ⟨i, hi, e⟩
      by_cases h : i = n
      · subst h; exact .inr (by simpa using e)
      · exact .inl ⟨i, by omega, e⟩

end Go.Proofs.Ytgfnagkelhbplaa.mem
