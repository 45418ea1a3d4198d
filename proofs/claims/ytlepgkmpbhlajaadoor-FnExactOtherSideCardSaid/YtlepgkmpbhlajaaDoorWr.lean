/-
  Contracts: the code of a stroke and stakes, a weave, its places, after how many rounds it begins again; of the model and of the program.
-/
import Derived.Test.YtlepgkmpbhlajaaDoorWk
namespace Go.Proofs.YtlepgkmpbhlajaaDoor.wk
open Go.ChangeShapes Go.WideShapes Go.ChangeAt Go.RowKit
open Go.Proofs.YtlepgkmpbhlajaaDoor.mem Go.Proofs.YtlepgkmpbhlajaaDoor.rod Go.Proofs.YtlepgkmpbhlajaaDoor.wv
set_option linter.unusedVariables false

/-- the code of a stroke and stakes -/
def codeW (s : ByteArray) (a : Int) : Int := if strokeB s = false then 1 else if inB a 3 60 = false then 2 else 0
theorem codeW_0 {s : ByteArray} {a : Int} : codeW s a = 0 ↔ strokeB s = true ∧ inB a 3 60 = true := by
  unfold codeW
  cases strokeB s <;> cases inB a 3 60 <;> simp
theorem codeW_cases (s : ByteArray) (a : Int) : (strokeB s = false ∧ codeW s a = 1) ∨ (strokeB s = true ∧ inB a 3 60 = false ∧ codeW s a = 2) ∨ (strokeB s = true ∧ inB a 3 60 = true ∧ codeW s a = 0) := by
  unfold codeW
  cases strokeB s <;> cases inB a 3 60 <;> simp
/-- stakes as a number that is not negative -/
theorem stakes_of {a : Int} (h : inB a 3 60 = true) : ∃ n : Nat, a = (n : Int) ∧ 3 ≤ n ∧ n ≤ 60 := by
  obtain ⟨h1, h2⟩ := inB_of h
  exact ⟨a.toNat, by omega, by omega, by omega⟩

theorem gcd_step (x y : Nat) : Nat.gcd x y = Nat.gcd y (x % y) := by rw [Nat.gcd_comm x y, Nat.gcd_rec y x, Nat.gcd_comm]
/-! ### the program -/
/-- the products of rounds and stakes are small -/
theorem prod_bd {r n k : Nat} (hr : r ≤ 100) (hn : n ≤ 60) : (0 : Int) ≤ (r : Int) * (n : Int) ∧ (r : Int) * (n : Int) ≤ 6000 := by
  have h := Nat.mul_le_mul hr hn
  rw [← Int.natCast_mul]
  omega
theorem side_byte (s : ByteArray) (n r k p : Nat) (hp : (r * n + k) % s.size = p) : side (byteAt s) s.size n r k = byteAt s p := by unfold side; rw [hp]
end Go.Proofs.YtlepgkmpbhlajaaDoor.wk
