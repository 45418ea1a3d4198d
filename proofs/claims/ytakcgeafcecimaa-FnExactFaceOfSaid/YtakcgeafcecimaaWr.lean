/-
  Contracts: the code of a stroke and stakes, a weave, its places, after how many rounds it begins again; of the model and of the program.
-/
import Derived.Test.YtakcgeafcecimaaWk
namespace Go.Proofs.Ytakcgeafcecimaa.wk
open Go.ChangeShapes Go.WideShapes Go.ChangeAt Go.RowKit
open Go.Proofs.Ytakcgeafcecimaa.mem Go.Proofs.Ytakcgeafcecimaa.rod Go.Proofs.Ytakcgeafcecimaa.wv
set_option linter.unusedVariables false

/-- the code of a stroke and stakes -/
def codeW (s : ByteArray) (a : Int) : Int := if strokeB s = false then 1 else if inB a 3 60 = false then 2 else 0
theorem codeW_0 {s : ByteArray} {a : Int} : codeW s a = 0 ↔ strokeB s = true ∧ inB a 3 60 = true := by
  unfold codeW
  cases strokeB s <;> cases inB a 3 60 <;> simp
theorem codeW_cases (s : ByteArray) (a : Int) : (strokeB s = false ∧ codeW s a = 1) ∨ (strokeB s = true ∧ inB a 3 60 = false ∧ codeW s a = 2) ∨ (strokeB s = true ∧ inB a 3 60 = true ∧ codeW s a = 0) := by
  unfold codeW
  cases strokeB s <;> cases inB a 3 60 <;> simp
/-- stakes as a number that is not negative -/
theorem stakes_of {a : Int} (h : inB a 3 60 = true) : ∃ n : Nat, a = (n : Int) ∧ 3 ≤ n ∧ n ≤ 60 := by
  obtain ⟨h1, h2⟩ := inB_of h
  exact ⟨a.toNat, by omega, by omega, by omega⟩

theorem gcd_step (x y : Nat) : Nat.gcd x y = Nat.gcd y (x % y) := by rw [Nat.gcd_comm x y, Nat.gcd_rec y x, Nat.gcd_comm]
theorem gcd_s (a b : Nat) (w : World) (ha : a ≤ 1000000) (hb : b ≤ 1000000) :
    Calls Try.prog 51 #[.int .i64 (a : Int), .int .i64 (b : Int)] w fun e w' => e = .returned (.int .i64 (Nat.gcd a b : Nat)) ∧ w = w' := by
  obtain ⟨g, hg⟩ : ∃ g, g = Nat.gcd a b := ⟨_, rfl⟩
  rw [← hg]
  have HG := Lib.hid hg
  clear hg
  go_enter Try.func51, Try.ntmps51
  go_wp2_with fail
  go_loop [0, 1] (fun x y => ∃ i j : Nat, i ≤ 1000000 ∧ j ≤ 1000000 ∧ x = .int .i64 (i : Int) ∧ y = .int .i64 (j : Int) ∧ Hid (g = Nat.gcd i j)) (fun _ y => (intOf y).toNat)
  case atStart => exact ⟨a, b, ha, hb, rfl, rfl, HG.out⟩
  case round =>
    obtain ⟨i, j, hi, hj, rfl, rfl, hgg⟩ := hrel
    by_cases h0 : j = 0
    · subst h0
      have he : Hid (i = g) := Lib.hid (by rw [hgg.out, Nat.gcd_zero_right])
      go_wp2
      go_ret
      exact ⟨by rw [← he.out]; rfl, rfl⟩
    · have e1 : ((j : Int) == 0) = false := by simp; omega
      have e2 : ((j : Int) != 0) = true := by rw [bne, e1]; rfl
      have e3 : ¬ (j : Int) = 0 := by omega
      have h1 : (0 : Int) ≤ (i : Int) := by omega
      have h2 : (1 : Int) ≤ (j : Int) := by omega
      have hlt := Nat.mod_lt i (show 0 < j by omega)
      have hn := Lib.hid (hgg.out.trans (gcd_step i j))
      clear hgg
      go_wp2
      go_round
      case rel => exact ⟨j, i % j, hj, by omega, rfl, by first | rfl | go_num | (congr 1), hn⟩
      case measure => simp [intOf]; omega

/-! ### the program -/
/-- the products of rounds and stakes are small -/
theorem prod_bd {r n k : Nat} (hr : r ≤ 100) (hn : n ≤ 60) : (0 : Int) ≤ (r : Int) * (n : Int) ∧ (r : Int) * (n : Int) ≤ 6000 := by
  have h := Nat.mul_le_mul hr hn
  rw [← Int.natCast_mul]
  omega
theorem side_byte (s : ByteArray) (n r k p : Nat) (hp : (r * n + k) % s.size = p) : side (byteAt s) s.size n r k = byteAt s p := by unfold side; rw [hp]
end Go.Proofs.Ytakcgeafcecimaa.wk
