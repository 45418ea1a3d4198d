/-
  Rows of texts: the same texts are told equal.
-/
import Derived.Test.YtgfnagkelhbplaaWords
import Derived.RegionTactic
import Derived.Deep.QuietTactic
import Derived.BigQuiet
import Derived.Deep.RegionHeld3
namespace Go.Proofs.Ytgfnagkelhbplaa.split
open Go.ChangeShapes Go.WideShapes Go.ChangeAt Go.RowKit
open Go.Proofs.Ytgfnagkelhbplaa.mem
set_option linter.unusedVariables false

/-- a slice value of n texts -/
def SlS (w : World) (A : Option Addr) (n : Nat) (T : Nat → ByteArray) : Prop := 0 < n → ∃ g, A = some ⟨g, 0, none⟩ ∧ g < w.heap.size ∧ ∀ j, j < n → w.cell? ⟨g, j, none⟩ = some (.string (T j))

set_option maxHeartbeats 2000000 in
theorem eqStrs_same (A1 A2 : Option Addr) (n c1 c2 : Nat) (T : Nat → ByteArray) (w : World) (hn : n ≤ maxLen) (h1 : SlS w A1 n T) (h2 : SlS w A2 n T) :
    Calls Try.prog 34 #[.slice A1 n c1, .slice A2 n c2] w fun e w' => e = .returned (.bool true) ∧ ∃ m, w' = w.drewN m := by
  unfold maxLen at hn
  have H1 := Lib.hid h1
  have H2 := Lib.hid h2
  clear h1 h2
  go_enter Try.func34, Try.ntmps34
  go_wp2_with fail
  go_loopw [5] (fun s wr => ∃ k m : Nat, k ≤ n ∧ s = .int .i64 k ∧ wr = w.drewN m) (fun s _ => n - (intOf s).toNat)
  case atStart => exact ⟨0, 0, by omega, rfl, rfl⟩
  case round =>
    obtain ⟨k, m, hk, rfl, rfl⟩ := hrel
    by_cases hlt : k < n
    · have hlt' : (k : Int) < (n : Int) := by omega
      have hk0 : (0 : Int) ≤ (k : Int) := by omega
      obtain ⟨g1, rfl, _, hX⟩ := H1.out (by omega)
      obtain ⟨g2, rfl, _, hY⟩ := H2.out (by omega)
      have p0 := hX k (by omega)
      have p1 := hY k (by omega)
      clear hX hY H1 H2
      generalize T k = R at *
      have e1 : (R.toList == R.toList) = true := by simp
      have e2 : (R.toList != R.toList) = false := by simp
      go_wp2_with fail
      go_quiet (fail)
      go_wp2
      go_roundw
      case rel => exact ⟨k + 1, _, by omega, by go_num, rfl⟩
      case measure => simp [intOf]; omega
    · obtain rfl : k = n := by omega
      go_wp2
      go_ret
      exact ⟨rfl, _, rfl⟩

end Go.Proofs.Ytgfnagkelhbplaa.split
