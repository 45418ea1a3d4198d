/-
  a2Same of the laws, on two lists of numbers that are alike. No condition of a statement lies here.
-/
import Derived.Test.YtldeeilgmogjjaaHb
import Derived.BigQuiet
import Derived.Lib.MinMax
namespace Go.Proofs.Ytldeeilgmogjjaa.shp
open Go.ChangeShapes Go.WideShapes Go.ChangeAt Go.RowKit Go.Proofs.Ytldeeilgmogjjaa.mem Go.Proofs.Ytldeeilgmogjjaa.rod Go.Proofs.Ytldeeilgmogjjaa.nums
set_option linter.unusedVariables false
set_option maxRecDepth 100000

set_option maxHeartbeats 1000000 in
theorem same_yes (A B : Option Addr) (n c d : Nat) (X Y : Nat → Int) (w : World) (hn : n ≤ 12) (hx : Sl w A n 1 X) (hy : Sl w B n 1 Y) (he : ∀ j, j < n → X j = Y j) :
    Calls Try.prog 9 #[.slice A n c, .slice B n d] w fun e w' => e = .returned (.bool true) ∧ ∃ m, w' = w.drewN m := by
  have HX := Lib.hid hx
  have HY := Lib.hid hy
  have HE := Lib.hid he
  clear hx hy he
  go_enter Try.func9, Try.ntmps9
  go_wp2_with fail
  go_loopw [5] (fun t wr => ∃ k : Nat, k ≤ n ∧ t = .int .i64 k ∧ Drew w wr) (fun t _ => n - (intOf t).toNat)
  case atStart => exact ⟨0, by omega, rfl, Drew.refl _⟩
  case round =>
    obtain ⟨k, kn, rfl, hd⟩ := hrel
    by_cases hlt : k < n
    · have hlt' : (k : Int) < (n : Int) := by omega
      have hk0 : (0 : Int) ≤ (k : Int) := by omega
      obtain ⟨b, o, rfl, hb, hI⟩ := HX.out (by omega)
      obtain ⟨b2, o2, rfl, hb2, hI2⟩ := HY.out (by omega)
      have h0 := hd.cell (hI k (by omega))
      have h1 := hd.cell (hI2 k (by omega))
      rw [HE.out k hlt] at h0
      clear hI hI2
      go_wp2_with fail
      go_quiet (fail)
      go_wp2
      go_roundw
      case rel => exact ⟨k + 1, by omega, by go_num, by first | exact hd | exact hd.drewN _⟩
      case measure => simp [intOf]; omega
    · have hlt' : ¬ (k : Int) < (n : Int) := by omega
      go_wp2
      go_ret
      exact ⟨rfl, hd⟩

end Go.Proofs.Ytldeeilgmogjjaa.shp
