/-
  StakesRange and OneNumber of the model. No condition of a statement lies here.
-/
import Derived.Test.YtldeeilgmogjjaaHh
import Derived.Test.YtldeeilgmogjjaaOpen
import Derived.Test.YtldeeilgmogjjaaNums
import Derived.Test.YtldeeilgmogjjaaIn
namespace Go.Proofs.Ytldeeilgmogjjaa.shp
open Go.ChangeShapes Go.WideShapes Go.ChangeAt Go.RowKit Go.Proofs.Ytldeeilgmogjjaa.mem Go.Proofs.Ytldeeilgmogjjaa.rod Go.Proofs.Ytldeeilgmogjjaa.nums
set_option linter.unusedVariables false
set_option maxRecDepth 100000

/-- the code of levels and bounds -/
def codeH (n : Nat) (X : Nat → Int) (lo hi : Int) : Int := if shpB n X then (if aptB lo hi then 0 else 2) else 1
theorem codeH_no {n : Nat} {X : Nat → Int} {lo hi code : Int} (hv : shpB n X = false ∧ code = 1 ∨ shpB n X = true ∧ aptB lo hi = false ∧ code = 2) : codeH n X lo hi = code := by
  unfold codeH
  rcases hv with ⟨h, rfl⟩ | ⟨h, k, rfl⟩
  · rw [h]; rfl
  · rw [h, k]; rfl
theorem codeH_ok {n : Nat} {X : Nat → Int} {lo hi : Int} (h : shpB n X = true) (k : aptB lo hi = true) : codeH n X lo hi = 0 := by unfold codeH; rw [h, k]; rfl
def mxI (a b : Int) : Int := if b < a then a else b
def mnI (a b : Int) : Int := if a < b then a else b
theorem max_s (a b : Int) (w : World) : Calls Try.prog 26 #[.int .i64 a, .int .i64 b] w fun e w' => e = .returned (.int .i64 (mxI a b)) ∧ w = w' := by
  unfold mxI
  by_cases h : b < a
  · rw [if_pos h]
    go_enter Try.func26, Try.ntmps26
    go_wp2
    go_ret
    exact ⟨rfl, rfl⟩
  · rw [if_neg h]
    go_enter Try.func26, Try.ntmps26
    go_wp2
    go_ret
    exact ⟨rfl, rfl⟩
theorem good_iff {a lo hi s : Int} (l0 : 1 ≤ lo) (h0 : 1 ≤ hi) : goodB a lo hi s = true ↔ (a + hi - 1) / hi ≤ s ∧ s ≤ a / lo := by
  unfold goodB inB
  rw [decide_eq_true_eq, Int.le_ediv_iff_mul_le (by omega)]
  constructor
  · rintro ⟨h1, h2⟩
    refine ⟨?_, h1⟩
    have : (a + hi - 1) / hi < s + 1 := Int.ediv_lt_of_lt_mul (by omega) (by rw [Int.add_mul]; omega)
    omega
  · rintro ⟨h1, h2⟩
    refine ⟨h2, ?_⟩
    have h3 : a + hi - 1 < (s + 1) * hi := Int.lt_mul_of_ediv_lt (by omega) (by omega)
    rw [Int.add_mul] at h3
    omega

end Go.Proofs.Ytldeeilgmogjjaa.shp
