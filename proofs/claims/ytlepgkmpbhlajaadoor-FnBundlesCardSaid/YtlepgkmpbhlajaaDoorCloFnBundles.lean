/-
  What FnBundles leads to: the closed facts of its row.
-/
import Derived.Test.YtlepgkmpbhlajaaDoorClo
namespace Go.Proofs.YtlepgkmpbhlajaaDoor.clo
set_option linter.unusedVariables false

def c3 : List Nat := [3, 5, 6, 31, 32, 72, 33, 34, 35, 7, 36, 37, 8, 38, 39, 40, 9, 41, 59, 60, 10, 25, 66, 62, 67, 42, 43, 73, 87, 88, 102, 120, 44, 46, 74, 45, 11, 47, 64, 83, 48, 12, 49, 13, 50, 56, 81, 51, 75, 89, 103, 52, 76, 77, 14, 53, 54, 15, 16, 55, 78, 80, 79, 90, 104, 105, 121, 136, 17, 57, 58, 18, 19, 20, 21, 22, 61, 23, 63, 82, 91, 106, 107, 123, 122, 124, 108, 109, 125, 126, 137, 138, 24, 65, 26, 27, 28]
theorem sub3 : ∀ g, g ∈ c3 → g ∈ all := by
  have e : (c3.all fun h => all.contains h) = true := by decide +kernel
  exact fun g hg => List.contains_iff_mem.1 (List.all_eq_true.1 e g hg)
theorem closure3 : Tryd.prog.closure 3 = c3 := (closure_is (sub3 3 (by decide +kernel))).trans (by decide +kernel)
theorem inPlace3 : Tryd.prog.inPlace 3 = [] := by unfold Program.inPlace; rw [closure3]; kernel_rfl
theorem unfollowed3 : Tryd.prog.unfollowed 3 = true := by unfold Program.unfollowed; rw [closure3]; kernel_rfl
theorem named3 : Tryd.prog.varsNamed 3 = ["internal/strconv.uint64pow10", "math/bits.deBruijn32tab", "math/bits.deBruijn64tab"] := by unfold Program.varsNamed; rw [closure3]; kernel_rfl
theorem recurses3 : Tryd.prog.recurses 3 = true := by
  unfold Program.recurses
  rw [unfollowed3]; rfl
theorem facts_FnBundles : joinedFacts Tryd.prog 3 Tryd.f3 (OpenSpec.ofChange Rows.fnBundlesSpec).bare Rows.fnBundlesRow = true := by
  unfold joinedFacts
  rw [inPlace3, unfollowed3, recurses3, named3]
  kernel_rfl
end Go.Proofs.YtlepgkmpbhlajaaDoor.clo
