/-
  What FnTwills leads to: the closed facts of its row.
-/
import Derived.Test.YtopiecbldnhihaaDoorClo
namespace Go.Proofs.YtopiecbldnhihaaDoor.clo
set_option linter.unusedVariables false

def c3 : List Nat := [3, 4, 5, 24, 25, 58, 26, 59, 27, 45, 63, 47, 28, 6, 19, 52, 53, 29, 42, 62, 30, 36, 60, 72, 78, 87, 88, 79, 89, 68, 76, 85, 77, 86, 69, 80, 70, 7, 31, 32, 33, 34, 8, 35, 57, 71, 37, 61, 9, 38, 39, 10, 11, 40, 41, 12, 43, 44, 13, 46, 65, 74, 73, 64, 14, 48, 66, 15, 49, 16, 17, 50, 18, 51, 20, 21, 54, 67, 75, 81, 82, 91, 90, 92, 83, 84, 93, 94, 95, 96, 55, 22, 56, 23]
theorem sub3 : ∀ g, g ∈ c3 → g ∈ all := by
  have e : (c3.all fun h => all.contains h) = true := by decide +kernel
  exact fun g hg => List.contains_iff_mem.1 (List.all_eq_true.1 e g hg)
theorem closure3 : Tryd.prog.closure 3 = c3 := (closure_is (sub3 3 (by decide +kernel))).trans (by decide +kernel)
theorem inPlace3 : Tryd.prog.inPlace 3 = ["internal/abi.NoEscape", "internal/bytealg.MakeNoZero"] := by unfold Program.inPlace; rw [closure3]; kernel_rfl
theorem unfollowed3 : Tryd.prog.unfollowed 3 = true := by unfold Program.unfollowed; rw [closure3]; kernel_rfl
theorem named3 : Tryd.prog.varsNamed 3 = ["internal/strconv.uint64pow10", "math/bits.deBruijn32tab", "math/bits.deBruijn64tab"] := by unfold Program.varsNamed; rw [closure3]; kernel_rfl
theorem recurses3 : Tryd.prog.recurses 3 = true := by
  unfold Program.recurses
  rw [unfollowed3]; rfl
theorem facts_FnTwills : joinedFacts Tryd.prog 3 Tryd.f3 (OpenSpec.ofChange Rows.fnTwillsSpec).bare Rows.fnTwillsRow = true := by
  unfold joinedFacts
  rw [inPlace3, unfollowed3, recurses3, named3]
  kernel_rfl
end Go.Proofs.YtopiecbldnhihaaDoor.clo
