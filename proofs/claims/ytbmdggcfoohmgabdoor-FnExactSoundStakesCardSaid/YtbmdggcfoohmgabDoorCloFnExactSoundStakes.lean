/-
  What FnExactSoundStakes leads to: the closed facts of its row.
-/
import Derived.Test.YtbmdggcfoohmgabDoorClo
namespace Go.Proofs.YtbmdggcfoohmgabDoor.clo
set_option linter.unusedVariables false

def c3 : List Nat := [3, 4, 9, 15, 23, 16, 24, 10, 17, 25, 18, 26, 30, 43, 31, 5, 11, 19, 12, 27, 33, 32, 34, 36, 44, 35, 38, 47, 53, 45, 51, 46, 52, 55, 59, 60, 56, 57, 58, 37, 14, 21, 22, 28, 29, 40, 41, 49, 54, 50, 42, 39, 48, 13, 20, 6, 7, 8]
theorem sub3 : ∀ g, g ∈ c3 → g ∈ all := by
  have e : (c3.all fun h => all.contains h) = true := by decide +kernel
  exact fun g hg => List.contains_iff_mem.1 (List.all_eq_true.1 e g hg)
theorem closure3 : Tryd.prog.closure 3 = c3 := (closure_is (sub3 3 (by decide +kernel))).trans (by decide +kernel)
theorem inPlace3 : Tryd.prog.inPlace 3 = ["internal/bytealg.IndexByteString", "internal/bytealg.IndexString"] := by unfold Program.inPlace; rw [closure3]; kernel_rfl
theorem unfollowed3 : Tryd.prog.unfollowed 3 = true := by unfold Program.unfollowed; rw [closure3]; kernel_rfl
theorem named3 : Tryd.prog.varsNamed 3 = ["unicode/utf8.first", "unicode/utf8.acceptRanges", "internal/bytealg.MaxLen"] := by unfold Program.varsNamed; rw [closure3]; kernel_rfl
theorem recurses3 : Tryd.prog.recurses 3 = true := by
  unfold Program.recurses
  rw [unfollowed3]; rfl
theorem facts_FnExactSoundStakes : joinedFacts Tryd.prog 3 Tryd.f3 (OpenSpec.ofChange Rows.fnExactSoundStakesSpec).bare Rows.fnExactSoundStakesRow = true := by
  unfold joinedFacts
  rw [inPlace3, unfollowed3, recurses3, named3]
  kernel_rfl
end Go.Proofs.YtbmdggcfoohmgabDoor.clo
