/-
  What FnLooseStakes leads to: the closed facts of its row.
-/
import Derived.Test.YtbmdggcfoohmgaaDoorClo
namespace Go.Proofs.YtbmdggcfoohmgaaDoor.clo
set_option linter.unusedVariables false

def c3 : List Nat := [3, 14, 15, 66, 65, 77, 76, 136, 126, 16, 17, 67, 48, 71, 112, 148, 147, 149, 151, 167, 150, 153, 170, 185, 168, 183, 169, 184, 203, 186, 205, 204, 188, 187, 152, 68, 128, 129, 119, 158, 133, 130, 127, 161, 18, 70, 132, 131, 69, 19, 73, 135, 121, 72, 134, 20, 21, 22, 74, 113, 111, 81, 154, 75, 116, 122, 120, 123, 118, 157, 114]
theorem sub3 : ∀ g, g ∈ c3 → g ∈ all := by
  have e : (c3.all fun h => all.contains h) = true := by decide +kernel
  exact fun g hg => List.contains_iff_mem.1 (List.all_eq_true.1 e g hg)
theorem closure3 : Tryd.prog.closure 3 = c3 := (closure_is (sub3 3 (by decide +kernel))).trans (by decide +kernel)
theorem inPlace3 : Tryd.prog.inPlace 3 = ["internal/bytealg.IndexByteString", "internal/bytealg.IndexString"] := by unfold Program.inPlace; rw [closure3]; kernel_rfl
theorem unfollowed3 : Tryd.prog.unfollowed 3 = true := by unfold Program.unfollowed; rw [closure3]; kernel_rfl
theorem named3 : Tryd.prog.varsNamed 3 = ["unicode/utf8.first", "unicode/utf8.acceptRanges", "internal/bytealg.MaxLen"] := by unfold Program.varsNamed; rw [closure3]; kernel_rfl
theorem recurses3 : Tryd.prog.recurses 3 = true := by
  unfold Program.recurses
  rw [unfollowed3]; rfl
theorem facts_FnLooseStakes : joinedFacts Tryd.prog 3 Tryd.f3 (OpenSpec.ofChange Rows.fnLooseStakesSpec).bare Rows.fnLooseStakesRow = true := by
  unfold joinedFacts
  rw [inPlace3, unfollowed3, recurses3, named3]
  kernel_rfl
end Go.Proofs.YtbmdggcfoohmgaaDoor.clo
