/-
  What FnExactRoundOf leads to: the closed facts of its row.
-/
import Derived.Test.YtbmdggcfoohmgaaDoorClo
namespace Go.Proofs.YtbmdggcfoohmgaaDoor.clo
set_option linter.unusedVariables false

def c6 : List Nat := [6, 49, 113, 111, 81, 154, 114, 50, 67, 48, 71, 112, 148, 147, 149, 151, 167, 150, 153, 170, 185, 168, 183, 169, 184, 203, 186, 205, 204, 188, 187, 152, 115, 155, 133, 158, 131]
theorem sub6 : ∀ g, g ∈ c6 → g ∈ all := by
  have e : (c6.all fun h => all.contains h) = true := by decide +kernel
  exact fun g hg => List.contains_iff_mem.1 (List.all_eq_true.1 e g hg)
theorem closure6 : Tryd.prog.closure 6 = c6 := (closure_is (sub6 6 (by decide +kernel))).trans (by decide +kernel)
theorem inPlace6 : Tryd.prog.inPlace 6 = ["internal/bytealg.IndexByteString", "internal/bytealg.IndexString"] := by unfold Program.inPlace; rw [closure6]; kernel_rfl
theorem unfollowed6 : Tryd.prog.unfollowed 6 = true := by unfold Program.unfollowed; rw [closure6]; kernel_rfl
theorem named6 : Tryd.prog.varsNamed 6 = ["unicode/utf8.first", "unicode/utf8.acceptRanges", "internal/bytealg.MaxLen"] := by unfold Program.varsNamed; rw [closure6]; kernel_rfl
theorem recurses6 : Tryd.prog.recurses 6 = true := by
  unfold Program.recurses
  rw [unfollowed6]; rfl
theorem facts_FnExactRoundOf : joinedFacts Tryd.prog 6 Tryd.f6 (OpenSpec.ofChange Rows.fnExactRoundOfSpec).bare Rows.fnExactRoundOfRow = true := by
  unfold joinedFacts
  rw [inPlace6, unfollowed6, recurses6, named6]
  kernel_rfl
end Go.Proofs.YtbmdggcfoohmgaaDoor.clo
