/-
  What FnExactLongestStack leads to: the closed facts of its row.
-/
import Derived.Test.YtbmdggcfoohmgaaDoorClo
namespace Go.Proofs.YtbmdggcfoohmgaaDoor.clo
set_option linter.unusedVariables false

def c12 : List Nat := [12, 62, 113, 111, 81, 154, 120, 123, 118, 157, 114, 116, 122, 18, 67, 48, 71, 112, 148, 147, 149, 151, 167, 150, 153, 170, 185, 168, 183, 169, 184, 203, 186, 205, 204, 188, 187, 152, 68, 128, 129, 119, 158, 133, 130, 127, 161, 70, 132, 131, 69]
theorem sub12 : ∀ g, g ∈ c12 → g ∈ all := by
  have e : (c12.all fun h => all.contains h) = true := by decide +kernel
  exact fun g hg => List.contains_iff_mem.1 (List.all_eq_true.1 e g hg)
theorem closure12 : Tryd.prog.closure 12 = c12 := (closure_is (sub12 12 (by decide +kernel))).trans (by decide +kernel)
theorem inPlace12 : Tryd.prog.inPlace 12 = ["internal/bytealg.IndexByteString", "internal/bytealg.IndexString"] := by unfold Program.inPlace; rw [closure12]; kernel_rfl
theorem unfollowed12 : Tryd.prog.unfollowed 12 = true := by unfold Program.unfollowed; rw [closure12]; kernel_rfl
theorem named12 : Tryd.prog.varsNamed 12 = ["unicode/utf8.first", "unicode/utf8.acceptRanges", "internal/bytealg.MaxLen"] := by unfold Program.varsNamed; rw [closure12]; kernel_rfl
theorem recurses12 : Tryd.prog.recurses 12 = true := by
  unfold Program.recurses
  rw [unfollowed12]; rfl
theorem facts_FnExactLongestStack : joinedFacts Tryd.prog 12 Tryd.f12 (OpenSpec.ofChange Rows.fnExactLongestStackSpec).bare Rows.fnExactLongestStackRow = true := by
  unfold joinedFacts
  rw [inPlace12, unfollowed12, recurses12, named12]
  kernel_rfl
end Go.Proofs.YtbmdggcfoohmgaaDoor.clo
