/-
  What FnExactLooseStakes leads to: the closed facts of its row.
-/
import Derived.Test.YtbmdggcfoohmgaaDoorClo
namespace Go.Proofs.YtbmdggcfoohmgaaDoor.clo
set_option linter.unusedVariables false

def c9 : List Nat := [9, 55, 113, 111, 81, 154, 120, 123, 118, 157, 114, 116, 122, 17, 67, 48, 71, 112, 148, 147, 149, 151, 167, 150, 153, 170, 185, 168, 183, 169, 184, 203, 186, 205, 204, 188, 187, 152, 68, 128, 129, 119, 158, 133, 130, 127, 161, 56, 57, 58]
theorem sub9 : ∀ g, g ∈ c9 → g ∈ all := by
  have e : (c9.all fun h => all.contains h) = true := by decide +kernel
  exact fun g hg => List.contains_iff_mem.1 (List.all_eq_true.1 e g hg)
theorem closure9 : Tryd.prog.closure 9 = c9 := (closure_is (sub9 9 (by decide +kernel))).trans (by decide +kernel)
theorem inPlace9 : Tryd.prog.inPlace 9 = ["internal/bytealg.IndexByteString", "internal/bytealg.IndexString"] := by unfold Program.inPlace; rw [closure9]; kernel_rfl
theorem unfollowed9 : Tryd.prog.unfollowed 9 = true := by unfold Program.unfollowed; rw [closure9]; kernel_rfl
theorem named9 : Tryd.prog.varsNamed 9 = ["unicode/utf8.first", "unicode/utf8.acceptRanges", "internal/bytealg.MaxLen"] := by unfold Program.varsNamed; rw [closure9]; kernel_rfl
theorem recurses9 : Tryd.prog.recurses 9 = true := by
  unfold Program.recurses
  rw [unfollowed9]; rfl
theorem facts_FnExactLooseStakes : joinedFacts Tryd.prog 9 Tryd.f9 (OpenSpec.ofChange Rows.fnExactLooseStakesSpec).bare Rows.fnExactLooseStakesRow = true := by
  unfold joinedFacts
  rw [inPlace9, unfollowed9, recurses9, named9]
  kernel_rfl
end Go.Proofs.YtbmdggcfoohmgaaDoor.clo
