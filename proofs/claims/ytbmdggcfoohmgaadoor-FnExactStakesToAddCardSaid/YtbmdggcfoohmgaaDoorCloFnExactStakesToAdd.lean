/-
  What FnExactStakesToAdd leads to: the closed facts of its row.
-/
import Derived.Test.YtbmdggcfoohmgaaDoorClo
namespace Go.Proofs.YtbmdggcfoohmgaaDoor.clo
set_option linter.unusedVariables false

def c11 : List Nat := [11, 60, 74, 113, 111, 81, 154, 75, 116, 122, 120, 123, 118, 157, 114, 61, 67, 48, 71, 112, 148, 147, 149, 151, 167, 150, 153, 170, 185, 168, 183, 169, 184, 203, 186, 205, 204, 188, 187, 152, 73, 135, 121, 69, 68, 128, 129, 119, 158, 133, 130, 127, 161]
theorem sub11 : ∀ g, g ∈ c11 → g ∈ all := by
  have e : (c11.all fun h => all.contains h) = true := by decide +kernel
  exact fun g hg => List.contains_iff_mem.1 (List.all_eq_true.1 e g hg)
theorem closure11 : Tryd.prog.closure 11 = c11 := (closure_is (sub11 11 (by decide +kernel))).trans (by decide +kernel)
theorem inPlace11 : Tryd.prog.inPlace 11 = ["internal/bytealg.IndexByteString", "internal/bytealg.IndexString"] := by unfold Program.inPlace; rw [closure11]; kernel_rfl
theorem unfollowed11 : Tryd.prog.unfollowed 11 = true := by unfold Program.unfollowed; rw [closure11]; kernel_rfl
theorem named11 : Tryd.prog.varsNamed 11 = ["unicode/utf8.first", "unicode/utf8.acceptRanges", "internal/bytealg.MaxLen"] := by unfold Program.varsNamed; rw [closure11]; kernel_rfl
theorem recurses11 : Tryd.prog.recurses 11 = true := by
  unfold Program.recurses
  rw [unfollowed11]; rfl
theorem facts_FnExactStakesToAdd : joinedFacts Tryd.prog 11 Tryd.f11 (OpenSpec.ofChange Rows.fnExactStakesToAddSpec).bare Rows.fnExactStakesToAddRow = true := by
  unfold joinedFacts
  rw [inPlace11, unfollowed11, recurses11, named11]
  kernel_rfl
end Go.Proofs.YtbmdggcfoohmgaaDoor.clo
