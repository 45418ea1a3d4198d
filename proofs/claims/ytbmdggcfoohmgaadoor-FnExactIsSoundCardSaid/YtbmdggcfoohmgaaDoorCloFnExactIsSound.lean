/-
  What FnExactIsSound leads to: the closed facts of its row.
-/
import Derived.Test.YtbmdggcfoohmgaaDoorClo
namespace Go.Proofs.YtbmdggcfoohmgaaDoor.clo
set_option linter.unusedVariables false

def c10 : List Nat := [10, 22, 74, 113, 111, 81, 154, 75, 116, 122, 120, 123, 118, 157, 114, 59, 67, 48, 71, 112, 148, 147, 149, 151, 167, 150, 153, 170, 185, 168, 183, 169, 184, 203, 186, 205, 204, 188, 187, 152, 121, 69, 68, 128, 129, 119, 158, 133, 130, 127, 161]
theorem sub10 : ∀ g, g ∈ c10 → g ∈ all := by
  have e : (c10.all fun h => all.contains h) = true := by decide +kernel
  exact fun g hg => List.contains_iff_mem.1 (List.all_eq_true.1 e g hg)
theorem closure10 : Tryd.prog.closure 10 = c10 := (closure_is (sub10 10 (by decide +kernel))).trans (by decide +kernel)
theorem inPlace10 : Tryd.prog.inPlace 10 = ["internal/bytealg.IndexByteString", "internal/bytealg.IndexString"] := by unfold Program.inPlace; rw [closure10]; kernel_rfl
theorem unfollowed10 : Tryd.prog.unfollowed 10 = true := by unfold Program.unfollowed; rw [closure10]; kernel_rfl
theorem named10 : Tryd.prog.varsNamed 10 = ["unicode/utf8.first", "unicode/utf8.acceptRanges", "internal/bytealg.MaxLen"] := by unfold Program.varsNamed; rw [closure10]; kernel_rfl
theorem recurses10 : Tryd.prog.recurses 10 = true := by
  unfold Program.recurses
  rw [unfollowed10]; rfl
theorem facts_FnExactIsSound : joinedFacts Tryd.prog 10 Tryd.f10 (OpenSpec.ofChange Rows.fnExactIsSoundSpec).bare Rows.fnExactIsSoundRow = true := by
  unfold joinedFacts
  rw [inPlace10, unfollowed10, recurses10, named10]
  kernel_rfl
end Go.Proofs.YtbmdggcfoohmgaaDoor.clo
