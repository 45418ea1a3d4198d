/-
  What FnExactLongestFloat leads to: the closed facts of its row.
-/
import Derived.Test.YtbmdggcfoohmgaaDoorClo
namespace Go.Proofs.YtbmdggcfoohmgaaDoor.clo
set_option linter.unusedVariables false

def c7 : List Nat := [7, 51, 111, 81, 116, 122, 52, 48, 71, 112, 148, 147, 149, 151, 167, 150, 153, 170, 185, 168, 183, 169, 184, 203, 186, 205, 204, 188, 187, 152, 117, 156, 171, 189, 206, 69]
theorem sub7 : ∀ g, g ∈ c7 → g ∈ all := by
  have e : (c7.all fun h => all.contains h) = true := by decide +kernel
  exact fun g hg => List.contains_iff_mem.1 (List.all_eq_true.1 e g hg)
theorem closure7 : Tryd.prog.closure 7 = c7 := (closure_is (sub7 7 (by decide +kernel))).trans (by decide +kernel)
theorem inPlace7 : Tryd.prog.inPlace 7 = ["internal/bytealg.IndexByteString", "internal/bytealg.IndexString"] := by unfold Program.inPlace; rw [closure7]; kernel_rfl
theorem unfollowed7 : Tryd.prog.unfollowed 7 = false := by unfold Program.unfollowed; rw [closure7]; kernel_rfl
theorem named7 : Tryd.prog.varsNamed 7 = ["unicode/utf8.first", "unicode/utf8.acceptRanges", "internal/bytealg.MaxLen"] := by unfold Program.varsNamed; rw [closure7]; kernel_rfl
theorem recurses7 : Tryd.prog.recurses 7 = false := by
  unfold Program.recurses
  rw [unfollowed7, closure7, Bool.false_or]
  refine List.any_eq_false.2 fun g hg => ?_
  have hg' := sub7 g hg
  rw [hT g hg']
  have e : (c7.any fun g => (T g).any fun h => (cv T 706 [h] []).contains g) = false := by decide +kernel
  have e2 := List.any_eq_false.1 e g hg
  intro h
  apply e2
  obtain ⟨x, hx, hxx⟩ := List.any_eq_true.1 h
  exact List.any_eq_true.2 ⟨x, hx, by rw [← closure_is (hC g hg' x hx)]; exact hxx⟩
theorem facts_FnExactLongestFloat : joinedFacts Tryd.prog 7 Tryd.f7 (OpenSpec.ofChange Rows.fnExactLongestFloatSpec).bare Rows.fnExactLongestFloatRow = true := by
  unfold joinedFacts
  rw [inPlace7, unfollowed7, recurses7, named7]
  kernel_rfl
end Go.Proofs.YtbmdggcfoohmgaaDoor.clo
