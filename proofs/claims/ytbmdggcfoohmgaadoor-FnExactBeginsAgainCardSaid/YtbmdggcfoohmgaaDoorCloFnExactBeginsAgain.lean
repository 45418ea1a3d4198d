/-
  What FnExactBeginsAgain leads to: the closed facts of its row.
-/
import Derived.Test.YtbmdggcfoohmgaaDoorClo
namespace Go.Proofs.YtbmdggcfoohmgaaDoor.clo
set_option linter.unusedVariables false

def c8 : List Nat := [8, 53, 113, 111, 81, 154, 118, 157, 54, 67, 48, 71, 112, 148, 147, 149, 151, 167, 150, 153, 170, 185, 168, 183, 169, 184, 203, 186, 205, 204, 188, 187, 152, 119, 158]
theorem sub8 : ∀ g, g ∈ c8 → g ∈ all := by
  have e : (c8.all fun h => all.contains h) = true := by decide +kernel
  exact fun g hg => List.contains_iff_mem.1 (List.all_eq_true.1 e g hg)
theorem closure8 : Tryd.prog.closure 8 = c8 := (closure_is (sub8 8 (by decide +kernel))).trans (by decide +kernel)
theorem inPlace8 : Tryd.prog.inPlace 8 = ["internal/bytealg.IndexByteString", "internal/bytealg.IndexString"] := by unfold Program.inPlace; rw [closure8]; kernel_rfl
theorem unfollowed8 : Tryd.prog.unfollowed 8 = false := by unfold Program.unfollowed; rw [closure8]; kernel_rfl
theorem named8 : Tryd.prog.varsNamed 8 = ["unicode/utf8.first", "unicode/utf8.acceptRanges", "internal/bytealg.MaxLen"] := by unfold Program.varsNamed; rw [closure8]; kernel_rfl
theorem recurses8 : Tryd.prog.recurses 8 = false := by
  unfold Program.recurses
  rw [unfollowed8, closure8, Bool.false_or]
  refine List.any_eq_false.2 fun g hg => ?_
  have hg' := sub8 g hg
  rw [hT g hg']
  have e : (c8.any fun g => (T g).any fun h => (cv T 706 [h] []).contains g) = false := by decide +kernel
  have e2 := List.any_eq_false.1 e g hg
  intro h
  apply e2
  obtain ⟨x, hx, hxx⟩ := List.any_eq_true.1 h
  exact List.any_eq_true.2 ⟨x, hx, by rw [← closure_is (hC g hg' x hx)]; exact hxx⟩
theorem facts_FnExactBeginsAgain : joinedFacts Tryd.prog 8 Tryd.f8 (OpenSpec.ofChange Rows.fnExactBeginsAgainSpec).bare Rows.fnExactBeginsAgainRow = true := by
  unfold joinedFacts
  rw [inPlace8, unfollowed8, recurses8, named8]
  kernel_rfl
end Go.Proofs.YtbmdggcfoohmgaaDoor.clo
