/-
  What FnExactValidStroke leads to: the closed facts of its row.
-/
import Derived.Test.YtbmdggcfoohmgaaDoorClo
namespace Go.Proofs.YtbmdggcfoohmgaaDoor.clo
set_option linter.unusedVariables false

def c5 : List Nat := [5, 47, 111, 81, 48, 71, 112, 148, 147, 149, 151, 167, 150, 153, 170, 185, 168, 183, 169, 184, 203, 186, 205, 204, 188, 187, 152]
theorem sub5 : ∀ g, g ∈ c5 → g ∈ all := by
  have e : (c5.all fun h => all.contains h) = true := by decide +kernel
  exact fun g hg => List.contains_iff_mem.1 (List.all_eq_true.1 e g hg)
theorem closure5 : Tryd.prog.closure 5 = c5 := (closure_is (sub5 5 (by decide +kernel))).trans (by decide +kernel)
theorem inPlace5 : Tryd.prog.inPlace 5 = ["internal/bytealg.IndexByteString", "internal/bytealg.IndexString"] := by unfold Program.inPlace; rw [closure5]; kernel_rfl
theorem unfollowed5 : Tryd.prog.unfollowed 5 = false := by unfold Program.unfollowed; rw [closure5]; kernel_rfl
theorem named5 : Tryd.prog.varsNamed 5 = ["unicode/utf8.first", "unicode/utf8.acceptRanges", "internal/bytealg.MaxLen"] := by unfold Program.varsNamed; rw [closure5]; kernel_rfl
theorem recurses5 : Tryd.prog.recurses 5 = false := by
  unfold Program.recurses
  rw [unfollowed5, closure5, Bool.false_or]
  refine List.any_eq_false.2 fun g hg => ?_
  have hg' := sub5 g hg
  rw [hT g hg']
  have e : (c5.any fun g => (T g).any fun h => (cv T 706 [h] []).contains g) = false := by decide +kernel
  have e2 := List.any_eq_false.1 e g hg
  intro h
  apply e2
  obtain ⟨x, hx, hxx⟩ := List.any_eq_true.1 h
  exact List.any_eq_true.2 ⟨x, hx, by rw [← closure_is (hC g hg' x hx)]; exact hxx⟩
theorem facts_FnExactValidStroke : joinedFacts Tryd.prog 5 Tryd.f5 (OpenSpec.ofChange Rows.fnExactValidStrokeSpec).bare Rows.fnExactValidStrokeRow = true := by
  unfold joinedFacts
  rw [inPlace5, unfollowed5, recurses5, named5]
  kernel_rfl
end Go.Proofs.YtbmdggcfoohmgaaDoor.clo
