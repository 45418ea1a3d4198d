/-
  What FnExactDraftFor leads to: the closed facts of its row.
-/
import Derived.Test.YtakcgeafcecimaaDoorClo
namespace Go.Proofs.YtakcgeafcecimaaDoor.clo
set_option linter.unusedVariables false

def c3 : List Nat := [3, 5, 14, 15, 16, 17, 6, 18, 19, 33, 44, 43, 45, 47, 56, 46, 49, 59, 72, 57, 70, 58, 71, 80, 60, 73, 81, 62, 61, 48, 20, 34, 50, 63, 74, 22, 21, 7, 23, 8, 24, 9, 25]
theorem sub3 : ∀ g, g ∈ c3 → g ∈ all := by
  have e : (c3.all fun h => all.contains h) = true := by decide +kernel
  exact fun g hg => List.contains_iff_mem.1 (List.all_eq_true.1 e g hg)
theorem closure3 : Tryd.prog.closure 3 = c3 := (closure_is (sub3 3 (by decide +kernel))).trans (by decide +kernel)
theorem inPlace3 : Tryd.prog.inPlace 3 = ["internal/bytealg.IndexByteString", "internal/bytealg.IndexString"] := by unfold Program.inPlace; rw [closure3]; kernel_rfl
theorem unfollowed3 : Tryd.prog.unfollowed 3 = false := by unfold Program.unfollowed; rw [closure3]; kernel_rfl
theorem named3 : Tryd.prog.varsNamed 3 = ["unicode/utf8.first", "unicode/utf8.acceptRanges", "internal/bytealg.MaxLen"] := by unfold Program.varsNamed; rw [closure3]; kernel_rfl
theorem recurses3 : Tryd.prog.recurses 3 = false := by
  unfold Program.recurses
  rw [unfollowed3, closure3, Bool.false_or]
  refine List.any_eq_false.2 fun g hg => ?_
  have hg' := sub3 g hg
  rw [hT g hg']
  have e : (c3.any fun g => (T g).any fun h => (cv T 220 [h] []).contains g) = false := by decide +kernel
  have e2 := List.any_eq_false.1 e g hg
  intro h
  apply e2
  obtain ⟨x, hx, hxx⟩ := List.any_eq_true.1 h
  exact List.any_eq_true.2 ⟨x, hx, by rw [← closure_is (hC g hg' x hx)]; exact hxx⟩
theorem facts_FnExactDraftFor : joinedFacts Tryd.prog 3 Tryd.f3 (OpenSpec.ofChange Rows.fnExactDraftForSpec).bare Rows.fnExactDraftForRow = true := by
  unfold joinedFacts
  rw [inPlace3, unfollowed3, recurses3, named3]
  kernel_rfl
end Go.Proofs.YtakcgeafcecimaaDoor.clo
