/-
  What FnExactTwillText leads to: the closed facts of its row.
-/
import Derived.Test.YtakcgeafcecimaaDoorClo
namespace Go.Proofs.YtakcgeafcecimaaDoor.clo
set_option linter.unusedVariables false

def c4 : List Nat := [4, 10, 26, 12, 29, 11, 27, 15, 35, 51, 28, 13, 30, 36, 37, 19, 38, 52, 31, 39, 53, 64, 65, 76, 75, 77, 66, 67, 78, 79, 82, 83, 32, 40, 54, 68, 55, 69, 41, 42, 7, 23]
theorem sub4 : ∀ g, g ∈ c4 → g ∈ all := by
  have e : (c4.all fun h => all.contains h) = true := by decide +kernel
  exact fun g hg => List.contains_iff_mem.1 (List.all_eq_true.1 e g hg)
theorem closure4 : Tryd.prog.closure 4 = c4 := (closure_is (sub4 4 (by decide +kernel))).trans (by decide +kernel)
theorem inPlace4 : Tryd.prog.inPlace 4 = ["internal/abi.NoEscape", "internal/bytealg.MakeNoZero"] := by unfold Program.inPlace; rw [closure4]; kernel_rfl
theorem unfollowed4 : Tryd.prog.unfollowed 4 = true := by unfold Program.unfollowed; rw [closure4]; kernel_rfl
theorem named4 : Tryd.prog.varsNamed 4 = ["internal/strconv.uint64pow10", "math/bits.deBruijn32tab", "math/bits.deBruijn64tab"] := by unfold Program.varsNamed; rw [closure4]; kernel_rfl
theorem recurses4 : Tryd.prog.recurses 4 = true := by
  unfold Program.recurses
  rw [unfollowed4]; rfl
theorem facts_FnExactTwillText : joinedFacts Tryd.prog 4 Tryd.f4 (OpenSpec.ofChange Rows.fnExactTwillTextSpec).bare Rows.fnExactTwillTextRow = true := by
  unfold joinedFacts
  rw [inPlace4, unfollowed4, recurses4, named4]
  kernel_rfl
end Go.Proofs.YtakcgeafcecimaaDoor.clo
