/-
  What FnWeaves leads to: the closed facts of its row.
-/
import Derived.Test.YtlepgkmpbhlajaaGreatDoorClo
namespace Go.Proofs.YtlepgkmpbhlajaaGreatDoor.clo
set_option linter.unusedVariables false

def c3 : List Nat := [3, 4, 5, 11, 10, 19, 21, 29, 20, 6, 7, 12, 17, 22, 31, 30, 32, 34, 40, 33, 36, 43, 52, 41, 50, 42, 51, 59, 73, 82, 60, 61, 62, 35, 13, 14, 24, 39, 48, 57, 71, 81, 72, 49, 58, 23, 37, 44, 38, 45, 53, 63, 64, 65, 66, 67, 74, 75, 76, 77, 78, 69, 46, 54, 68, 70, 79, 80, 47, 56, 55, 8, 15, 16, 25, 9, 18, 27, 28, 26]
theorem sub3 : ∀ g, g ∈ c3 → g ∈ all := by
  have e : (c3.all fun h => all.contains h) = true := by decide +kernel
  exact fun g hg => List.contains_iff_mem.1 (List.all_eq_true.1 e g hg)
theorem closure3 : Tryz.prog.closure 3 = c3 := (closure_is (sub3 3 (by decide +kernel))).trans (by decide +kernel)
theorem inPlace3 : Tryz.prog.inPlace 3 = ["internal/bytealg.IndexByteString", "internal/bytealg.IndexString", "sync/atomic.LoadUint32", "(*internal/sync.Mutex).Lock", "internal/race.Disable", "sync/atomic.CompareAndSwapInt32", "internal/race.Enable", "internal/race.Acquire", "(*internal/sync.Mutex).lockSlow", "internal/sync.runtime_canSpin", "internal/sync.runtime_doSpin", "internal/sync.throw", "internal/sync.runtime_nanotime", "internal/sync.runtime_SemacquireMutex", "sync/atomic.AddInt32", "(*internal/sync.Mutex).Unlock", "internal/race.ReleaseMerge", "(*internal/sync.Mutex).unlockSlow", "internal/sync.fatal", "internal/sync.runtime_Semrelease", "sync/atomic.StoreUint32"] := by unfold Program.inPlace; rw [closure3]; kernel_rfl
theorem unfollowed3 : Tryz.prog.unfollowed 3 = true := by unfold Program.unfollowed; rw [closure3]; kernel_rfl
theorem named3 : Tryz.prog.varsNamed 3 = ["unicode/utf8.first", "unicode/utf8.acceptRanges", "internal/bytealg.MaxLen"] := by unfold Program.varsNamed; rw [closure3]; kernel_rfl
theorem recurses3 : Tryz.prog.recurses 3 = true := by
  unfold Program.recurses
  rw [unfollowed3]; rfl
theorem facts_FnWeaves : joinedFacts Tryz.prog 3 Tryz.f3 (OpenSpec.ofChange Rows.fnWeavesSpec).bare Rows.fnWeavesRow = true := by
  unfold joinedFacts
  rw [inPlace3, unfollowed3, recurses3, named3]
  kernel_rfl
end Go.Proofs.YtlepgkmpbhlajaaGreatDoor.clo
