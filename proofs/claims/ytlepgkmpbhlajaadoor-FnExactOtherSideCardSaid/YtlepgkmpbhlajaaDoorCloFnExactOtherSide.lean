/-
  What FnExactOtherSide leads to: the closed facts of its row.
-/
import Derived.Test.YtlepgkmpbhlajaaDoorClo
namespace Go.Proofs.YtlepgkmpbhlajaaDoor.clo
set_option linter.unusedVariables false

def c4 : List Nat := [4, 29, 68, 38, 30, 69, 36, 84, 93, 92, 94, 96, 110, 95, 98, 113, 129, 111, 127, 112, 128, 139, 153, 162, 140, 141, 142, 97, 70, 71, 86, 101, 118, 134, 151, 161, 152, 119, 135, 85, 99, 114, 100, 115, 130, 143, 144, 145, 146, 147, 154, 155, 156, 157, 158, 149, 116, 131, 148, 150, 159, 160, 117, 133, 132]
theorem sub4 : ∀ g, g ∈ c4 → g ∈ all := by
  have e : (c4.all fun h => all.contains h) = true := by decide +kernel
  exact fun g hg => List.contains_iff_mem.1 (List.all_eq_true.1 e g hg)
theorem closure4 : Tryd.prog.closure 4 = c4 := (closure_is (sub4 4 (by decide +kernel))).trans (by decide +kernel)
theorem inPlace4 : Tryd.prog.inPlace 4 = ["internal/bytealg.IndexByteString", "internal/bytealg.IndexString", "sync/atomic.LoadUint32", "(*internal/sync.Mutex).Lock", "internal/race.Disable", "sync/atomic.CompareAndSwapInt32", "internal/race.Enable", "internal/race.Acquire", "(*internal/sync.Mutex).lockSlow", "internal/sync.runtime_canSpin", "internal/sync.runtime_doSpin", "internal/sync.throw", "internal/sync.runtime_nanotime", "internal/sync.runtime_SemacquireMutex", "sync/atomic.AddInt32", "(*internal/sync.Mutex).Unlock", "internal/race.ReleaseMerge", "(*internal/sync.Mutex).unlockSlow", "internal/sync.fatal", "internal/sync.runtime_Semrelease", "sync/atomic.StoreUint32"] := by unfold Program.inPlace; rw [closure4]; kernel_rfl
theorem unfollowed4 : Tryd.prog.unfollowed 4 = true := by unfold Program.unfollowed; rw [closure4]; kernel_rfl
theorem named4 : Tryd.prog.varsNamed 4 = ["unicode/utf8.first", "unicode/utf8.acceptRanges", "internal/bytealg.MaxLen"] := by unfold Program.varsNamed; rw [closure4]; kernel_rfl
theorem recurses4 : Tryd.prog.recurses 4 = true := by
  unfold Program.recurses
  rw [unfollowed4]; rfl
theorem facts_FnExactOtherSide : joinedFacts Tryd.prog 4 Tryd.f4 (OpenSpec.ofChange Rows.fnExactOtherSideSpec).bare Rows.fnExactOtherSideRow = true := by
  unfold joinedFacts
  rw [inPlace4, unfollowed4, recurses4, named4]
  kernel_rfl
end Go.Proofs.YtlepgkmpbhlajaaDoor.clo
