/-
  The parts of sync.Once where one goroutine alone runs: the lock is taken and let go; the word 'done' is read and written. A Replacer of the call's own as one block of five cells.
-/
import Derived.Test.YtlepgkmpbhlajaaGreatDoorMem
import Derived.Tactics
import Derived.Tactics2
import Derived.Defers
import Derived.Laws.Pointers
import Derived.Laws.LoneSync
import Derived.Laws.NewBlocks
import Derived.RegionTactic
import Derived.RegionCalls
import Derived.ChangeAlike
namespace Go.Proofs.YtlepgkmpbhlajaaGreatDoor.rp
open Go.ChangeShapes Go.WideShapes Go.ChangeAt Go.RowKit Go.Proofs.YtlepgkmpbhlajaaGreatDoor.mem
set_option linter.unusedVariables false

/-- a Replacer of the call's own: its five cells -/
def Rep (w : World) (b : Nat) (v0 v1 v2 v3 v4 : Value) : Prop := w.heap[b]? = some (.cells #[v0, v1, v2, v3, v4] 68 (0, 0))
section
variable {w w' : World} {b : Nat} {v0 v1 v2 v3 v4 : Value}
theorem Rep.c0 (h : Rep w b v0 v1 v2 v3 v4) : w.cell? ⟨b, 0, none⟩ = some v0 := by unfold Rep at h; simp [World.cell?, h]
theorem Rep.c1 (h : Rep w b v0 v1 v2 v3 v4) : w.cell? ⟨b, 1, none⟩ = some v1 := by unfold Rep at h; simp [World.cell?, h]
theorem Rep.c2 (h : Rep w b v0 v1 v2 v3 v4) : w.cell? ⟨b, 2, none⟩ = some v2 := by unfold Rep at h; simp [World.cell?, h]
theorem Rep.c3 (h : Rep w b v0 v1 v2 v3 v4) : w.cell? ⟨b, 3, none⟩ = some v3 := by unfold Rep at h; simp [World.cell?, h]
theorem Rep.c4 (h : Rep w b v0 v1 v2 v3 v4) : w.cell? ⟨b, 4, none⟩ = some v4 := by unfold Rep at h; simp [World.cell?, h]
theorem Rep.fr (h : Rep w b v0 v1 v2 v3 v4) (j : Nat) : w.frozen? ⟨b, j, none⟩ = false := by unfold Rep at h; simp [World.frozen?, h]
theorem Rep.lt (h : Rep w b v0 v1 v2 v3 v4) : b < w.heap.size := by
  obtain ⟨hlt, _⟩ := Array.getElem?_eq_some_iff.1 h
  exact hlt
theorem Rep.s0 (h : Rep w b v0 v1 v2 v3 v4) (v : Value) : Rep (w.setCell ⟨b, 0, none⟩ v) b v v1 v2 v3 v4 := by unfold Rep at *; simp [World.setCell, Array.getElem?_modify, h]
theorem Rep.s1 (h : Rep w b v0 v1 v2 v3 v4) (v : Value) : Rep (w.setCell ⟨b, 1, none⟩ v) b v0 v v2 v3 v4 := by unfold Rep at *; simp [World.setCell, Array.getElem?_modify, h]
theorem Rep.s3 (h : Rep w b v0 v1 v2 v3 v4) (v : Value) : Rep (w.setCell ⟨b, 3, none⟩ v) b v0 v1 v2 v v4 := by unfold Rep at *; simp [World.setCell, Array.getElem?_modify, h]
theorem Rep.s4 (h : Rep w b v0 v1 v2 v3 v4) (v : Value) : Rep (w.setCell ⟨b, 4, none⟩ v) b v0 v1 v2 v3 v := by unfold Rep at *; simp [World.setCell, Array.getElem?_modify, h]
theorem Rep.of_block (h : Rep w b v0 v1 v2 v3 v4) (e : w'.heap[b]? = w.heap[b]?) : Rep w' b v0 v1 v2 v3 v4 := e.trans h
theorem Rep.below {K : Nat} (h : Rep w b v0 v1 v2 v3 v4) (hb : Below K w w') (hK : b < K) : Rep w' b v0 v1 v2 v3 v4 := h.of_block (hb.block b hK)
end
theorem bset {K : Nat} {w w' : World} (h : Below K w w') {a : Addr} (ha : K ≤ a.block) (v : Value) : Below K w (w'.setCell a v) := Below.setCell h ha v

theorem disable (w : World) : (callFunc 63 #[]).run Tryz.prog w = .ok (.value (.tuple #[])) w := run_call_mark0 Tryz.func63 (by kernel_rfl) (by kernel_rfl) (by kernel_rfl) .disable (by kernel_rfl) w
theorem enable (w : World) : (callFunc 65 #[]).run Tryz.prog w = .ok (.value (.tuple #[])) w := run_call_mark0 Tryz.func65 (by kernel_rfl) (by kernel_rfl) (by kernel_rfl) .enable (by kernel_rfl) w
theorem acquire (a : Addr) (w : World) : (callFunc 66 #[.pointer (some a)]).run Tryz.prog w = .ok (.value (.tuple #[])) w := run_call_marked Tryz.func66 (by kernel_rfl) (by kernel_rfl) (by kernel_rfl) .acquire (by kernel_rfl) a w
theorem releaseMerge (a : Addr) (w : World) : (callFunc 68 #[.pointer (some a)]).run Tryz.prog w = .ok (.value (.tuple #[])) w := run_call_marked Tryz.func68 (by kernel_rfl) (by kernel_rfl) (by kernel_rfl) .releaseMerge (by kernel_rfl) a w

set_option maxHeartbeats 4000000 in
set_option maxRecDepth 100000 in
theorem store_d (a : Addr) (x : Value) (u : FrameMode) (w : World) (hc : w.cell? a = some x) (hz : w.frozen? a = false) :
    CallsD Tryz.prog 47 #[.pointer (some a), .bool true] u w fun e u' w' => u' = u ∧ (e = .returned (.tuple #[]) ∧ w' = w.drew.setCell a (.int .u32 1)) := by
  have hc' : w.drew.cell? a = some x := by go_simp
  have hz' : w.drew.frozen? a = false := by go_simp
  have hst := run_call_store (P := Tryz.prog) Tryz.func55 (by kernel_rfl) (by kernel_rfl) (by kernel_rfl) (by kernel_rfl) (k := .u32) (y := 1) hc' hz'
  go_enter_d Tryz.func47, Tryz.ntmps47
  go_wp2
  go_region_calls
  all_goals (go_end0; exact ⟨rfl, rfl⟩)

set_option maxHeartbeats 4000000 in
set_option maxRecDepth 100000 in
theorem unlock_d (a : Addr) (u : FrameMode) (w : World) (hc : w.cell? a = some (.int .i32 1)) (hz : w.frozen? a = false) :
    CallsD Tryz.prog 46 #[.pointer (some a)] u w fun e u' w' => u' = u ∧ (e = .returned (.tuple #[]) ∧ w' = w.setCell a (.int .i32 0)) := by
  have hd := disable
  have he := enable
  have hr := releaseMerge
  have hadd := run_call_add (P := Tryz.prog) Tryz.func69 (by kernel_rfl) (by kernel_rfl) (by kernel_rfl) .i32 (by kernel_rfl) (y := -1) (s := 0) hc hz (by simp [go_sem]; rfl)
  have hcv := run_convert_to_unsafe (P := Tryz.prog) (src := 126) (dst := 130) Tryz.underlying126 Tryz.underlying130 (by kernel_rfl) hc
  go_enter_d Tryz.func46, Tryz.ntmps46
  go_wp2
  go_end0
  go_wp2
  all_goals (go_end0; exact ⟨rfl, rfl⟩)

set_option maxHeartbeats 4000000 in
set_option maxRecDepth 100000 in
theorem lock_c (a : Addr) (w : World) (hc : w.cell? a = some (.int .i32 0)) (hz : w.frozen? a = false) :
    Calls Tryz.prog 45 #[.pointer (some a)] w fun e w' => e = .returned (.tuple #[]) ∧ w' = w.setCell a (.int .i32 1) := by
  have hd := disable
  have he := enable
  have ha := acquire
  have hcas := run_call_cas_hit (P := Tryz.prog) Tryz.func64 (by kernel_rfl) (by kernel_rfl) (by kernel_rfl) .i32 (by kernel_rfl) (y := 1) hc hz
  have hc' : (w.setCell a (.int .i32 1)).cell? a = some (.int .i32 1) := World.cell?_setCell_same w a _ hc
  have hcv := run_convert_to_unsafe (P := Tryz.prog) (src := 126) (dst := 130) Tryz.underlying126 Tryz.underlying130 (by kernel_rfl) hc'
  go_enter Tryz.func45, Tryz.ntmps45
  go_wp2
  first | go_end0 | (simp only [Exit.inBlock, Exit.then]; refine bodyPost_ret (results_none rfl _ _ _) rfl ?_) | refine bodyPost_ret (results_none rfl _ _ _) rfl ?_
  go_wp2
  all_goals (go_end0; exact ⟨rfl, rfl⟩)

end Go.Proofs.YtlepgkmpbhlajaaGreatDoor.rp
