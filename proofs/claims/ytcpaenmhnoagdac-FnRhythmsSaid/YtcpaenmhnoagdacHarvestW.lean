/-
  The way back over the years: contracts of the program's.
-/
import Derived.Test.YtcpaenmhnoagdacHarvest
import Derived.Test.YtcpaenmhnoagdacChoice
import Derived.Test.YtcpaenmhnoagdacOwnV
import Derived.Test.YtcpaenmhnoagdacBedY
import Derived.Deep.CutRange
import Derived.Deep.RegionWith
namespace Go.Proofs.Ytcpaenmhnoagdac.rod
open Go.ChangeShapes Go.WideShapes Go.ChangeAt Go.RowKit Go.Proofs.Ytcpaenmhnoagdac.mem Go.Proofs.Ytcpaenmhnoagdac.nums
set_option linter.unusedVariables false

theorem befB_more {n p q : Nat} (hp : p < 2 ^ n) (hq : q < 2 ^ n) (hn : n ≤ 16) : befB 16 p q = befB n p q := by
  unfold befB
  rw [idxs_more p.testBit 16 hn (fun i hi => bit_out hp hi), idxs_more q.testBit 16 hn (fun i hi => bit_out hq hi)]

/-- the cells of six sums and sets -/
def hvV (f : Nat → Int × Nat) (i : Nat) : Value := if i % 2 = 0 then .int .u32 (f (i / 2)).2 else .int .i64 (f (i / 2)).1
theorem hvV_0 (f : Nat → Int × Nat) (k : Nat) : hvV f (k * 2) = .int .u32 (f k).2 := by unfold hvV; rw [if_pos (by omega), show k * 2 / 2 = k by omega]
theorem hvV_1 (f : Nat → Int × Nat) (k : Nat) : hvV f (k * 2 + 1) = .int .i64 (f k).1 := by unfold hvV; rw [if_neg (by omega), show (k * 2 + 1) / 2 = k by omega]

theorem hv_sum {m : Nat} {Y : Nat → Int} {N : Nat} (m1 : 1 ≤ m) (hY : ∀ i, i < m → 0 ≤ Y i ∧ Y i ≤ 10000) : ∀ r a, 0 ≤ (hv m Y N r a).1 ∧ (hv m Y N r a).1 ≤ 10000 * r
  | 0, a => by simp [hv]
  | r + 1, a => by
    have h1 := hv_sum m1 hY (N := N) r 1
    have h2 := hv_sum m1 hY (N := N) r (min (a + 1) 5)
    have h3 := yl_bd (t := (a : Int)) m1 hY (by omega)
    by_cases hc : ky (hv m Y N r (min (a + 1) 5)).1 (hv m Y N r (min (a + 1) 5)).2 < ky ((hv m Y N r 1).1 + yl m Y a) ((hv m Y N r 1).2 ||| 2 ^ (N - (r + 1)))
    · rw [hv_cut hc]; exact ⟨by show 0 ≤ (hv m Y N r 1).1 + yl m Y a; omega, by show (hv m Y N r 1).1 + yl m Y a ≤ _; omega⟩
    · rw [hv_no hc]; omega
theorem own_zero12 (w : World) (T : TypeId) (f : Nat → Int × Nat) (hf : ∀ i, f i = (0, 0)) : OwnV (w.alloc (Obj.cells #[Value.int IntKind.u32 0, Value.int IntKind.i64 0, Value.int IntKind.u32 0, Value.int IntKind.i64 0, Value.int IntKind.u32 0, Value.int IntKind.i64 0, Value.int IntKind.u32 0, Value.int IntKind.i64 0, Value.int IntKind.u32 0, Value.int IntKind.i64 0, Value.int IntKind.u32 0, Value.int IntKind.i64 0] T)) w.heap.size T 12 (hvV f) := by
  refine ⟨_, Go.Deep.blk_alloc_new _ _, by decide, fun i hi => ?_⟩
  unfold hvV
  rw [hf]
  match i, hi with
  | 0, _ => rfl
  | 1, _ => rfl
  | 2, _ => rfl
  | 3, _ => rfl
  | 4, _ => rfl
  | 5, _ => rfl
  | 6, _ => rfl
  | 7, _ => rfl
  | 8, _ => rfl
  | 9, _ => rfl
  | 10, _ => rfl
  | 11, _ => rfl
theorem own_zero2 (w : World) (T : TypeId) : OwnV (w.alloc (Obj.cells #[Value.int IntKind.u32 0, Value.int IntKind.i64 0] T)) w.heap.size T 2 (hvV fun _ => (0, 0)) := by
  refine ⟨_, Go.Deep.blk_alloc_new _ _, by decide, fun i hi => ?_⟩
  match i, hi with
  | 0, _ => rfl
  | 1, _ => rfl
theorem ownV_alloc {w : World} {g n : Nat} {E : TypeId} {V : Nat → Value} (h : OwnV w g E n V) (o : Obj) : OwnV (w.alloc o) g E n V := h.of_block (Go.Deep.blk_alloc_lt _ _ _ h.lt)
/-- a sum and a set put to their place -/
theorem own_put {W : World} {g k : Nat} {T : TypeId} {f : Nat → Int × Nat} {V z : Nat → Value} {s : Int} {p : Nat} (h : OwnV W g T 12 V) (hV : ∀ i, i < 12 → i ≠ k * 2 → i ≠ k * 2 + 1 → V i = if i < k * 2 then hvV f i else z i) (hf : f k = (s, p)) :
    OwnV ((W.setCell ⟨g, k * 2, none⟩ (.int .u32 p)).setCell ⟨g, k * 2 + 1, none⟩ (.int .i64 s)) g T 12 (fun i => if i < (k + 1) * 2 then hvV f i else z i) := by
  refine ((h.set (k * 2) (.int .u32 p)).set (k * 2 + 1) (.int .i64 s)).congr ?_
  intro i hi
  by_cases e1 : i = k * 2 + 1
  · subst e1; rw [if_pos rfl, if_pos (by omega), hvV_1, hf]
  rw [if_neg e1]
  by_cases e0 : i = k * 2
  · subst e0; rw [if_pos rfl, if_pos (by omega), hvV_0, hf]
  rw [if_neg e0, hV i hi e0 e1]
  by_cases e2 : i < k * 2
  · rw [if_pos e2, if_pos (by omega)]
  · rw [if_neg e2, if_neg (by omega)]

end Go.Proofs.Ytcpaenmhnoagdac.rod
