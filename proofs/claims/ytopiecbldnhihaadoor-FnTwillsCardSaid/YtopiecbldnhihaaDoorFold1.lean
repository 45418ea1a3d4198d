/-
  Contracts of the laws' helpers on slices of whole numbers.
  Contracts on shapes: validity, bounds, numbers of stakes. No condition of a statement lies here.
  Contracts of what a bed yields; of YieldNow, of the model's and of the program's; of the laws' helpers on one bed.
  Contracts of YieldNow, of the model's and of the program's, and of the laws' helpers on one bed.
  Contract of the program's list of indices.
-/
import Derived.Test.YtopiecbldnhihaaDoorMem
import Derived.RegionTactic
import Derived.ChangeAlike
import Derived.Deep.QuietTactic
import Derived.BigQuiet
import Derived.Outline
import Derived.Test.YtopiecbldnhihaaDoorOpen
import Derived.Test.YtopiecbldnhihaaDoorFold2
namespace Go.Proofs.YtopiecbldnhihaaDoor.nums
open Go.ChangeShapes Go.WideShapes Go.ChangeAt Go.RowKit
open Go.Proofs.YtopiecbldnhihaaDoor.mem
set_option linter.unusedVariables false

theorem info_num : (Tryd.prog.info? 2).map (fun i => (i.zero, i.size, i.bytes)) = some (some (.int .i64 0), 1, 8) := by kernel_rfl

end Go.Proofs.YtopiecbldnhihaaDoor.nums

namespace Go.Proofs.YtopiecbldnhihaaDoor.shp
open Go.ChangeShapes Go.WideShapes Go.ChangeAt Go.RowKit Go.Proofs.YtopiecbldnhihaaDoor.mem Go.Proofs.YtopiecbldnhihaaDoor.rod Go.Proofs.YtopiecbldnhihaaDoor.nums
set_option linter.unusedVariables false
set_option maxRecDepth 100000

theorem _root_.Go.Proofs.YtopiecbldnhihaaDoor.mem.Drew.below {w wr : World} (h : Drew w wr) : Below w.heap.size w wr := by obtain ⟨m, rfl⟩ := h; exact drewN_below (Below.refl _ _) m
/-- the first n numbers are within bounds -/
def allIn (l h : Int) (X : Nat → Int) : Nat → Bool
  | 0 => true
  | n + 1 => allIn l h X n && inB (X n) l h
theorem allIn_no {l h : Int} {X : Nat → Int} {k : Nat} : ∀ {n : Nat}, k < n → inB (X k) l h = false → allIn l h X n = false
  | 0, hk, _ => absurd hk (by omega)
  | n + 1, hk, hv => by
    unfold allIn
    by_cases e : k = n
    · subst e; rw [hv, Bool.and_false]
    · rw [allIn_no (by omega) hv, Bool.false_and]
theorem allIn_at {l h : Int} {X : Nat → Int} {k : Nat} : ∀ {n : Nat}, allIn l h X n = true → k < n → l ≤ X k ∧ X k ≤ h
  | 0, _, hk => absurd hk (by omega)
  | n + 1, hv, hk => by
    unfold allIn at hv
    rw [Bool.and_eq_true] at hv
    by_cases e : k = n
    · subst e; exact inB_of hv.2
    · exact allIn_at hv.1 (by omega)
theorem allIn_of {l h : Int} {X : Nat → Int} : ∀ {n : Nat}, (∀ k, k < n → l ≤ X k ∧ X k ≤ h) → allIn l h X n = true
  | 0, _ => rfl
  | n + 1, hv => by
    unfold allIn
    rw [allIn_of (fun k hk => hv k (by omega)), inB_yes (hv n (by omega)).1 (hv n (by omega)).2]; rfl
/-- these are levels of a shape -/
def shpB (n : Nat) (X : Nat → Int) : Bool := decide (0 < n) && (decide (n ≤ 12) && allIn 1 5000 X n)
theorem shpB_of {n : Nat} {X : Nat → Int} (h : shpB n X = true) : 0 < n ∧ n ≤ 12 ∧ ∀ k, k < n → 1 ≤ X k ∧ X k ≤ 5000 := by
  unfold shpB at h
  simp only [Bool.and_eq_true, decide_eq_true_eq] at h
  exact ⟨h.1, h.2.1, fun k hk => allIn_at h.2.2 hk⟩
theorem shpB_yes {n : Nat} {X : Nat → Int} (h0 : 0 < n) (h1 : n ≤ 12) (h : allIn 1 5000 X n = true) : shpB n X = true := by unfold shpB; simp [h0, h1, h]
theorem shpB_no {n : Nat} {X : Nat → Int} (h : allIn 1 5000 X n = false) : shpB n X = false := by unfold shpB; simp [h]
theorem shpB_len {n : Nat} {X : Nat → Int} (h : ¬ (0 < n ∧ n ≤ 12)) : shpB n X = false := by
  unfold shpB
  by_cases a : 0 < n
  · simp [a, show ¬ n ≤ 12 by omega]
  · simp [a]

/-- these tell how far stakes may be apart -/
def aptB (l h : Int) : Bool := inB l 1 200 && inB h l 200
theorem aptB_of {l h : Int} (e : aptB l h = true) : 1 ≤ l ∧ l ≤ h ∧ h ≤ 200 := by
  unfold aptB at e
  rw [Bool.and_eq_true] at e
  have h1 := inB_of e.1
  have h2 := inB_of e.2
  omega
end Go.Proofs.YtopiecbldnhihaaDoor.shp

namespace Go.Proofs.YtopiecbldnhihaaDoor.rod
open Go.ChangeShapes Go.WideShapes Go.ChangeAt Go.RowKit Go.Proofs.YtopiecbldnhihaaDoor.mem Go.Proofs.YtopiecbldnhihaaDoor.nums
set_option linter.unusedVariables false

/-- what a bed yields that was cut t years ago -/
def yl (m : Nat) (Y : Nat → Int) (t : Int) : Int := if t = 0 then 0 else if t ≤ m then Y (t.toNat - 1) else Y (m - 1)
theorem yl_zero {m : Nat} {Y : Nat → Int} : yl m Y 0 = 0 := rfl
theorem yl_in {m : Nat} {Y : Nat → Int} {t : Int} (h : t ≠ 0) (h2 : t ≤ m) : yl m Y t = Y (t.toNat - 1) := by unfold yl; rw [if_neg h, if_pos h2]
theorem yl_out {m : Nat} {Y : Nat → Int} {t : Int} (h : t ≠ 0) (h2 : ¬ t ≤ m) : yl m Y t = Y (m - 1) := by unfold yl; rw [if_neg h, if_neg h2]
theorem yl_bd {m : Nat} {Y : Nat → Int} {t : Int} (hm : 1 ≤ m) (hY : ∀ i, i < m → 0 ≤ Y i ∧ Y i ≤ 10000) (ht : 0 ≤ t) : 0 ≤ yl m Y t ∧ yl m Y t ≤ 10000 := by
  unfold yl
  split
  · omega
  · split
    · exact hY _ (by omega)
    · exact hY _ (by omega)

set_option maxHeartbeats 1000000 in
theorem min_lo (a b : Int) (h : a ≤ b) (w : World) :
    Calls Tryd.prog 66 #[.int .i64 a, .int .i64 b] w fun e w' => e = .returned (.int .i64 a) ∧ w = w' := by
  by_cases h2 : a < b
  · have h3 : ¬ b < a := by omega
    go_enter Tryd.func66, Tryd.ntmps66
    go_wp2
    go_ret
    exact ⟨rfl, rfl⟩
  · obtain rfl : a = b := by omega
    go_enter Tryd.func66, Tryd.ntmps66
    go_wp2
    go_ret
    exact ⟨rfl, rfl⟩
set_option maxHeartbeats 1000000 in
theorem min_hi (a b : Int) (h : b < a) (w : World) :
    Calls Tryd.prog 66 #[.int .i64 a, .int .i64 b] w fun e w' => e = .returned (.int .i64 b) ∧ w = w' := by
  have h3 : ¬ a < b := by omega
  go_enter Tryd.func66, Tryd.ntmps66
  go_wp2
  go_ret
  exact ⟨rfl, rfl⟩

end Go.Proofs.YtopiecbldnhihaaDoor.rod

namespace Go.Proofs.YtopiecbldnhihaaDoor.rod
open Go.ChangeShapes Go.WideShapes Go.ChangeAt Go.RowKit Go.Proofs.YtopiecbldnhihaaDoor.mem Go.Proofs.YtopiecbldnhihaaDoor.nums
set_option linter.unusedVariables false

theorem bedAt_new {w : World} {A : Option Addr} {m c : Nat} {Y : Nat → Int} {a : Int} (T : TypeId) (h : Sl w A m 1 Y) : BedAt (w.alloc (Obj.cells #[.slice A m c, .int .i64 a] T)) w.heap.size 0 m Y a :=
  ⟨⟨A, c, by go_simp, h.below (K := w.heap.size) (by go_grown) (Nat.le_refl _)⟩, by go_simp⟩

/-- the answer is a new bed with memory of its own -/
def NewBed (w : World) (m : Nat) (Y : Nat → Int) (a : Int) (e : Ending) (w' : World) : Prop :=
  ∃ A c, e = .returned (.agg #[.slice A m c, .int .i64 a]) ∧ m ≤ c ∧ c ≤ maxLen ∧ Row w' w.heap.size w'.heap.size A m 1 2 Y ∧ Below w.heap.size w w'

end Go.Proofs.YtopiecbldnhihaaDoor.rod

namespace Go.Proofs.YtopiecbldnhihaaDoor.rod
open Go.ChangeShapes Go.WideShapes Go.ChangeAt Go.RowKit Go.Proofs.YtopiecbldnhihaaDoor.mem Go.Proofs.YtopiecbldnhihaaDoor.nums
set_option linter.unusedVariables false

end Go.Proofs.YtopiecbldnhihaaDoor.rod
