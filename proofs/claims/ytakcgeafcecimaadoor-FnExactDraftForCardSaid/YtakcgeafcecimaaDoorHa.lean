/-
  Contracts on shapes: validity, bounds, numbers of stakes. No condition of a statement lies here.
-/
import Derived.Test.YtakcgeafcecimaaDoorOpen
import Derived.Test.YtakcgeafcecimaaDoorNums
import Derived.Test.YtakcgeafcecimaaDoorIn
namespace Go.Proofs.YtakcgeafcecimaaDoor.shp
open Go.ChangeShapes Go.WideShapes Go.ChangeAt Go.RowKit Go.Proofs.YtakcgeafcecimaaDoor.mem Go.Proofs.YtakcgeafcecimaaDoor.rod Go.Proofs.YtakcgeafcecimaaDoor.nums
set_option linter.unusedVariables false
set_option maxRecDepth 100000

theorem _root_.Go.Proofs.YtakcgeafcecimaaDoor.mem.Drew.below {w wr : World} (h : Drew w wr) : Below w.heap.size w wr := by obtain ⟨m, rfl⟩ := h; exact drewN_below (Below.refl _ _) m
/-- the first n numbers are within bounds -/
def allIn (l h : Int) (X : Nat → Int) : Nat → Bool
  | 0 => true
  | n + 1 => allIn l h X n && inB (X n) l h
theorem allIn_no {l h : Int} {X : Nat → Int} {k : Nat} : ∀ {n : Nat}, k < n → inB (X k) l h = false → allIn l h X n = false
  | 0, hk, _ => absurd hk (by omega)
  | n + 1, hk, hv => by
    unfold allIn
    by_cases e : k = n
    · subst e; rw [hv, Bool.and_false]
    · rw [allIn_no (by omega) hv, Bool.false_and]
theorem allIn_at {l h : Int} {X : Nat → Int} {k : Nat} : ∀ {n : Nat}, allIn l h X n = true → k < n → l ≤ X k ∧ X k ≤ h
  | 0, _, hk => absurd hk (by omega)
  | n + 1, hv, hk => by
    unfold allIn at hv
    rw [Bool.and_eq_true] at hv
    by_cases e : k = n
    · subst e; exact inB_of hv.2
    · exact allIn_at hv.1 (by omega)
theorem allIn_of {l h : Int} {X : Nat → Int} : ∀ {n : Nat}, (∀ k, k < n → l ≤ X k ∧ X k ≤ h) → allIn l h X n = true
  | 0, _ => rfl
  | n + 1, hv => by
    unfold allIn
    rw [allIn_of (fun k hk => hv k (by omega)), inB_yes (hv n (by omega)).1 (hv n (by omega)).2]; rfl
/-- these are levels of a shape -/
def shpB (n : Nat) (X : Nat → Int) : Bool := decide (0 < n) && (decide (n ≤ 12) && allIn 1 5000 X n)
theorem shpB_of {n : Nat} {X : Nat → Int} (h : shpB n X = true) : 0 < n ∧ n ≤ 12 ∧ ∀ k, k < n → 1 ≤ X k ∧ X k ≤ 5000 := by
  unfold shpB at h
  simp only [Bool.and_eq_true, decide_eq_true_eq] at h
  exact ⟨h.1, h.2.1, fun k hk => allIn_at h.2.2 hk⟩
theorem shpB_yes {n : Nat} {X : Nat → Int} (h0 : 0 < n) (h1 : n ≤ 12) (h : allIn 1 5000 X n = true) : shpB n X = true := by unfold shpB; simp [h0, h1, h]
theorem shpB_no {n : Nat} {X : Nat → Int} (h : allIn 1 5000 X n = false) : shpB n X = false := by unfold shpB; simp [h]
theorem shpB_len {n : Nat} {X : Nat → Int} (h : ¬ (0 < n ∧ n ≤ 12)) : shpB n X = false := by
  unfold shpB
  by_cases a : 0 < n
  · simp [a, show ¬ n ≤ 12 by omega]
  · simp [a]

/-- these tell how far stakes may be apart -/
def aptB (l h : Int) : Bool := inB l 1 200 && inB h l 200
theorem aptB_of {l h : Int} (e : aptB l h = true) : 1 ≤ l ∧ l ≤ h ∧ h ≤ 200 := by
  unfold aptB at e
  rw [Bool.and_eq_true] at e
  have h1 := inB_of e.1
  have h2 := inB_of e.2
  omega
end Go.Proofs.YtakcgeafcecimaaDoor.shp
