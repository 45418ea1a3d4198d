/-
  A bed in memory: a slice of numbers and an age. Contracts of its validity and of what it yields.
-/
import Derived.Test.YtakcgeafcecimaaDoorIn
namespace Go.Proofs.YtakcgeafcecimaaDoor.rod
open Go.ChangeShapes Go.WideShapes Go.ChangeAt Go.RowKit Go.Proofs.YtakcgeafcecimaaDoor.mem
set_option linter.unusedVariables false

/-- a bed lies in two cells from offset o of block b on: a slice of m numbers, nil or not, and an age -/
def BedAt (w : World) (b o m : Nat) (Y : Nat → Int) (a : Int) : Prop :=
  (∃ A c, w.cell? ⟨b, o, none⟩ = some (.slice A m c) ∧ Sl w A m 1 Y) ∧ w.cell? ⟨b, o + 1, none⟩ = some (.int .i64 a)
theorem BedAt.below {w w' : World} {b o m : Nat} {Y : Nat → Int} {a : Int} (h : BedAt w b o m Y a) (hb : Below w.heap.size w w') (hlt : b < w.heap.size) : BedAt w' b o m Y a := by
  obtain ⟨⟨A, c, h0, hs⟩, h1⟩ := h
  exact ⟨⟨A, c, (hb.cell (p := ⟨b, o, none⟩) hlt).trans h0, hs.below hb (Nat.le_refl _)⟩, (hb.cell (p := ⟨b, o + 1, none⟩) hlt).trans h1⟩
theorem BedAt.drew {w w' : World} {b o m : Nat} {Y : Nat → Int} {a : Int} (d : Drew w w') (h : BedAt w b o m Y a) : BedAt w' b o m Y a := by obtain ⟨k, rfl⟩ := d; exact h

/-- the first n numbers are yields -/
def allY (Y : Nat → Int) : Nat → Bool
  | 0 => true
  | n + 1 => allY Y n && inB (Y n) 0 10000
theorem allY_le {Y : Nat → Int} {n : Nat} : ∀ {m : Nat}, m ≤ n → allY Y n = true → allY Y m = true := by
  induction n with
  | zero => intro m h k; obtain rfl : m = 0 := by omega
            exact k
  | succ n ih =>
    intro m h k
    by_cases e : m = n + 1
    · subst e; exact k
    · simp only [allY, Bool.and_eq_true] at k
      exact ih (by omega) k.1
theorem allY_no {Y : Nat → Int} {n i : Nat} (hi : i < n) (h : inB (Y i) 0 10000 = false) : allY Y n = false := by
  cases e : allY Y n
  · rfl
  · have := allY_le (m := i + 1) hi e
    simp only [allY, h, Bool.and_false] at this
    cases this
theorem allY_at {Y : Nat → Int} {n i : Nat} (hi : i < n) (h : allY Y n = true) : 0 ≤ Y i ∧ Y i ≤ 10000 := by
  have := allY_le (m := i + 1) hi h
  simp only [allY, Bool.and_eq_true] at this
  exact inB_of this.2
/-- a bed is valid -/
def bedB (m : Nat) (Y : Nat → Int) (a : Int) : Bool := allY Y m && (inB m 1 5 && inB a 0 m)
theorem bedB_of {m : Nat} {Y : Nat → Int} {a : Int} (h : bedB m Y a = true) : (1 ≤ m ∧ m ≤ 5) ∧ (0 ≤ a ∧ a ≤ m) ∧ ∀ i, i < m → 0 ≤ Y i ∧ Y i ≤ 10000 := by
  unfold bedB at h
  simp only [Bool.and_eq_true] at h
  obtain ⟨h1, h2, h3⟩ := h
  have a1 := inB_of h2
  have a2 := inB_of h3
  exact ⟨by omega, a2, fun i hi => allY_at hi h1⟩

end Go.Proofs.YtakcgeafcecimaaDoor.rod
