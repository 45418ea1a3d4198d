/-
  Lists of beds in memory: two cells a bed, a slice of numbers and an age. Contracts of the laws' helpers on them.
-/
import Derived.Test.YtakcgeafcecimaaDoorYieldNow
import Derived.Test.YtakcgeafcecimaaDoorOwnV
namespace Go.Proofs.YtakcgeafcecimaaDoor.rod
open Go.ChangeShapes Go.WideShapes Go.ChangeAt Go.RowKit Go.Proofs.YtakcgeafcecimaaDoor.mem Go.Proofs.YtakcgeafcecimaaDoor.nums
set_option linter.unusedVariables false

/-- a slice value of n beds, nil or not: the j-th has M j numbers, told by Y j, and the age G j -/
def Beds (w : World) (A : Option Addr) (n : Nat) (M : Nat → Nat) (Y : Nat → Nat → Int) (G : Nat → Int) : Prop :=
  0 < n → ∃ b o, A = some ⟨b, o, none⟩ ∧ b < w.heap.size ∧ ∀ j, j < n → BedAt w b (o + j * 2) (M j) (Y j) (G j)
section
variable {w w' : World} {A : Option Addr} {n lo hi : Nat} {M : Nat → Nat} {Y : Nat → Nat → Int} {G : Nat → Int}
theorem Beds.below (h : Beds w A n M Y G) (hb : Below w.heap.size w w') : Beds w' A n M Y G := fun hn => by
  obtain ⟨b, o, e, h1, h2⟩ := h hn
  have := hb.size
  exact ⟨b, o, e, by omega, fun j hj => (h2 j hj).below hb h1⟩
theorem Beds.drew (d : Drew w w') (h : Beds w A n M Y G) : Beds w' A n M Y G := by obtain ⟨k, rfl⟩ := d; exact h
theorem Beds.none_ : Beds w A 0 M Y G := fun h => absurd h (by omega)

/-- the cells of a row of beds -/
def bedV (P : Nat → Option Addr) (M C : Nat → Nat) (G : Nat → Int) (i : Nat) : Value := if i % 2 = 0 then .slice (P (i / 2)) (M (i / 2)) (C (i / 2)) else .int .i64 (G (i / 2))
theorem bedV_0 {P : Nat → Option Addr} {C : Nat → Nat} (k : Nat) : bedV P M C G (k * 2) = .slice (P k) (M k) (C k) := by
  unfold bedV; rw [if_pos (by omega), show k * 2 / 2 = k by omega]
theorem bedV_1 {P : Nat → Option Addr} {C : Nat → Nat} (k : Nat) : bedV P M C G (k * 2 + 1) = .int .i64 (G k) := by
  unfold bedV; rw [if_neg (by omega), show (k * 2 + 1) / 2 = k by omega]

theorem bedV_upd {P : Nat → Option Addr} {C : Nat → Nat} {i k c : Nat} {A : Option Addr} (h : i < k * 2) : bedV P M C G i = bedV (fun j => if j = k then A else P j) M (fun j => if j = k then c else C j) G i := by
  unfold bedV
  have : i / 2 ≠ k := by omega
  simp only [if_neg this]

/-- no two of the rows of numbers are one -/
def Dis (n : Nat) (M : Nat → Nat) (P : Nat → Option Addr) : Prop := ∀ i j, i < j → j < n → 0 < M i → 0 < M j → P i ≠ P j
theorem Dis.of_old {k : Nat} {P : Nat → Option Addr} {A : Option Addr} {w w' : World} {lo mi hi : Nat} {Z : Nat → Int} (h : Dis k M P) (hr : ∀ j, j < k → Row w lo mi (P j) (M j) 1 2 (Y j)) (hn : Row w' mi hi A (M k) 1 2 Z) : Dis (k + 1) M (fun j => if j = k then A else P j) := by
  intro i j hij hj hi0 hj0
  have e1 : ¬ i = k := by omega
  show (if i = k then A else P i) ≠ (if j = k then A else P j)
  rw [if_neg e1]
  by_cases e : j = k
  · subst e
    rw [if_pos rfl]
    obtain ⟨g, e2, _, h3, _⟩ := hr i (by omega) hi0
    obtain ⟨g', e4, h5, _, _⟩ := hn hj0
    rw [e2, e4]
    intro e
    injection e with e
    injection e with e
    omega
  · rw [if_neg e]
    exact h i j hij (by omega) hi0 hj0

end
/-- the numbers of the first k beds, counted -/
def sumM (M : Nat → Nat) : Nat → Nat
  | 0 => 0
  | k + 1 => sumM M k + M k
theorem sumM_le {M : Nat → Nat} {j n : Nat} (h : j ≤ n) : sumM M j ≤ sumM M n := by
  induction n with
  | zero => obtain rfl : j = 0 := by omega
            exact Nat.le_refl _
  | succ n ih =>
    by_cases e : j = n + 1
    · subst e; exact Nat.le_refl _
    · have := ih (by omega)
      simp only [sumM]; omega
theorem sumM_at {M : Nat → Nat} {j n : Nat} (h : j < n) : M j ≤ sumM M n := by
  have := sumM_le (M := M) (j := j + 1) (n := n) h
  simp only [sumM] at this
  omega

end Go.Proofs.YtakcgeafcecimaaDoor.rod
