/-
  Contracts of the bounds: is a number in bounds? Of the model and of the program.
  A bed in memory: a slice of numbers and an age. Contracts of its validity and of what it yields.
  Contracts of the greatest common divisor, of lowest terms, and of the comparison of fractions.
-/
import Derived.Test.YtopiecbldnhihaaDoorMem
import Derived.WalkKit
import Derived.ProofKit
import Derived.OpenShut
import Derived.RegionTactic
import Derived.ChangeAlike
import Derived.Deep.QuietTactic
import Derived.BigQuiet
import Derived.Lib.Hide
import Derived.Deep.DeepCutAuto
import Derived.Deep.RegionHeld3
import Derived.Outline
import Derived.Handy
import Derived.StillTailTactics
namespace Go.Proofs.YtopiecbldnhihaaDoor.rod
open Go.ChangeShapes Go.WideShapes Go.ChangeAt Go.RowKit Go.Proofs.YtopiecbldnhihaaDoor.mem
set_option linter.unusedVariables false

theorem bcell {W w1 : World} (hb : Below W.heap.size W w1) : (∀ b o, b < W.heap.size → w1.cell? ⟨b, o, none⟩ = W.cell? ⟨b, o, none⟩) ∧ (∀ b o, b < W.heap.size → w1.frozen? ⟨b, o, none⟩ = W.frozen? ⟨b, o, none⟩) :=
  ⟨fun b o h => hb.cell (p := ⟨b, o, none⟩) h, fun b o h => hb.frozen (p := ⟨b, o, none⟩) h⟩


def inB (n l h : Int) : Bool := decide (l ≤ n ∧ n ≤ h)
theorem inB_yes {n l h : Int} (a : l ≤ n) (b : n ≤ h) : inB n l h = true := by unfold inB; simp [a, b]
theorem inB_lo {n l h : Int} (a : ¬ l ≤ n) : inB n l h = false := by unfold inB; simp [a]
theorem inB_hi {n l h : Int} (b : ¬ n ≤ h) : inB n l h = false := by unfold inB; simp [b]
theorem inB_of {n l h : Int} (e : inB n l h = true) : l ≤ n ∧ n ≤ h := by unfold inB at e; simpa using e
theorem inB_not {n l h : Int} (e : inB n l h = false) : ¬ (l ≤ n ∧ n ≤ h) := by unfold inB at e; simpa using e

theorem in_s (n l h : Int) (w : World) :
    Calls Tryd.prog 32 #[.int .i64 n, .int .i64 l, .int .i64 h] w fun e w' => e = .returned (.bool (inB n l h)) ∧ w = w' := by
  by_cases a : l ≤ n
  · by_cases b : n ≤ h
    · rw [inB_yes a b]
      go_enter Tryd.func32, Tryd.ntmps32
      go_wp2
      go_ret
      exact ⟨rfl, rfl⟩
    · rw [inB_hi b]
      go_enter Tryd.func32, Tryd.ntmps32
      go_wp2
      go_ret
      exact ⟨rfl, rfl⟩
  · rw [inB_lo a]
    go_enter Tryd.func32, Tryd.ntmps32
    go_wp2
    go_ret
    exact ⟨rfl, rfl⟩

theorem in_i (n l h : Int) (w : World) :
    Calls Tryd.prog 29 #[.int .i64 n, .int .i64 l, .int .i64 h] w fun e w' => e = .returned (.bool (inB n l h)) ∧ w = w' := by
  by_cases a : l ≤ n
  · by_cases b : n ≤ h
    · rw [inB_yes a b]
      go_enter Tryd.func29, Tryd.ntmps29
      go_wp2
      go_ret
      exact ⟨rfl, rfl⟩
    · rw [inB_hi b]
      go_enter Tryd.func29, Tryd.ntmps29
      go_wp2
      go_ret
      exact ⟨rfl, rfl⟩
  · rw [inB_lo a]
    go_enter Tryd.func29, Tryd.ntmps29
    go_wp2
    go_ret
    exact ⟨rfl, rfl⟩

end Go.Proofs.YtopiecbldnhihaaDoor.rod

namespace Go.Proofs.YtopiecbldnhihaaDoor.rod
open Go.ChangeShapes Go.WideShapes Go.ChangeAt Go.RowKit Go.Proofs.YtopiecbldnhihaaDoor.mem
set_option linter.unusedVariables false

/-- a bed lies in two cells from offset o of block b on: a slice of m numbers, nil or not, and an age -/
def BedAt (w : World) (b o m : Nat) (Y : Nat → Int) (a : Int) : Prop :=
  (∃ A c, w.cell? ⟨b, o, none⟩ = some (.slice A m c) ∧ Sl w A m 1 Y) ∧ w.cell? ⟨b, o + 1, none⟩ = some (.int .i64 a)
theorem BedAt.below {w w' : World} {b o m : Nat} {Y : Nat → Int} {a : Int} (h : BedAt w b o m Y a) (hb : Below w.heap.size w w') (hlt : b < w.heap.size) : BedAt w' b o m Y a := by
  obtain ⟨⟨A, c, h0, hs⟩, h1⟩ := h
  exact ⟨⟨A, c, (hb.cell (p := ⟨b, o, none⟩) hlt).trans h0, hs.below hb (Nat.le_refl _)⟩, (hb.cell (p := ⟨b, o + 1, none⟩) hlt).trans h1⟩
theorem BedAt.drew {w w' : World} {b o m : Nat} {Y : Nat → Int} {a : Int} (d : Drew w w') (h : BedAt w b o m Y a) : BedAt w' b o m Y a := by obtain ⟨k, rfl⟩ := d; exact h

/-- the first n numbers are yields -/
def allY (Y : Nat → Int) : Nat → Bool
  | 0 => true
  | n + 1 => allY Y n && inB (Y n) 0 10000
theorem allY_le {Y : Nat → Int} {n : Nat} : ∀ {m : Nat}, m ≤ n → allY Y n = true → allY Y m = true := by
  induction n with
  | zero => intro m h k; obtain rfl : m = 0 := by omega
            exact k
  | succ n ih =>
    intro m h k
    by_cases e : m = n + 1
    · subst e; exact k
    · simp only [allY, Bool.and_eq_true] at k
      exact ih (by omega) k.1
theorem allY_no {Y : Nat → Int} {n i : Nat} (hi : i < n) (h : inB (Y i) 0 10000 = false) : allY Y n = false := by
  cases e : allY Y n
  · rfl
  · have := allY_le (m := i + 1) hi e
    simp only [allY, h, Bool.and_false] at this
    cases this
theorem allY_at {Y : Nat → Int} {n i : Nat} (hi : i < n) (h : allY Y n = true) : 0 ≤ Y i ∧ Y i ≤ 10000 := by
  have := allY_le (m := i + 1) hi h
  simp only [allY, Bool.and_eq_true] at this
  exact inB_of this.2
/-- a bed is valid -/
def bedB (m : Nat) (Y : Nat → Int) (a : Int) : Bool := allY Y m && (inB m 1 5 && inB a 0 m)
theorem bedB_of {m : Nat} {Y : Nat → Int} {a : Int} (h : bedB m Y a = true) : (1 ≤ m ∧ m ≤ 5) ∧ (0 ≤ a ∧ a ≤ m) ∧ ∀ i, i < m → 0 ≤ Y i ∧ Y i ≤ 10000 := by
  unfold bedB at h
  simp only [Bool.and_eq_true] at h
  obtain ⟨h1, h2, h3⟩ := h
  have a1 := inB_of h2
  have a2 := inB_of h3
  exact ⟨by omega, a2, fun i hi => allY_at hi h1⟩

end Go.Proofs.YtopiecbldnhihaaDoor.rod

namespace Go.Proofs.YtopiecbldnhihaaDoor.rod
open Go.ChangeShapes Go.WideShapes Go.ChangeAt Go.RowKit Go.Proofs.YtopiecbldnhihaaDoor.mem
set_option linter.unusedVariables false

def gcdI (a b : Int) : Int := (Int.gcd a b : Int)
theorem gcdI_step {x y : Int} (hx : 0 ≤ x) (hy : 1 ≤ y) : gcdI y (x % y) = gcdI x y := by
  obtain ⟨m, rfl⟩ := Int.eq_ofNat_of_zero_le hx
  obtain ⟨n, rfl⟩ := Int.eq_ofNat_of_zero_le (by omega : 0 ≤ y)
  unfold gcdI
  rw [← Int.natCast_emod]
  simp only [Int.gcd_natCast_natCast]
  rw [Nat.gcd_comm m n, Nat.gcd_rec n m, Nat.gcd_comm]
theorem gcdI_zero {x : Int} (hx : 0 ≤ x) : gcdI x 0 = x := by
  unfold gcdI; simp; omega
theorem gcdI_pos {x y : Int} (hy : 1 ≤ y) : 1 ≤ gcdI x y := by
  unfold gcdI
  have : 0 < Int.gcd x y := Int.gcd_pos_of_ne_zero_right _ (by omega)
  omega
theorem gcdI_le {x y : Int} (hy : 1 ≤ y) : gcdI x y ≤ y := by
  unfold gcdI
  exact Int.gcd_le_right x (by omega)

set_option maxHeartbeats 1000000 in
theorem gcd_s (a b : Int) (ha : 0 ≤ a) (hb : 0 ≤ b) (ha' : a ≤ 1000000000) (hb' : b ≤ 1000000000) (w : World) :
    Calls Tryd.prog 39 #[.int .i64 a, .int .i64 b] w fun e w' => e = .returned (.int .i64 (gcdI a b)) ∧ w = w' := by
  go_enter Tryd.func39, Tryd.ntmps39
  go_wp2_with fail
  go_loop [0, 1] (fun s t => ∃ x y : Int, 0 ≤ x ∧ 0 ≤ y ∧ x ≤ 1000000000 ∧ y ≤ 1000000000 ∧ s = .int .i64 x ∧ t = .int .i64 y ∧ Hid (gcdI x y = gcdI a b)) (fun _ t => (intOf t).toNat)
  case atStart => exact ⟨a, b, ha, hb, ha', hb', rfl, rfl, rfl⟩
  case round =>
    obtain ⟨x, y, hx, hy, hx', hy', rfl, rfl, HG⟩ := hrel
    by_cases h0 : y = 0
    · subst h0
      go_wp2
      go_ret
      exact ⟨by rw [← HG.out, gcdI_zero hx]; rfl, rfl⟩
    · have h1 : (y == 0) = false := by simpa using h0
      have h2 : (y != 0) = true := by simpa using h0
      have h3 : 1 ≤ y := by omega
      have h4 : 0 ≤ x % y := Int.emod_nonneg _ h0
      have h5 : x % y < y := Int.emod_lt_of_pos _ (by omega)
      clear h0
      go_wp2
      go_round
      case rel => exact ⟨y, x % y, hy, h4, hy', by omega, rfl, rfl, (gcdI_step hx h3).trans HG.out⟩
      case measure => simp [intOf]; omega

set_option maxHeartbeats 1000000 in
theorem lowest_i (n d : Int) (n0 : 0 ≤ n) (n1 : n ≤ 1000000000) (d0 : 1 ≤ d) (d1 : d ≤ 1000000000) (w : World) :
    Calls Tryd.prog 61 #[.int .i64 n, .int .i64 d] w fun e w' => e = .returned (.agg #[.int .i64 (n / gcdI n d), .int .i64 (d / gcdI n d)]) ∧ Below w.heap.size w w' := by
  have g0 := gcdI_pos (x := n) d0
  have g1 := gcdI_le (x := n) d0
  have r1 : n / gcdI n d ≤ n := Int.ediv_le_self _ n0
  have r2 : d / gcdI n d ≤ d := Int.ediv_le_self _ (by omega)
  have r3 : 0 ≤ n / gcdI n d := Int.ediv_nonneg n0 (by omega)
  have r4 : 0 ≤ d / gcdI n d := Int.ediv_nonneg (by omega) (by omega)
  go_enter Tryd.func61, Tryd.ntmps61
  go_wp2_with fail
  go_loopw [5, 6] (fun s t wr => ∃ (x y : Int) (m : Nat), 0 ≤ x ∧ 0 ≤ y ∧ x ≤ 1000000000 ∧ y ≤ 1000000000 ∧ s = .int .i64 x ∧ t = .int .i64 y ∧ Hid (gcdI x y = gcdI n d) ∧ wr = (w.alloc (Obj.cells #[Value.int IntKind.i64 0, Value.int IntKind.i64 0] 83)).drewN m) (fun _ t _ => (intOf t).toNat)
  case atStart => exact ⟨n, d, 0, n0, by omega, n1, d1, rfl, rfl, rfl, rfl⟩
  case round =>
    obtain ⟨x, y, m, hx, hy, hx', hy', rfl, rfl, HG, rfl⟩ := hrel
    by_cases h0 : y = 0
    · subst h0
      obtain rfl : x = gcdI n d := by rw [← HG.out, gcdI_zero hx]
      have t1 : n.tdiv (gcdI n d) = n / gcdI n d := Int.tdiv_eq_ediv_of_nonneg n0
      have t2 : d.tdiv (gcdI n d) = d / gcdI n d := Int.tdiv_eq_ediv_of_nonneg (by omega)
      go_wp2
      go_region
      go_wp2
      go_returns
      exact ⟨rfl, by go_grown; exact drewN_below (by go_grown) _⟩
    · have h1 : (y == 0) = false := by simpa using h0
      have h2 : (y != 0) = true := by simpa using h0
      have h3 : 1 ≤ y := by omega
      have h4 : 0 ≤ x % y := Int.emod_nonneg _ h0
      have h5 : x % y < y := Int.emod_lt_of_pos _ (by omega)
      have t3 : x.tmod y = x % y := Int.tmod_eq_emod_of_nonneg hx
      clear h0
      go_wp2
      go_region
      go_wp2
      go_roundw
      case rel => exact ⟨y, x % y, m + 1, hy, h4, hy', by omega, rfl, rfl, (gcdI_step hx h3).trans HG.out, rfl⟩
      case measure => simp [intOf]; omega

end Go.Proofs.YtopiecbldnhihaaDoor.rod
