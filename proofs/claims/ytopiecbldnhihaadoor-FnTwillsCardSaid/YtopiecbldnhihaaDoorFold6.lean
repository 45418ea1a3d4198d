/-
  A row of the call's own whose cells hold any values. No function of the program lies here.
  Lists of beds in memory: two cells a bed, a slice of numbers and an age. Contracts of the laws' helpers on them.
-/
import Derived.Test.YtopiecbldnhihaaDoorMem
import Derived.OwnWalk
import Derived.Test.YtopiecbldnhihaaDoorFold1
namespace Go.Proofs.YtopiecbldnhihaaDoor.mem
open Go.ChangeShapes Go.WideShapes Go.ChangeAt Go.RowKit
set_option linter.unusedVariables false

/-- block g is a row of its own, whose first n cells are as told -/
def OwnV (w : World) (g : Nat) (E : TypeId) (n : Nat) (V : Nat → Value) : Prop :=
  ∃ c : Array Value, w.heap[g]? = some (.cells c E (0, 0)) ∧ n ≤ c.size ∧ ∀ i, i < n → c[i]? = some (V i)
section
variable {w w' : World} {g n : Nat} {E : TypeId} {V U : Nat → Value}
theorem OwnV.cell (h : OwnV w g E n V) {j : Nat} (hj : j < n) : w.cell? ⟨g, j, none⟩ = some (V j) := by
  obtain ⟨c, hb, _, hc⟩ := h
  simp [World.cell?, hb, hc j hj]
theorem OwnV.lt (h : OwnV w g E n V) : g < w.heap.size := by
  obtain ⟨c, hb, _, _⟩ := h
  obtain ⟨hlt, _⟩ := Array.getElem?_eq_some_iff.1 hb
  exact hlt
theorem OwnV.frozen (h : OwnV w g E n V) (j : Nat) : w.frozen? ⟨g, j, none⟩ = false := by
  obtain ⟨c, hb, _, _⟩ := h
  simp [World.frozen?, hb]
theorem OwnV.congr (h : OwnV w g E n V) (e : ∀ j, j < n → V j = U j) : OwnV w g E n U := by
  obtain ⟨c, hb, hn, hc⟩ := h
  exact ⟨c, hb, hn, fun i hi => by rw [hc i hi, e i hi]⟩
theorem OwnV.of_block (h : OwnV w g E n V) (e : w'.heap[g]? = w.heap[g]?) : OwnV w' g E n V := by
  obtain ⟨c, hb, hn, hc⟩ := h
  exact ⟨c, e.trans hb, hn, hc⟩
theorem OwnV.below {K : Nat} (h : OwnV w g E n V) (hb : Below K w w') (hK : g < K) : OwnV w' g E n V := h.of_block (hb.block g hK)
theorem OwnV.set (h : OwnV w g E n V) (i : Nat) (v : Value) : OwnV (w.setCell ⟨g, i, none⟩ v) g E n (fun j => if j = i then v else V j) := by
  obtain ⟨c, hb, hn, hc⟩ := h
  refine ⟨c.setIfInBounds i v, ?_, by simpa using hn, fun j hj => ?_⟩
  · simp [World.setCell, Array.getElem?_modify, hb]
  · rw [Array.getElem?_setIfInBounds]
    by_cases e : j = i
    · subst e
      simp [show j < c.size by omega]
    · rw [if_neg (fun h => e h.symm)]
      show c[j]? = some (if j = i then v else V j)
      rw [if_neg e]
      exact hc j hj
theorem OwnV.setOther (h : OwnV w g E n V) {a : Addr} (ha : g ≠ a.block) (v : Value) : OwnV (w.setCell a v) g E n V := h.of_block (Go.Deep.blk_setCell_other _ _ _ _ ha)
theorem ownV_type {w : World} {g n n' : Nat} {E E' : TypeId} {V : Nat → Value} {X : Nat → Int} (h : OwnV w g E n V) (h' : Own w g E' n' X) : E = E' := by
  obtain ⟨c, hb, _⟩ := h
  obtain ⟨c', hb', _⟩ := h'
  rw [hb] at hb'
  injection hb' with hb'
  injection hb' with _ hb'
end
theorem ownV_made (w : World) (z : Array Value) (m n : Nat) (E : TypeId) (V : Nat → Value) (hz : ∀ i, i < n → z[i % z.size]? = some (V i)) (hm : 0 < z.size) (hn : m = n) : OwnV (w.alloc (.cells (madeCells z m) E)) w.heap.size E n V := by
  subst hn
  refine ⟨_, Go.Deep.blk_alloc_new _ _, Nat.le_of_eq (size_madeCells _ _).symm, fun i hi => ?_⟩
  have h1 : i % z.size < z.size := Nat.mod_lt _ hm
  have h2 := hz i hi
  simp only [madeCells, Array.getElem?_map, Array.getElem?_range, hi, if_true, Option.map_some]
  rw [getElem!_pos z (i % z.size) h1]
  rwa [Array.getElem?_eq_getElem h1] at h2

theorem OwnV.wrote {w w' : World} {g n lo hi : Nat} {E : TypeId} {V : Nat → Value} (h : OwnV w g E n V) (hw : WroteIn w w' lo hi) (hd : ¬ (lo ≤ g ∧ g < hi)) : OwnV w' g E n V := h.of_block (hw.block g h.lt hd)
theorem ownV_of_owns {w : World} {B n size : Nat} {E : TypeId} {v : Value} {V : Nat → Value} (h : w.ownsRow B E size v n ((List.range (n * size)).map V)) :
    ∃ A c, v = .slice A n c ∧ n ≤ c ∧ c ≤ maxLen ∧ (0 < n → ∃ g, A = some ⟨g, 0, none⟩ ∧ B ≤ g ∧ g < w.heap.size ∧ OwnV w g E (n * size) V) := by
  obtain ⟨hl, h⟩ := h
  rcases h with ⟨rfl, rfl⟩ | ⟨g, cap, cur, rfl, hB, hh, hc, hm, hs, ht⟩
  · exact ⟨none, 0, rfl, Nat.le_refl _, by unfold maxLen; omega, fun h => absurd h (by omega)⟩
  · refine ⟨_, _, rfl, hc, hm, fun hn => ⟨g, rfl, hB, ?_, cur, hh, ?_, fun i hi => ?_⟩⟩
    · obtain ⟨hlt, _⟩ := Array.getElem?_eq_some_iff.1 hh
      exact hlt
    · rw [hs]; exact Nat.mul_le_mul_right _ hc
    · have e1 : cur[i]? = cur.toList[i]? := by simp
      have e2 : cur.toList[i]? = (cur.toList.take (n * size))[i]? := by rw [List.getElem?_take_of_lt hi]
      rw [e1, e2, ht, List.getElem?_map, List.getElem?_range hi]
      rfl
theorem range_snoc (V : Nat → Value) (n : Nat) : (List.range (n + 1)).map V = (List.range n).map V ++ [V n] := by rw [List.range_succ, List.map_append]; rfl
end Go.Proofs.YtopiecbldnhihaaDoor.mem

namespace Go.Proofs.YtopiecbldnhihaaDoor.rod
open Go.ChangeShapes Go.WideShapes Go.ChangeAt Go.RowKit Go.Proofs.YtopiecbldnhihaaDoor.mem Go.Proofs.YtopiecbldnhihaaDoor.nums
set_option linter.unusedVariables false

/-- a slice value of n beds, nil or not: the j-th has M j numbers, told by Y j, and the age G j -/
def Beds (w : World) (A : Option Addr) (n : Nat) (M : Nat → Nat) (Y : Nat → Nat → Int) (G : Nat → Int) : Prop :=
  0 < n → ∃ b o, A = some ⟨b, o, none⟩ ∧ b < w.heap.size ∧ ∀ j, j < n → BedAt w b (o + j * 2) (M j) (Y j) (G j)
section
variable {w w' : World} {A : Option Addr} {n lo hi : Nat} {M : Nat → Nat} {Y : Nat → Nat → Int} {G : Nat → Int}
theorem Beds.below (h : Beds w A n M Y G) (hb : Below w.heap.size w w') : Beds w' A n M Y G := fun hn => by
  obtain ⟨b, o, e, h1, h2⟩ := h hn
  have := hb.size
  exact ⟨b, o, e, by omega, fun j hj => (h2 j hj).below hb h1⟩
theorem Beds.drew (d : Drew w w') (h : Beds w A n M Y G) : Beds w' A n M Y G := by obtain ⟨k, rfl⟩ := d; exact h
theorem Beds.none_ : Beds w A 0 M Y G := fun h => absurd h (by omega)

/-- the cells of a row of beds -/
def bedV (P : Nat → Option Addr) (M C : Nat → Nat) (G : Nat → Int) (i : Nat) : Value := if i % 2 = 0 then .slice (P (i / 2)) (M (i / 2)) (C (i / 2)) else .int .i64 (G (i / 2))
theorem bedV_0 {P : Nat → Option Addr} {C : Nat → Nat} (k : Nat) : bedV P M C G (k * 2) = .slice (P k) (M k) (C k) := by
  unfold bedV; rw [if_pos (by omega), show k * 2 / 2 = k by omega]
theorem bedV_1 {P : Nat → Option Addr} {C : Nat → Nat} (k : Nat) : bedV P M C G (k * 2 + 1) = .int .i64 (G k) := by
  unfold bedV; rw [if_neg (by omega), show (k * 2 + 1) / 2 = k by omega]

theorem bedV_upd {P : Nat → Option Addr} {C : Nat → Nat} {i k c : Nat} {A : Option Addr} (h : i < k * 2) : bedV P M C G i = bedV (fun j => if j = k then A else P j) M (fun j => if j = k then c else C j) G i := by
  unfold bedV
  have : i / 2 ≠ k := by omega
  simp only [if_neg this]

/-- no two of the rows of numbers are one -/
def Dis (n : Nat) (M : Nat → Nat) (P : Nat → Option Addr) : Prop := ∀ i j, i < j → j < n → 0 < M i → 0 < M j → P i ≠ P j
theorem Dis.of_old {k : Nat} {P : Nat → Option Addr} {A : Option Addr} {w w' : World} {lo mi hi : Nat} {Z : Nat → Int} (h : Dis k M P) (hr : ∀ j, j < k → Row w lo mi (P j) (M j) 1 2 (Y j)) (hn : Row w' mi hi A (M k) 1 2 Z) : Dis (k + 1) M (fun j => if j = k then A else P j) := by
  intro i j hij hj hi0 hj0
  have e1 : ¬ i = k := by omega
  show (if i = k then A else P i) ≠ (if j = k then A else P j)
  rw [if_neg e1]
  by_cases e : j = k
  · subst e
    rw [if_pos rfl]
    obtain ⟨g, e2, _, h3, _⟩ := hr i (by omega) hi0
    obtain ⟨g', e4, h5, _, _⟩ := hn hj0
    rw [e2, e4]
    intro e
    injection e with e
    injection e with e
    omega
  · rw [if_neg e]
    exact h i j hij (by omega) hi0 hj0

end
/-- the numbers of the first k beds, counted -/
def sumM (M : Nat → Nat) : Nat → Nat
  | 0 => 0
  | k + 1 => sumM M k + M k
theorem sumM_le {M : Nat → Nat} {j n : Nat} (h : j ≤ n) : sumM M j ≤ sumM M n := by
  induction n with
  | zero => obtain rfl : j = 0 := by omega
            exact Nat.le_refl _
  | succ n ih =>
    by_cases e : j = n + 1
    · subst e; exact Nat.le_refl _
    · have := ih (by omega)
      simp only [sumM]; omega
theorem sumM_at {M : Nat → Nat} {j n : Nat} (h : j < n) : M j ≤ sumM M n := by
  have := sumM_le (M := M) (j := j + 1) (n := n) h
  simp only [sumM] at this
  omega

end Go.Proofs.YtopiecbldnhihaaDoor.rod
