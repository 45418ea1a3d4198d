/-
  Contracts of Turned, of the model and of the program. No condition of a statement lies here.
-/
import Derived.Test.YtopiecbldnhihaaDoorFold1
import Derived.Test.YtopiecbldnhihaaDoorFold5
import Derived.Test.YtopiecbldnhihaaDoorClone
import Derived.BigRegion
import Derived.Test.YtopiecbldnhihaaDoorOpen
import Derived.Test.YtopiecbldnhihaaDoorFold2
namespace Go.Proofs.YtopiecbldnhihaaDoor.shp
open Go.ChangeShapes Go.WideShapes Go.ChangeAt Go.RowKit Go.Proofs.YtopiecbldnhihaaDoor.mem Go.Proofs.YtopiecbldnhihaaDoor.rod Go.Proofs.YtopiecbldnhihaaDoor.nums
set_option linter.unusedVariables false
set_option maxRecDepth 100000

/-- the last k of n numbers, backwards -/
def turn (X : Nat → Int) (n k : Nat) : List Int := (List.range k).map fun j => X (n - 1 - j)
theorem turn_len (X : Nat → Int) (n k : Nat) : (turn X n k).length = k := by simp [turn]
theorem turn_snoc (X : Nat → Int) (n k : Nat) : turn X n (k + 1) = turn X n k ++ [X (n - 1 - k)] := by unfold turn; rw [List.range_succ, List.map_append]; rfl
theorem turn_at {X : Nat → Int} {n k j : Nat} (h : j < k) : (turn X n k).getD j 0 = X (n - 1 - j) := by
  unfold turn
  simp [List.getD, List.getElem?_map, List.getElem?_range h]
/-- the outer numbers are exchanged -/
def rvs (X : Nat → Int) (k j t : Nat) : Int := if t < k ∨ j < t then X (k + j - t) else X t
theorem rvs_k {X : Nat → Int} {k j : Nat} (h : k < j) : rvs X k j k = X k := if_neg (by omega)
theorem rvs_j {X : Nat → Int} {k j : Nat} (h : k < j) : rvs X k j j = X j := if_neg (by omega)
theorem rvs_step {X : Nat → Int} {k j : Nat} (h : k < j) (t : Nat) : (if t = j then X k else if t = k then X j else rvs X k j t) = rvs X (k + 1) (j - 1) t := by
  unfold rvs
  rw [show k + 1 + (j - 1) = k + j by omega]
  by_cases e : t = j
  · subst e; rw [if_pos rfl, if_pos (by omega), show k + t - t = k by omega]
  by_cases e2 : t = k
  · subst e2; rw [if_neg e, if_pos rfl, if_pos (by omega), show t + j - t = j by omega]
  rw [if_neg e, if_neg e2]
  by_cases e3 : t < k ∨ j < t
  · rw [if_pos e3, if_pos (by omega)]
  · rw [if_neg e3, if_neg (by omega)]
theorem rvs_end {X : Nat → Int} {k j n t : Nat} (h : ¬ k < j) (hs : k + j + 1 = n) (ht : t < n) : rvs X k j t = X (n - 1 - t) := by
  unfold rvs
  by_cases e : t < k ∨ j < t
  · rw [if_pos e, show k + j - t = n - 1 - t by omega]
  · rw [if_neg e, show n - 1 - t = t by omega]
theorem set_below {w : World} {B g i : Nat} (v : Value) (h : B ≤ g) : Below B w (w.setCell ⟨g, i, none⟩ v) := Below.setCell (Below.refl _ _) h _
theorem _root_.Go.Proofs.YtopiecbldnhihaaDoor.mem.WroteIn.then {a b c : World} {lo hi : Nat} (h : WroteIn a b lo hi) (k : WroteIn b c lo hi) : WroteIn a c lo hi :=
  ⟨k.os.trans h.os, k.tape.trans h.tape, k.output.trans h.output, Nat.le_trans h.size k.size, fun x hx hd => (k.block x (Nat.lt_of_lt_of_le hx h.size) hd).trans (h.block x hx hd)⟩

set_option maxHeartbeats 2000000 in
set_option maxRecDepth 100000 in
theorem reverse_i (g n c : Nat) (X : Nat → Int) (w : World) (n0 : 0 < n) (hn : n ≤ 12) (h : Own w g 2 n X) :
    Calls Tryd.prog 41 #[.slice (some ⟨g, 0, none⟩) n c] w fun e w' => e = .returned (.tuple #[]) ∧ Own w' g 2 n (fun t => X (n - 1 - t)) ∧ WroteIn w w' g (g + 1) := by
  have H := Lib.hid h
  clear h
  go_enter Tryd.func41, Tryd.ntmps41
  go_wp2_with fail
  go_loopw [2, 3] (fun s t wr => ∃ k j : Nat, k + j + 1 = n ∧ k ≤ j + 1 ∧ s = .int .i64 k ∧ t = .int .i64 j ∧ Hid (Own wr g 2 n (rvs X k j)) ∧ WroteIn w wr g (g + 1)) (fun s t _ => (intOf t - intOf s + 1).toNat)
  case atStart => exact ⟨0, n - 1, by omega, by omega, rfl, by congr 1; omega, H.out.congr (fun t ht => by unfold rvs; rw [if_neg (by omega)]), WroteIn.refl _ _ _⟩
  case round =>
    obtain ⟨k, j, hkj, hle, rfl, rfl, HO, hw⟩ := hrel
    have HW := Lib.hid hw
    clear hw
    by_cases hlt : k < j
    · have hlt' : (k : Int) < (j : Int) := by omega
      have b1 : (0 : Int) ≤ (k : Int) := by omega
      have b2 : (k : Int) < (n : Int) := by omega
      have b3 : (0 : Int) ≤ (j : Int) := by omega
      have b4 : (j : Int) < (n : Int) := by omega
      have p0 := HO.out.cell (j := k) (by omega)
      have q0 := HO.out.cell (j := j) (by omega)
      rw [rvs_k hlt] at p0
      rw [rvs_j hlt] at q0
      have pf0 := HO.out.frozen k
      have qf0 := HO.out.frozen j
      go_wp2_with fail
      go_region
      go_wp2
      have hs := ((HO.out.set k (X j)).set j (X k)).congr (fun t _ => rvs_step hlt t)
      go_roundw
      case rel => exact ⟨k + 1, j - 1, by omega, by omega, by go_num, by congr 1; omega, hs.drew, (((HW.out.set (Nat.le_refl _) (Nat.lt_succ_self _) _).set (Nat.le_refl _) (Nat.lt_succ_self _) _)).drew⟩
      case measure => simp [intOf]; omega
    · have hlt' : ¬ (k : Int) < (j : Int) := by omega
      go_wp2
      go_end0
      exact ⟨rfl, HO.out.congr (fun t ht => rvs_end hlt hkj (by omega)), HW.out⟩

end Go.Proofs.YtopiecbldnhihaaDoor.shp
