/-
  Rows of elements told by their tags; two of them exchanged; swapRange and rotate of the stable sort. Indices.
-/
import Derived.Test.YtlepgkmpbhlajaaDoorStab
import Derived.Test.YtlepgkmpbhlajaaDoorIn
import Derived.Deep.CutRange
import Derived.BigRegion
import Derived.Deep.RegionWith
namespace Go.Proofs.YtlepgkmpbhlajaaDoor.rod
open Go.ChangeShapes Go.WideShapes Go.ChangeAt Go.RowKit Go.Proofs.YtlepgkmpbhlajaaDoor.mem Go.Proofs.YtlepgkmpbhlajaaDoor.stab
set_option linter.unusedVariables false

/-- a row of numbers -/
def rowN (P : Nat → Nat) (j : Nat) : Int := ((P j : Nat) : Int)
theorem rowN_0 (P : Nat → Nat) (p : Nat) : rowN P p = ((P p : Nat) : Int) := rfl
theorem rowN_congr {P Q : Nat → Nat} {n : Nat} (h : ∀ i, i < n → P i = Q i) : ∀ j, j < n * 1 → rowN P j = rowN Q j := fun j hj => by unfold rowN; rw [h j (by omega)]
/-- the row at block g holds the elements P, n of them -/
def RowN (w : World) (g n : Nat) (P : Nat → Nat) : Prop := Own w g 2 (n * 1) (rowN P) ∧ ∀ x, x < n → P x < n
theorem RowN.own {w : World} {g n : Nat} {P : Nat → Nat} (h : RowN w g n P) : Own w g 2 (n * 1) (rowN P) := h.1
theorem RowN.bnd {w : World} {g n x : Nat} {P : Nat → Nat} (h : RowN w g n P) (hx : x < n) : P x < n := h.2 x hx
theorem RowN.lt {w : World} {g n : Nat} {P : Nat → Nat} (h : RowN w g n P) : g < w.heap.size := Own.lt h.1
theorem RowN.frozen {w : World} {g n : Nat} {P : Nat → Nat} (h : RowN w g n P) (j : Nat) : w.frozen? ⟨g, j, none⟩ = false := Own.frozen h.1 j
theorem RowN.congr {w : World} {g n : Nat} {P Q : Nat → Nat} (h : RowN w g n P) (e : ∀ i, i < n → P i = Q i) : RowN w g n Q := ⟨Own.congr h.1 (rowN_congr e), fun x hx => by rw [← e x hx]; exact h.2 x hx⟩
theorem RowN.below {w w' : World} {g n : Nat} {P : Nat → Nat} {K : Nat} (h : RowN w g n P) (hb : Below K w w') (hK : g < K) : RowN w' g n P := ⟨Own.below h.1 hb hK, h.2⟩
theorem RowN.cells {w : World} {g n p : Nat} {P : Nat → Nat} (h : RowN w g n P) (hp : p < n) : w.cell? ⟨g, p, none⟩ = some (.int .i64 ((P p : Nat) : Int)) := Own.cell h.1 (j := p) (by omega)
theorem RowN.swap {W : World} {g n i j : Nat} {P : Nat → Nat} (h : RowN W g n P) (hij : i ≠ j) (hi : i < n := by omega) (hj : j < n := by omega) :
    RowN ((W.setCell ⟨g, i, none⟩ (.int .i64 ((P j : Nat) : Int))).setCell ⟨g, j, none⟩ (.int .i64 ((P i : Nat) : Int))) g n (swp P i j) := by
  refine ⟨Own.congr ((Own.set h.1 i ((P j : Nat) : Int)).set j ((P i : Nat) : Int)) ?_, fun x hx => ?_⟩
  · intro y hy
    unfold rowN swp
    by_cases ej : y = j
    · rw [if_pos ej, if_neg (by omega), if_pos ej]
    by_cases ei : y = i
    · rw [if_neg ej, if_pos ei, if_pos ei]
    · rw [if_neg ej, if_neg ei, if_neg ei, if_neg ej]
  · unfold swp
    split
    · exact h.2 j hj
    · split
      · exact h.2 i hi
      · exact h.2 x hx
theorem RowN.drew {w : World} {g n : Nat} {P : Nat → Nat} (h : RowN w g n P) : RowN w.drew g n P := ⟨Own.drew h.1, h.2⟩
theorem RowN.drewN {w : World} {g n : Nat} {P : Nat → Nat} (h : RowN w g n P) (m : Nat) : RowN (w.drewN m) g n P := ⟨Own.drewN h.1 m, h.2⟩
theorem RowN.swapW {W : World} {g i j : Nat} {v0 v1 : Value} : WroteIn W ((W.setCell ⟨g, i, none⟩ (v0)).setCell ⟨g, j, none⟩ (v1)) g (g + 1) :=
  ((WroteIn.refl W g (g + 1)).set (Nat.le_refl _) (Nat.lt_succ_self _) _).set (Nat.le_refl _) (Nat.lt_succ_self _) _

set_option maxHeartbeats 4000000 in
set_option maxRecDepth 100000 in
theorem swapRangeN_c (fv : Value) (g n c : Nat) (P : Nat → Nat) (a b m : Nat) (ai bi mi : Int) (w : World) (ha : ai = a) (hb : bi = b) (hm : mi = m) (h1 : a + m ≤ b) (h2 : b + m ≤ n) (hn : n ≤ 1048576) (h : RowN w g n P) :
    Calls Tryd.prog 136 #[.slice (some ⟨g, 0, none⟩) n c, .int .i64 ai, .int .i64 bi, .int .i64 mi, fv] w fun e w' => e = .returned (.tuple #[]) ∧ RowN w' g n (swr P a b m) ∧ WroteIn w w' g (g + 1) := by
  subst ha hb hm
  have H := Lib.hid h
  clear h
  go_enter Tryd.func136, Tryd.ntmps136
  go_wp2_with fail
  go_outline
  go_loopw [10] (fun s wr => ∃ i : Nat, i ≤ m ∧ s = .int .i64 i ∧ Hid (RowN wr g n (swr P a b i)) ∧ WroteIn w wr g (g + 1)) (fun s _ => m - (intOf s).toNat)
  case atStart => exact ⟨0, by omega, rfl, H.out.congr (fun i _ => (swr_zero P a b i).symm), WroteIn.refl _ _ _⟩
  case round =>
    obtain ⟨i, hi, rfl, HR, hw⟩ := hrel
    by_cases hlt : i < m
    · have hlt' : (i : Int) < (m : Int) := by omega
      have p0 := HR.out.cells (p := a + i) (by omega)
      have q0 := HR.out.cells (p := b + i) (by omega)
      have pf0 := HR.out.frozen ((a + i))
      have qf0 := HR.out.frozen ((b + i))
      have b1 : (0 : Int) ≤ (a : Int) + i := by omega
      have b2 : (a : Int) + i < (n : Int) := by omega
      have b3 : (0 : Int) ≤ (b : Int) + i := by omega
      have b4 : (b : Int) + i < (n : Int) := by omega
      have HW := Lib.hid hw
      clear hw
      go_wp2_with fail
      go_region
      go_wp2
      have hs := (HR.out.swap (i := a + i) (j := b + i) (by omega)).congr (fun x _ => swr_succ P (show a + i < b by omega) x)
      go_roundw
      case rel => exact ⟨i + 1, by omega, by go_num, hs.drew, (HW.out.trans1 RowN.swapW).drew⟩
      case measure => simp [intOf]; omega
    · obtain rfl : i = m := by omega
      go_wp2
      go_end0
      exact ⟨rfl, HR.out, hw⟩

theorem rot_base {P : Nat → Nat} {a m b : Nat} (h1 : a ≤ m) (h2 : m ≤ b) (x : Nat) : rot P (m - (m - a)) m (m + (b - m)) x = rot P a m b x := by rw [show m - (m - a) = a by omega, show m + (b - m) = b by omega]

set_option maxHeartbeats 4000000 in
set_option maxRecDepth 100000 in
theorem rotateN_c (fv : Value) (g n c : Nat) (P : Nat → Nat) (a m b : Nat) (ai mi bi : Int) (w : World) (ha : ai = a) (hm : mi = m) (hb : bi = b) (h1 : a < m) (h2 : m < b) (h3 : b ≤ n) (hn : n ≤ 1048576) (h : RowN w g n P) :
    Calls Tryd.prog 121 #[.slice (some ⟨g, 0, none⟩) n c, .int .i64 ai, .int .i64 mi, .int .i64 bi, fv] w fun e w' => e = .returned (.tuple #[]) ∧ RowN w' g n (rot P a m b) ∧ WroteIn w w' g (g + 1) := by
  subst ha hb hm
  have H := Lib.hid h
  clear h
  go_enter Tryd.func121, Tryd.ntmps121
  go_wp2_with fail
  go_outline
  go_loopw [10, 11] (fun s t wr => ∃ (i j : Nat) (R : Nat → Nat), i ≤ m ∧ m + j ≤ n ∧ 0 < i ∧ 0 < j ∧ s = .int .i64 i ∧ t = .int .i64 j ∧ Hid (RowN wr g n R) ∧ Hid (∀ x, rot R (m - i) m (m + j) x = rot P a m b x) ∧ WroteIn w wr g (g + 1)) (fun s t _ => (intOf s).toNat + (intOf t).toNat)
  case atStart => exact ⟨m - a, b - m, P, by omega, by omega, by omega, by omega, by congr 1; omega, by congr 1; omega, H.out, rot_base (by omega) (by omega), WroteIn.refl _ _ _⟩
  case round =>
    obtain ⟨i, j, R, hi, hj, i0, j0, rfl, rfl, HR, HX, hw⟩ := hrel
    have HW := Lib.hid hw
    clear hw
    by_cases he : i = j
    · subst he
      have e1 : ((i : Int) == (i : Int)) = true := by simp
      have e2 : ((i : Int) != (i : Int)) = false := by simp
      go_wp2_with fail
      refine (swapRangeN_c fv g n c R (m - i) m i _ _ _ _ (by omega) rfl rfl (by omega) (by omega) hn HR.out).mono ?_
      rintro e w1 ⟨rfl, h1', hw1⟩
      go_wp2
      go_end0
      exact ⟨rfl, h1'.congr (fun x _ => (rot_same hi x).trans (HX.out x)), HW.out.trans1 hw1⟩
    · have e1 : ((i : Int) == (j : Int)) = false := by simp; omega
      have e2 : ((i : Int) != (j : Int)) = true := by simp; omega
      by_cases hij : j < i
      · have hij' : (j : Int) < (i : Int) := by omega
        go_wp2_with fail
        refine (swapRangeN_c fv g n c R (m - i) m j _ _ _ _ (by omega) rfl rfl (by omega) (by omega) hn HR.out).mono ?_
        rintro e w1 ⟨rfl, h1', hw1⟩
        have HX2 := Lib.hid (fun x => (rot_more hi j0 hij x).trans (HX.out x))
        have HR1 := Lib.hid h1'
        clear h1'
        go_wp2
        go_roundw
        case rel => exact ⟨i - j, j, _, by omega, by omega, by omega, by omega, by congr 1; omega, rfl, HR1.out, HX2.out, HW.out.trans1 hw1⟩
        case measure => simp [intOf]; omega
      · have hij' : ¬ (j : Int) < (i : Int) := by omega
        go_wp2_with fail
        refine (swapRangeN_c fv g n c R (m - i) (m + j - i) i _ _ _ _ (by omega) (by omega) rfl (by omega) (by omega) hn HR.out).mono ?_
        rintro e w1 ⟨rfl, h1', hw1⟩
        have HX2 := Lib.hid (fun x => (rot_less hi i0 (show i < j by omega) x).trans (HX.out x))
        have HR1 := Lib.hid h1'
        clear h1'
        go_wp2
        go_roundw
        case rel => exact ⟨i, j - i, _, by omega, by omega, by omega, by omega, rfl, by congr 1; omega, HR1.out, HX2.out, HW.out.trans1 hw1⟩
        case measure => simp [intOf]; omega

end Go.Proofs.YtlepgkmpbhlajaaDoor.rod
