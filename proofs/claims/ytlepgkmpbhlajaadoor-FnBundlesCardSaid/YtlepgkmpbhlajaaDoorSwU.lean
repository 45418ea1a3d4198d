/-
  Rows of elements told by their tags; two of them exchanged; swapRange and rotate of the stable sort. Bundles.
-/
import Derived.Test.YtlepgkmpbhlajaaDoorStab
import Derived.Test.YtlepgkmpbhlajaaDoorIn
import Derived.Deep.CutRange
import Derived.BigRegion
import Derived.Deep.RegionWith
namespace Go.Proofs.YtlepgkmpbhlajaaDoor.rod
open Go.ChangeShapes Go.WideShapes Go.ChangeAt Go.RowKit Go.Proofs.YtlepgkmpbhlajaaDoor.mem Go.Proofs.YtlepgkmpbhlajaaDoor.stab
set_option linter.unusedVariables false

/-- a row of bundles, told by their numbers in a list -/
def rowU (X : Nat → Int) (P : Nat → Nat) (j : Nat) : Int := X (P (j / 3) * 3 + j % 3)
theorem rowU_0 (X : Nat → Int) (P : Nat → Nat) (p : Nat) : rowU X P (p * 3) = X (P p * 3) := by unfold rowU; rw [show p * 3 / 3 = p by omega, show p * 3 % 3 = 0 by omega]; rfl
theorem rowU_1 (X : Nat → Int) (P : Nat → Nat) (p : Nat) : rowU X P (p * 3 + 1) = X (P p * 3 + 1) := by unfold rowU; rw [show (p * 3 + 1) / 3 = p by omega, show (p * 3 + 1) % 3 = 1 by omega]
theorem rowU_2 (X : Nat → Int) (P : Nat → Nat) (p : Nat) : rowU X P (p * 3 + 2) = X (P p * 3 + 2) := by unfold rowU; rw [show (p * 3 + 2) / 3 = p by omega, show (p * 3 + 2) % 3 = 2 by omega]
theorem rowU_congr (X : Nat → Int) {P Q : Nat → Nat} {n : Nat} (h : ∀ i, i < n → P i = Q i) : ∀ j, j < n * 3 → rowU X P j = rowU X Q j := fun j hj => by unfold rowU; rw [h (j / 3) (by omega)]
theorem rowU_id (X : Nat → Int) : ∀ j, rowU X (fun i => i) j = X j := fun j => by show X (j / 3 * 3 + j % 3) = X j; congr 1; omega
/-- the row at block g holds the elements P, n of them -/
def RowU (X : Nat → Int) (w : World) (g n : Nat) (P : Nat → Nat) : Prop := Own w g 40 (n * 3) (rowU X P)
theorem RowU.congr {X : Nat → Int} {w : World} {g n : Nat} {P Q : Nat → Nat} (h : RowU X w g n P) (e : ∀ i, i < n → P i = Q i) : RowU X w g n Q := Own.congr h (rowU_congr X e)
theorem RowU.below {X : Nat → Int} {w w' : World} {g n : Nat} {P : Nat → Nat} {K : Nat} (h : RowU X w g n P) (hb : Below K w w') (hK : g < K) : RowU X w' g n P := Own.below h hb hK
theorem RowU.cells {X : Nat → Int} {w : World} {g n p : Nat} {P : Nat → Nat} (h : RowU X w g n P) (hp : p < n) : w.cell? ⟨g, p * 3, none⟩ = some (.int .i64 (X (P p * 3))) ∧ w.cell? ⟨g, p * 3 + 1, none⟩ = some (.int .i64 (X (P p * 3 + 1))) ∧ w.cell? ⟨g, p * 3 + 2, none⟩ = some (.int .i64 (X (P p * 3 + 2))) := by
  have c0 := Own.cell h (j := p * 3) (by omega)
  have c1 := Own.cell h (j := p * 3 + 1) (by omega)
  have c2 := Own.cell h (j := p * 3 + 2) (by omega)
  rw [rowU_0] at c0
  rw [rowU_1] at c1
  rw [rowU_2] at c2
  exact ⟨c0, c1, c2⟩
theorem RowU.swap {X : Nat → Int} {W : World} {g n i j : Nat} {P : Nat → Nat} (h : RowU X W g n P) (hij : i ≠ j) :
    RowU X ((((((W.setCell ⟨g, i * 3, none⟩ (.int .i64 (X (P j * 3)))).setCell ⟨g, i * 3 + 1, none⟩ (.int .i64 (X (P j * 3 + 1)))).setCell ⟨g, i * 3 + 2, none⟩ (.int .i64 (X (P j * 3 + 2)))).setCell ⟨g, j * 3, none⟩ (.int .i64 (X (P i * 3)))).setCell ⟨g, j * 3 + 1, none⟩ (.int .i64 (X (P i * 3 + 1)))).setCell ⟨g, j * 3 + 2, none⟩ (.int .i64 (X (P i * 3 + 2)))) g n (swp P i j) := by
  have h2 := ((((((Own.set h (i * 3) ((X (P j * 3)))).set (i * 3 + 1) ((X (P j * 3 + 1)))).set (i * 3 + 2) ((X (P j * 3 + 2)))).set (j * 3) ((X (P i * 3)))).set (j * 3 + 1) ((X (P i * 3 + 1)))).set (j * 3 + 2) ((X (P i * 3 + 2))))
  refine Own.congr h2 ?_
  intro y hy
  obtain ⟨q, s, rfl, hs⟩ : ∃ q s, y = q * 3 + s ∧ s < 3 := ⟨y / 3, y % 3, by omega, by omega⟩
  have e1 : (q * 3 + s) / 3 = q := by omega
  have e2 : (q * 3 + s) % 3 = s := by omega
  by_cases ej : q = j
  · match s, hs with
    | 0, _ => rw [if_neg (by omega), if_neg (by omega), if_pos (by omega)]; unfold rowU; rw [e1, e2]; unfold swp; rw [if_neg (by omega), if_pos ej]; rfl
    | 1, _ => rw [if_neg (by omega), if_pos (by omega)]; unfold rowU; rw [e1, e2]; unfold swp; rw [if_neg (by omega), if_pos ej]
    | 2, _ => rw [if_pos (by omega)]; unfold rowU; rw [e1, e2]; unfold swp; rw [if_neg (by omega), if_pos ej]
  by_cases ei : q = i
  · match s, hs with
    | 0, _ => rw [if_neg (by omega), if_neg (by omega), if_neg (by omega), if_neg (by omega), if_neg (by omega), if_pos (by omega)]; unfold rowU; rw [e1, e2]; unfold swp; rw [if_pos ei]; rfl
    | 1, _ => rw [if_neg (by omega), if_neg (by omega), if_neg (by omega), if_neg (by omega), if_pos (by omega)]; unfold rowU; rw [e1, e2]; unfold swp; rw [if_pos ei]
    | 2, _ => rw [if_neg (by omega), if_neg (by omega), if_neg (by omega), if_pos (by omega)]; unfold rowU; rw [e1, e2]; unfold swp; rw [if_pos ei]
  match s, hs with
  | 0, _ => rw [if_neg (by omega), if_neg (by omega), if_neg (by omega), if_neg (by omega), if_neg (by omega), if_neg (by omega)]; unfold rowU; rw [e1, e2]; unfold swp; rw [if_neg ei, if_neg ej]
  | 1, _ => rw [if_neg (by omega), if_neg (by omega), if_neg (by omega), if_neg (by omega), if_neg (by omega), if_neg (by omega)]; unfold rowU; rw [e1, e2]; unfold swp; rw [if_neg ei, if_neg ej]
  | 2, _ => rw [if_neg (by omega), if_neg (by omega), if_neg (by omega), if_neg (by omega), if_neg (by omega), if_neg (by omega)]; unfold rowU; rw [e1, e2]; unfold swp; rw [if_neg ei, if_neg ej]
theorem RowU.drew {X : Nat → Int} {w : World} {g n : Nat} {P : Nat → Nat} (h : RowU X w g n P) : RowU X w.drew g n P := Own.drew h
theorem RowU.drewN {X : Nat → Int} {w : World} {g n : Nat} {P : Nat → Nat} (h : RowU X w g n P) (m : Nat) : RowU X (w.drewN m) g n P := Own.drewN h m
theorem RowU.swapW {W : World} {g i j : Nat} {v0 v1 v2 v3 v4 v5 : Value} : WroteIn W ((((((W.setCell ⟨g, i * 3, none⟩ (v0)).setCell ⟨g, i * 3 + 1, none⟩ (v1)).setCell ⟨g, i * 3 + 2, none⟩ (v2)).setCell ⟨g, j * 3, none⟩ (v3)).setCell ⟨g, j * 3 + 1, none⟩ (v4)).setCell ⟨g, j * 3 + 2, none⟩ (v5)) g (g + 1) :=
  ((((((WroteIn.refl W g (g + 1)).set (Nat.le_refl _) (Nat.lt_succ_self _) _).set (Nat.le_refl _) (Nat.lt_succ_self _) _).set (Nat.le_refl _) (Nat.lt_succ_self _) _).set (Nat.le_refl _) (Nat.lt_succ_self _) _).set (Nat.le_refl _) (Nat.lt_succ_self _) _).set (Nat.le_refl _) (Nat.lt_succ_self _) _

set_option maxHeartbeats 4000000 in
set_option maxRecDepth 100000 in
theorem swapRangeU_c (X : Nat → Int) (fv : Value) (g n c : Nat) (P : Nat → Nat) (a b m : Nat) (ai bi mi : Int) (w : World) (ha : ai = a) (hb : bi = b) (hm : mi = m) (h1 : a + m ≤ b) (h2 : b + m ≤ n) (hn : n ≤ 1048576) (h : RowU X w g n P) :
    Calls Tryd.prog 120 #[.slice (some ⟨g, 0, none⟩) n c, .int .i64 ai, .int .i64 bi, .int .i64 mi, fv] w fun e w' => e = .returned (.tuple #[]) ∧ RowU X w' g n (swr P a b m) ∧ WroteIn w w' g (g + 1) := by
  subst ha hb hm
  have H := Lib.hid h
  clear h
  go_enter Tryd.func120, Tryd.ntmps120
  go_wp2_with fail
  go_outline
  go_loopw [10] (fun s wr => ∃ i : Nat, i ≤ m ∧ s = .int .i64 i ∧ Hid (RowU X wr g n (swr P a b i)) ∧ WroteIn w wr g (g + 1)) (fun s _ => m - (intOf s).toNat)
  case atStart => exact ⟨0, by omega, rfl, H.out.congr (fun i _ => (swr_zero P a b i).symm), WroteIn.refl _ _ _⟩
  case round =>
    obtain ⟨i, hi, rfl, HR, hw⟩ := hrel
    by_cases hlt : i < m
    · have hlt' : (i : Int) < (m : Int) := by omega
      obtain ⟨p0, p1, p2⟩ := HR.out.cells (p := a + i) (by omega)
      obtain ⟨q0, q1, q2⟩ := HR.out.cells (p := b + i) (by omega)
      have pf0 := HR.out.frozen ((a + i) * 3)
      have qf0 := HR.out.frozen ((b + i) * 3)
      have pf1 := HR.out.frozen ((a + i) * 3 + 1)
      have qf1 := HR.out.frozen ((b + i) * 3 + 1)
      have pf2 := HR.out.frozen ((a + i) * 3 + 2)
      have qf2 := HR.out.frozen ((b + i) * 3 + 2)
      have b1 : (0 : Int) ≤ (a : Int) + i := by omega
      have b2 : (a : Int) + i < (n : Int) := by omega
      have b3 : (0 : Int) ≤ (b : Int) + i := by omega
      have b4 : (b : Int) + i < (n : Int) := by omega
      have HW := Lib.hid hw
      clear hw
      go_wp2_with fail
      go_region
      go_wp2
      have hs := (HR.out.swap (i := a + i) (j := b + i) (by omega)).congr (fun x _ => swr_succ P (show a + i < b by omega) x)
      go_roundw
      case rel => exact ⟨i + 1, by omega, by go_num, hs.drew, (HW.out.trans1 RowU.swapW).drew⟩
      case measure => simp [intOf]; omega
    · obtain rfl : i = m := by omega
      go_wp2
      go_end0
      exact ⟨rfl, HR.out, hw⟩

theorem rot_base {P : Nat → Nat} {a m b : Nat} (h1 : a ≤ m) (h2 : m ≤ b) (x : Nat) : rot P (m - (m - a)) m (m + (b - m)) x = rot P a m b x := by rw [show m - (m - a) = a by omega, show m + (b - m) = b by omega]

set_option maxHeartbeats 4000000 in
set_option maxRecDepth 100000 in
theorem rotateU_c (X : Nat → Int) (fv : Value) (g n c : Nat) (P : Nat → Nat) (a m b : Nat) (ai mi bi : Int) (w : World) (ha : ai = a) (hm : mi = m) (hb : bi = b) (h1 : a < m) (h2 : m < b) (h3 : b ≤ n) (hn : n ≤ 1048576) (h : RowU X w g n P) :
    Calls Tryd.prog 102 #[.slice (some ⟨g, 0, none⟩) n c, .int .i64 ai, .int .i64 mi, .int .i64 bi, fv] w fun e w' => e = .returned (.tuple #[]) ∧ RowU X w' g n (rot P a m b) ∧ WroteIn w w' g (g + 1) := by
  subst ha hb hm
  have H := Lib.hid h
  clear h
  go_enter Tryd.func102, Tryd.ntmps102
  go_wp2_with fail
  go_outline
  go_loopw [10, 11] (fun s t wr => ∃ (i j : Nat) (R : Nat → Nat), i ≤ m ∧ m + j ≤ n ∧ 0 < i ∧ 0 < j ∧ s = .int .i64 i ∧ t = .int .i64 j ∧ Hid (RowU X wr g n R) ∧ Hid (∀ x, rot R (m - i) m (m + j) x = rot P a m b x) ∧ WroteIn w wr g (g + 1)) (fun s t _ => (intOf s).toNat + (intOf t).toNat)
  case atStart => exact ⟨m - a, b - m, P, by omega, by omega, by omega, by omega, by congr 1; omega, by congr 1; omega, H.out, rot_base (by omega) (by omega), WroteIn.refl _ _ _⟩
  case round =>
    obtain ⟨i, j, R, hi, hj, i0, j0, rfl, rfl, HR, HX, hw⟩ := hrel
    have HW := Lib.hid hw
    clear hw
    by_cases he : i = j
    · subst he
      have e1 : ((i : Int) == (i : Int)) = true := by simp
      have e2 : ((i : Int) != (i : Int)) = false := by simp
      go_wp2_with fail
      refine (swapRangeU_c X fv g n c R (m - i) m i _ _ _ _ (by omega) rfl rfl (by omega) (by omega) hn HR.out).mono ?_
      rintro e w1 ⟨rfl, h1', hw1⟩
      go_wp2
      go_end0
      exact ⟨rfl, h1'.congr (fun x _ => (rot_same hi x).trans (HX.out x)), HW.out.trans1 hw1⟩
    · have e1 : ((i : Int) == (j : Int)) = false := by simp; omega
      have e2 : ((i : Int) != (j : Int)) = true := by simp; omega
      by_cases hij : j < i
      · have hij' : (j : Int) < (i : Int) := by omega
        go_wp2_with fail
        refine (swapRangeU_c X fv g n c R (m - i) m j _ _ _ _ (by omega) rfl rfl (by omega) (by omega) hn HR.out).mono ?_
        rintro e w1 ⟨rfl, h1', hw1⟩
        have HX2 := Lib.hid (fun x => (rot_more hi j0 hij x).trans (HX.out x))
        have HR1 := Lib.hid h1'
        clear h1'
        go_wp2
        go_roundw
        case rel => exact ⟨i - j, j, _, by omega, by omega, by omega, by omega, by congr 1; omega, rfl, HR1.out, HX2.out, HW.out.trans1 hw1⟩
        case measure => simp [intOf]; omega
      · have hij' : ¬ (j : Int) < (i : Int) := by omega
        go_wp2_with fail
        refine (swapRangeU_c X fv g n c R (m - i) (m + j - i) i _ _ _ _ (by omega) (by omega) rfl (by omega) (by omega) hn HR.out).mono ?_
        rintro e w1 ⟨rfl, h1', hw1⟩
        have HX2 := Lib.hid (fun x => (rot_less hi i0 (show i < j by omega) x).trans (HX.out x))
        have HR1 := Lib.hid h1'
        clear h1'
        go_wp2
        go_roundw
        case rel => exact ⟨i, j - i, _, by omega, by omega, by omega, by omega, rfl, by congr 1; omega, HR1.out, HX2.out, HW.out.trans1 hw1⟩
        case measure => simp [intOf]; omega

end Go.Proofs.YtlepgkmpbhlajaaDoor.rod
