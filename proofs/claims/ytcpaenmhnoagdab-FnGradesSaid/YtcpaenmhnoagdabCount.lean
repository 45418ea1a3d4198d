/-
  Contracts of CountGrades, of the model's and of the program's.
-/
import Derived.Test.YtcpaenmhnoagdabGradeOf
import Derived.Test.YtcpaenmhnoagdabAppend
namespace Go.Proofs.Ytcpaenmhnoagdab.rod
open Go.ChangeShapes Go.WideShapes Go.ChangeAt Go.RowKit
open Go.Proofs.Ytcpaenmhnoagdab.mem Go.Proofs.Ytcpaenmhnoagdab.nums
set_option linter.unusedVariables false

/-- how many of the first k rods have the grade j -/
def cnt (X Y : Nat → Int) (m : Nat) (j : Nat) : Nat → Int
  | 0 => 0
  | k + 1 => cnt X Y m j k + if gr Y (X (k * 3)) m = (j : Int) then 1 else 0
theorem cnt_bd (X Y : Nat → Int) (m j : Nat) : ∀ k : Nat, 0 ≤ cnt X Y m j k ∧ cnt X Y m j k ≤ k
  | 0 => ⟨Int.le_refl _, Int.le_refl _⟩
  | k + 1 => by
    have := cnt_bd X Y m j k
    unfold cnt
    split <;> constructor <;> omega
def cnts (X Y : Nat → Int) (m n : Nat) : List Int := (List.range (m + 1)).map fun j => cnt X Y m j n
theorem cnts_len (X Y : Nat → Int) (m n : Nat) : (cnts X Y m n).length = m + 1 := by simp [cnts]
theorem cnts_at {X Y : Nat → Int} {m n j : Nat} (h : j < m + 1) : (cnts X Y m n).getD j 0 = cnt X Y m j n := by
  simp [cnts, List.getD, List.getElem?_map, List.getElem?_range h]

theorem cnt_step {X Y : Nat → Int} {m k g j : Nat} (hg : gr Y (X (k * 3)) m = (g : Int)) : (if j = g then cnt X Y m g k + 1 else cnt X Y m j k) = cnt X Y m j (k + 1) := by
  show _ = cnt X Y m j k + _
  rw [hg]
  by_cases h : j = g
  · subst h; simp
  · rw [if_neg h, if_neg (by omega)]; omega

set_option maxHeartbeats 2000000 in
theorem count_s (A : Option Addr) (n c : Nat) (X : Nat → Int) (A2 : Option Addr) (m c2 : Nat) (Y : Nat → Int) (w : World) (hn : n ≤ maxLen) (hm : m ≤ maxLen) (hr : Sl w A n 3 X) (hy : Sl w A2 m 1 Y) (hv : listB n X = true) (hl : limB m Y = true) :
    Calls Try.prog 20 #[.slice A n c, .slice A2 m c2] w (NumsCode w 2 (cnts X Y m n) 0) := by
  have hn20 := (listB_of hv).1
  have hm8 := (limB_of hl).1
  have HR := Lib.hid hr
  have HY := Lib.hid hy
  clear hr hy
  have hmk := run_make_rows (P := Try.prog) 29 2 _ 1 8 Try.underlying29 info_num .i64 .i64 (m + 1) (by omega) (by omega)
  simp only [Int.natCast_add, Int.cast_ofNat_Int] at hmk
  go_enter Try.func20, Try.ntmps20
  go_wp2_with (first
    | (go_at_call 71; refine (ok_s A n c X _ hn HR.out).mono ?_; rintro e w' ⟨rfl, q1, rfl⟩)
    | (go_at_call 76; refine (limits_s A2 m c2 Y _ hm (Sl.below HY.out (drewN_below (Below.refl _ _) _) (Nat.le_refl _))).mono ?_; rintro e w' ⟨rfl, q2, rfl⟩))
  have hO : Own ((w.drewN (q1 + q2)).alloc (Obj.cells (madeCells #[Value.int IntKind.i64 0] (m + 1)) 2)) w.heap.size 2 (m + 1) (fun _ => 0) :=
    own_made _ _ _ _ _ (fun i hi => by match i, hi with | 0, _ => rfl) (by simp) (by omega)
  have HO := Lib.hid hO
  clear hO hmk
  go_loopw [7] (fun s wr => ∃ k : Nat, k ≤ n ∧ s = .int .i64 k ∧ Hid (Own wr w.heap.size 2 (m + 1) (fun j => cnt X Y m j k)) ∧ Below w.heap.size w wr) (fun s _ => n - (intOf s).toNat)
  case atStart => exact ⟨0, by omega, rfl, HO.out, (drewN_below (Below.refl _ _) _).alloc (by simp) _⟩
  case round =>
    obtain ⟨k, hk, rfl, hown, hbl⟩ := hrel
    have HB := Lib.hid hbl
    have hzz := hown.out.lt
    have hz0 := hbl.size
    clear hbl
    by_cases hlt : k < n
    · have hlt' : (k : Int) < (n : Int) := by omega
      obtain ⟨b, o, rfl, hb, hX⟩ := HR.out (by omega)
      have h0 := hX.below HB.out hb (k * 3) (by omega)
      have h1 := hX.below HB.out hb (k * 3 + 1) (by omega)
      have h2 := hX.below HB.out hb (k * 3 + 2) (by omega)
      simp only [← Nat.add_assoc] at h1 h2
      clear hX
      have hgb := gr_bd Y (X (k * 3)) m
      obtain ⟨g, hg⟩ := Int.eq_ofNat_of_zero_le hgb.1
      have hgm : g < m + 1 := by omega
      have hgm' : (g : Int) < (m : Int) + 1 := by omega
      have HG := Lib.hid hg
      clear hg hgb
      have hcb := cnt_bd X Y m g k
      have c0 := hown.out.cell (j := g) hgm
      have f0 := hown.out.frozen g
      generalize hC : cnt X Y m g k = C at *
      have HC := Lib.hid hC
      clear hC
      go_wp2_with (go_at_call 77; refine (grade_s _ _ (X (k * 3)) A2 m c2 Y _ hm (by go_simp) (Sl.below HY.out HB.out (Nat.le_refl _))).mono ?_; rintro e w' ⟨rfl, q3, rfl⟩; rw [HG.out])
      go_roundw
      case rel =>
        refine ⟨k + 1, by omega, by go_num, ((hown.out.drewN q3).set g (C + 1)).congr ?_, ?_⟩
        · intro j hj; rw [← HC.out]; exact cnt_step HG.out
        · exact Below.setCell (drewN_below HB.out _) (Nat.le_refl _) _
      case measure => simp [intOf]; omega
    · obtain rfl : k = n := by omega
      have HC := Lib.hid (cnts_len X Y m k)
      go_wp2
      go_ret2
      exact ⟨_, _, by rw [HC.out]; rfl, by rw [HC.out]; exact Nat.le_refl _, by unfold maxLen; omega, by rw [HC.out]; exact fun _ => ⟨_, rfl, Nat.le_refl _, hzz, by rw [Nat.mul_one]; exact hown.out.congr (fun j hj => (cnts_at hj).symm)⟩, HB.out⟩

set_option maxHeartbeats 2000000 in
theorem count_i (A : Option Addr) (n c : Nat) (X : Nat → Int) (A2 : Option Addr) (m c2 : Nat) (Y : Nat → Int) (w : World) (hn : n ≤ maxLen) (hm : m ≤ maxLen) (hr : Sl w A n 3 X) (hy : Sl w A2 m 1 Y) (hv : listB n X = true) (hl : limB m Y = true) :
    Calls Try.prog 22 #[.slice A n c, .slice A2 m c2] w (NumsCode w 2 (cnts X Y m n) 0) := by
  have hn20 := (listB_of hv).1
  have hm8 := (limB_of hl).1
  have HR := Lib.hid hr
  have HY := Lib.hid hy
  clear hr hy
  have hmk := run_make_rows (P := Try.prog) 29 2 _ 1 8 Try.underlying29 info_num .i64 .i64 (m + 1) (by omega) (by omega)
  simp only [Int.natCast_add, Int.cast_ofNat_Int] at hmk
  go_enter Try.func22, Try.ntmps22
  go_wp2_with fail
  refine (valid_i A n c X _ hn HR.out).mono ?_
  rintro e w1 ⟨rfl, b1⟩
  have z1 := b1.size
  have B1 := Lib.hid b1
  clear b1
  go_wp2_with fail
  refine (limits_i A2 m c2 Y _ hm (Sl.below HY.out B1.out (Nat.le_refl _))).mono ?_
  rintro e w' ⟨rfl, rfl⟩
  go_wp2_with fail
  have hO : Own (w1.alloc (Obj.cells (madeCells #[Value.int IntKind.i64 0] (m + 1)) 2)) w1.heap.size 2 (m + 1) (fun _ => 0) :=
    own_made _ _ _ _ _ (fun i hi => by match i, hi with | 0, _ => rfl) (by simp) (by omega)
  have HO := Lib.hid hO
  clear hO hmk
  go_loopw [21] (fun s wr => ∃ k : Nat, k ≤ n ∧ s = .int .i64 k ∧ Hid (Own wr w1.heap.size 2 (m + 1) (fun j => cnt X Y m j k)) ∧ Below w.heap.size w wr) (fun s _ => n - (intOf s).toNat)
  case atStart => exact ⟨0, by omega, rfl, HO.out, B1.out.alloc z1 _⟩
  case round =>
    obtain ⟨k, hk, rfl, hown, hbl⟩ := hrel
    have HB := Lib.hid hbl
    have hzz := hown.out.lt
    have hz0 := hbl.size
    clear hbl
    by_cases hlt : k < n
    · have hlt' : (k : Int) < (n : Int) := by omega
      obtain ⟨b, o, rfl, hb, hX⟩ := HR.out (by omega)
      have h0 := hX.below HB.out hb (k * 3) (by omega)
      have h1 := hX.below HB.out hb (k * 3 + 1) (by omega)
      have h2 := hX.below HB.out hb (k * 3 + 2) (by omega)
      simp only [← Nat.add_assoc] at h1 h2
      clear hX
      have hgb := gr_bd Y (X (k * 3)) m
      obtain ⟨g, hg⟩ := Int.eq_ofNat_of_zero_le hgb.1
      have hgm : g < m + 1 := by omega
      have hgm' : (g : Int) < (m : Int) + 1 := by omega
      have HG := Lib.hid hg
      clear hg hgb
      have hcb := cnt_bd X Y m g k
      go_wp2_with fail
      refine (grade_i (X (k * 3)) (X (k * 3 + 1)) (X (k * 3 + 2)) A2 m c2 Y _ hm (Sl.below HY.out (HB.out.alloc hz0 _) (Nat.le_refl _))).mono ?_
      rintro e w3 ⟨rfl, hb3⟩
      rw [HG.out]
      have g3 : Below w.heap.size w w3 := (HB.out.alloc hz0 _).trans (hb3.mono (by simp; omega))
      have o3 : Own w3 w1.heap.size 2 (m + 1) (fun j => cnt X Y m j k) := Own.below (hown.out.alloc _) hb3 (by simp; omega)
      have O3 := Lib.hid o3
      have c0 := o3.cell (j := g) hgm
      have f0 := o3.frozen g
      clear o3 hb3 h0 h1 h2
      generalize hC : cnt X Y m g k = C at *
      have HC := Lib.hid hC
      clear hC
      go_wp2
      go_roundw
      case rel =>
        refine ⟨k + 1, by omega, by go_num, (O3.out.set g (C + 1)).congr ?_, ?_⟩
        · intro j hj; rw [← HC.out]; exact cnt_step HG.out
        · exact Below.setCell g3 z1 _
      case measure => simp [intOf]; omega
    · obtain rfl : k = n := by omega
      have HC := Lib.hid (cnts_len X Y m k)
      go_wp2
      go_ret2
      exact ⟨_, _, by rw [HC.out]; rfl, by rw [HC.out]; exact Nat.le_refl _, by unfold maxLen; omega, by rw [HC.out]; exact fun _ => ⟨_, rfl, z1, hzz, by rw [Nat.mul_one]; exact hown.out.congr (fun j hj => (cnts_at hj).symm)⟩, HB.out⟩

set_option maxHeartbeats 2000000 in
theorem count_s_no (A : Option Addr) (n c : Nat) (X : Nat → Int) (A2 : Option Addr) (m c2 : Nat) (Y : Nat → Int) (code : Int) (w : World) (hn : n ≤ maxLen) (hm : m ≤ maxLen) (hr : Sl w A n 3 X) (hy : Sl w A2 m 1 Y)
    (hv : listB n X = false ∧ code = 1 ∨ listB n X = true ∧ limB m Y = false ∧ code = 2) :
    Calls Try.prog 20 #[.slice A n c, .slice A2 m c2] w (NumsCode w 2 [] code) := by
  have HR := Lib.hid hr
  have HY := Lib.hid hy
  clear hr hy
  rcases hv with ⟨hv, rfl⟩ | ⟨hv, h1, rfl⟩
  all_goals
    go_enter Try.func20, Try.ntmps20
    go_wp2_with (first
      | (go_at_call 71; refine (ok_s A n c X _ hn HR.out).mono ?_; rintro e w' ⟨rfl, q1, rfl⟩)
      | (go_at_call 76; refine (limits_s A2 m c2 Y _ hm (Sl.below HY.out (drewN_below (Below.refl _ _) _) (Nat.le_refl _))).mono ?_; rintro e w' ⟨rfl, q2, rfl⟩))
    go_ret2
    exact ⟨none, 0, rfl, Nat.le_refl _, by unfold maxLen; omega, Row.none_, drewN_below (Below.refl _ _) _⟩
set_option maxHeartbeats 2000000 in
theorem count_i_no (A : Option Addr) (n c : Nat) (X : Nat → Int) (A2 : Option Addr) (m c2 : Nat) (Y : Nat → Int) (code : Int) (w : World) (hn : n ≤ maxLen) (hm : m ≤ maxLen) (hr : Sl w A n 3 X) (hy : Sl w A2 m 1 Y)
    (hv : listB n X = false ∧ code = 1 ∨ listB n X = true ∧ limB m Y = false ∧ code = 2) :
    Calls Try.prog 22 #[.slice A n c, .slice A2 m c2] w (NumsCode w 2 [] code) := by
  have HR := Lib.hid hr
  have HY := Lib.hid hy
  clear hr hy
  rcases hv with ⟨hv, rfl⟩ | ⟨hv, h1, rfl⟩
  all_goals
    go_enter Try.func22, Try.ntmps22
    go_wp2_with (first
      | (go_at_call 18; refine (valid_i A n c X _ hn HR.out).mono ?_; rintro e w1 ⟨rfl, b1⟩)
      | (go_at_call 78; refine (limits_i A2 m c2 Y _ hm (Sl.below HY.out b1 (Nat.le_refl _))).mono ?_; rintro e w' ⟨rfl, rfl⟩))
    go_ret2
    exact ⟨none, 0, rfl, Nat.le_refl _, by unfold maxLen; omega, Row.none_, b1⟩

end Go.Proofs.Ytcpaenmhnoagdab.rod
