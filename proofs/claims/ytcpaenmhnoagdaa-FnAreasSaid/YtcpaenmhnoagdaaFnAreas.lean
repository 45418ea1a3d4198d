/-
  FnAreas: the walk.
-/
import Derived.Test.YtcpaenmhnoagdaaFnAreasM
namespace Go.Proofs.Ytcpaenmhnoagdaa.src
open Go.ChangeShapes Go.WideShapes Go.ChangeAt Go.RowKit Go.Proofs.Ytcpaenmhnoagdaa.mem Go.Proofs.Ytcpaenmhnoagdaa.rod
set_option linter.unusedVariables false

set_option maxHeartbeats 1000000 in
theorem f6bigA_c (A : Option Addr) (n c : Nat) (w : World) (hn : n ≤ 4096) :
    Calls Try.prog 40 #[.slice A n c] w fun e w' => e = .returned (.bool false) ∧ w = w' := by
  have h1 : ¬ (4096 : Int) < (n : Int) := by omega
  go_enter Try.func40, Try.ntmps40
  go_wp2
  go_ret
  exact ⟨rfl, rfl⟩
set_option maxHeartbeats 1000000 in
theorem f6bigA_no (A : Option Addr) (n c : Nat) (w : World) (hn : 4096 < n) :
    Calls Try.prog 40 #[.slice A n c] w fun e w' => e = .returned (.bool true) ∧ w' = w := by
  have h1 : (4096 : Int) < (n : Int) := by omega
  go_enter Try.func40, Try.ntmps40
  go_wp2
  go_ret
  exact ⟨rfl, rfl⟩
theorem rods_more (g t : Int) (g1 : 10 ≤ g) (g2 : g + 1 ≤ 2000) (t1 : 1 ≤ t) (t2 : t ≤ 300) (W : World) :
    Calls Try.prog 24 #[.int .i64 (g + 1), .int .i64 t] W fun e w' => e = .returned (.tuple #[.int .i64 (rin (g + 1) t), .int .i64 0]) ∧ Below W.heap.size W w' := by
  have h := rodsIn_i (g + 1) t W
  have e : rodsIn (g + 1) t = (rin (g + 1) t, 0) := by
    unfold rodsIn
    rw [inB_yes (by omega) (by omega), inB_yes (by omega) (by omega)]
    rfl
  rw [e] at h
  exact h

set_option maxHeartbeats 8000000 in
set_option maxRecDepth 100000 in
theorem areas_walk (A : Option Addr) (n c : Nat) (X : Nat → Int) (w : World) (hn : n ≤ 4096) (hx : Sb w A n X) :
    Calls Try.prog 12 #[.slice A n c] w fun e w' => e = .returned (.bool true) ∧ Below w.heap.size w w' := by
  have HX := Lib.hid hx
  clear hx
  go_enter Try.func12, Try.ntmps12
  go_wp2_with fail
  refine (f6bigA_c A n c _ hn).mono ?_
  rintro e w' ⟨rfl, rfl⟩
  go_wp2_with fail
  refine (areaD_c A n c X _ hn HX.out).mono ?_
  rintro e w1 ⟨g, rfl, g0, g1, hb1⟩
  obtain ⟨N, D, cd, hai, has, hA⟩ := area_any g
  have HAre := Lib.hid hA
  have HAS := Lib.hid has
  go_wp2_with fail
  refine (hai _).mono ?_
  rintro e w2 ⟨rfl, hb2⟩
  have B2 := Lib.hid (hb1.trans (hb2.mono hb1.size))
  have z2 := B2.out.size
  clear hai has hA hb1 hb2
  go_wp2_with fail
  refine (HAS.out _).mono ?_
  rintro e w3 ⟨rfl, hb3⟩
  have p0 : (w2.alloc (Obj.cells #[Value.int IntKind.i64 N, Value.int IntKind.i64 D] 31)).cell? ⟨w2.heap.size, 0, none⟩ = some (.int .i64 N) := by go_simp
  have p1 : (w2.alloc (Obj.cells #[Value.int IntKind.i64 N, Value.int IntKind.i64 D] 31)).cell? ⟨w2.heap.size, 1, none⟩ = some (.int .i64 D) := by go_simp
  have c0 := ((bcell hb3).1 w2.heap.size 0 (by simp)).trans p0
  have c1 := ((bcell hb3).1 w2.heap.size 1 (by simp)).trans p1
  have z3 := hb3.size
  simp at z3
  have B3 := Lib.hid ((Below.alloc B2.out z2 (Obj.cells #[Value.int IntKind.i64 N, Value.int IntKind.i64 D] 31)).trans (hb3.mono (by simp; omega)))
  clear p0 p1 hb3
  have C0 := Lib.hid c0
  have C1 := Lib.hid c1
  clear c0 c1
  obtain ⟨W3, hW3⟩ : ∃ W, W = w3.alloc (Obj.cells #[Value.int IntKind.i64 N, Value.int IntKind.i64 D] 31) := ⟨_, rfl⟩
  have zW : W3.heap.size = w3.heap.size + 1 := by rw [hW3]; simp
  have BW := Lib.hid (show Below w.heap.size w W3 from by rw [hW3]; exact Below.alloc B3.out (by omega) _)
  have CS := Lib.hid (show (W3.cell? ⟨w2.heap.size, 0, none⟩ = some (.int .i64 N) ∧ W3.cell? ⟨w2.heap.size, 1, none⟩ = some (.int .i64 D)) ∧ W3.cell? ⟨w3.heap.size, 0, none⟩ = some (.int .i64 N) ∧ W3.cell? ⟨w3.heap.size, 1, none⟩ = some (.int .i64 D) from by
    have hb := Below.alloc (Below.refl w3.heap.size w3) (Nat.le_refl _) (Obj.cells #[Value.int IntKind.i64 N, Value.int IntKind.i64 D] 31)
    rw [hW3]
    exact ⟨⟨((bcell hb).1 w2.heap.size 0 (by omega)).trans C0.out, ((bcell hb).1 w2.heap.size 1 (by omega)).trans C1.out⟩, by go_simp, by go_simp⟩)
  clear C0 C1
  go_wp2_with fail
  rw [← hW3]
  clear hW3
  refine (rodsD_c A n c X _ hn (HX.out.below BW.out (Nat.le_refl _))).mono ?_
  rintro e w4 ⟨y, t, rfl, y0, y1, t0, t1, hb4⟩
  obtain ⟨v, ce, hri, hrs, hR⟩ := rods_any y t
  have HR := Lib.hid hR
  have HRS := Lib.hid hrs
  have z4 := hb4.size
  have B4 := Lib.hid (BW.out.trans (hb4.mono (by omega)))
  go_wp2_with fail
  refine (hri _).mono ?_
  rintro e w5 ⟨rfl, hb5⟩
  have z5 := hb5.size
  have B5 := Lib.hid (B4.out.trans (hb5.mono (by omega)))
  have M5 := Lib.hid (hb4.trans (hb5.mono (by omega)))
  clear hri hrs hR hb4 hb5
  go_wp2_with fail
  refine (HRS.out _).mono ?_
  rintro e w6 ⟨rfl, hb6⟩
  have z6 := hb6.size
  have B6 := Lib.hid (B5.out.trans (hb6.mono (by omega)))
  have M6 := Lib.hid (M5.out.trans (hb6.mono (by omega)))
  clear hb6
  go_wp2_with fail
  refine (weightD_c A n c X _ hn (HX.out.below B6.out (Nat.le_refl _))).mono ?_
  rintro e w7 ⟨P, k, d, Y, l, rfl, k31, kd, dm, hr, hb7⟩
  have z7 := hb7.size
  obtain ⟨u, cf, hwi, hws, hW⟩ := weigh_any P k d Y l k31
  have HW := Lib.hid hW
  have HWS := Lib.hid hws
  have S7 := Lib.hid hr
  have B7 := Lib.hid (B6.out.trans (hb7.mono (by omega)))
  have M7 := Lib.hid (M6.out.trans (hb7.mono (by omega)))
  clear hr hws hW hb7
  go_wp2_with fail
  refine (hwi _ S7.out.sl).mono ?_
  rintro e w8 ⟨rfl, hb8⟩
  have z8 := hb8.size
  have S8 := Lib.hid (S7.out.below hb8 (Nat.le_refl _))
  have B8 := Lib.hid (B7.out.trans (hb8.mono (by omega)))
  have M8 := Lib.hid (M7.out.trans (hb8.mono (by omega)))
  clear hwi hb8
  go_wp2_with fail
  refine (HWS.out _ S8.out.sl).mono ?_
  rintro e w9 ⟨rfl, hb9⟩
  have z9 := hb9.size
  have S9 := Lib.hid ((S8.out.below hb9 (by omega)).wide (Nat.le_refl _) (show w7.heap.size ≤ w9.heap.size by omega))
  have B9 := Lib.hid (B8.out.trans (hb9.mono (by omega)))
  have M9 := Lib.hid (M8.out.trans (hb9.mono (by omega)))
  clear hb9
  obtain ⟨⟨a0, a1⟩, b0, b1⟩ := CS.out
  have d0 := ((bcell M9.out).1 w2.heap.size 0 (by omega)).trans a0
  have d1 := ((bcell M9.out).1 w2.heap.size 1 (by omega)).trans a1
  have d2 := ((bcell M9.out).1 w3.heap.size 0 (by omega)).trans b0
  have d3 := ((bcell M9.out).1 w3.heap.size 1 (by omega)).trans b1
  clear a0 a1 b0 b1 CS
  rcases HAre.out with ⟨rfl, ga, gb, hND, n0, n1, e0, e1⟩ | rfl
  · obtain ⟨x0, x1⟩ := area_bd ga gb
    have x2 : 0 ≤ 7 * g * g * D := Int.mul_nonneg x0 (by omega)
    have x3 : 7 * g * g * D ≤ 28000000 * 88 := Int.mul_le_mul x1 e1 (by omega) (by omega)
    have hne : (N * 88 == 7 * g * g * D) = true := by simpa using hND
    rcases HR.out with ⟨rfl, y1, y2, t1, t2, rfl⟩ | rfl
    · have hne0 : ((0 : Int) == 0) = true := rfl
      by_cases hy : y < 2000
      · have hm := rin_mono y1 (by omega : y + 1 ≤ 2000) t1 t2
        have HX2 := Lib.hid (rods_more y t y1 (by omega) t1 t2)
        have hbd2 := (rin_bd y1 y2 t1 t2).2.2.2.2.2.2.2.2
        generalize rin y t = v at *
        generalize rin (y + 1) t = v2 at *
        have hnl : ¬ v2 < v := by omega
        go_wp2_with fail
        refine (HX2.out _).mono ?_
        rintro e wA ⟨rfl, hbA⟩
        have SA := Lib.hid ((S9.out.below hbA (Nat.le_refl _)).sl)
        have BA := Lib.hid (B9.out.trans (hbA.mono B9.out.size))
        clear hbA
        have SZ := Lib.hid (SA.out)
        have BZ := Lib.hid (BA.out)
        rcases HW.out with ⟨rfl, rfl, k30, hall⟩ | ⟨c1, c2⟩
        · have HV := Lib.hid hall
          clear hall
          go_wp2_with fail
          go_loopw [23, 22] (fun s t wr => ∃ i m : Nat, i ≤ k ∧ s = .int .i64 i ∧ t = .int .i64 (wol Y l i) ∧ wr = wA.drewN m) (fun s _ _ => k - (intOf s).toNat)
          case atStart => exact ⟨0, 0, by omega, rfl, rfl, rfl⟩
          case round =>
            obtain ⟨i, m, hi, rfl, rfl, rfl⟩ := hrel
            by_cases hlt : i < k
            · have hlt' : (i : Int) < (k : Int) := by omega
              have hi0 : (0 : Int) ≤ (i : Int) := by omega
              obtain ⟨b, o, rfl, hb, hX⟩ := SZ.out (by omega)
              have p0 := hX (i * 3) (by omega)
              have p2 := hX (i * 3 + 2) (by omega)
              simp only [← Nat.add_assoc] at p2
              clear hX
              have hbd := wol_bd (l := l) (allU_le (m := i) (by omega) HV.out)
              have hbb := allU_bd HV.out hlt
              by_cases e : Y (i * 3) = l
              · have HE := Lib.hid (wol_yes (X := Y) (n := i) e)
                have e1 : (Y (i * 3) == l) = true := by simpa using e
                generalize wol Y l i = S at *
                generalize Y (i * 3 + 2) = z at *
                have hw : IntKind.i64.wrap (S + z) = S + z := IntWalk.i64_in _ (by omega)
                rw [e] at p0
                clear e e1
                go_wp2_with fail
                go_roundw
                case rel => exact ⟨i + 1, _, by omega, by go_num, by rw [HE.out], rfl⟩
                case measure => simp [intOf]; omega
              · have HE := Lib.hid (wol_no (X := Y) (n := i) e)
                have e1 : (Y (i * 3) == l) = false := by simpa using e
                generalize wol Y l i = S at *
                clear e
                go_wp2_with fail
                go_roundw
                case rel => exact ⟨i + 1, _, by omega, by go_num, by rw [HE.out], rfl⟩
                case measure => simp [intOf]; omega
            · obtain rfl : i = k := by omega
              have hS : (wol Y l i == wol Y l i) = true := by simp
              generalize wol Y l i = S at *
              go_wp2
              go_ret
              exact ⟨rfl, drewN_below BZ.out _⟩
        · have hc : (cf == 0) = false := by simp; omega
          go_wp2
          go_returns
          exact ⟨rfl, BZ.out⟩
      · have hny : ¬ y < 2000 := hy
        generalize rin y t = v at *
        have SZ := Lib.hid (S9.out.sl)
        have BZ := Lib.hid (B9.out)
        rcases HW.out with ⟨rfl, rfl, k30, hall⟩ | ⟨c1, c2⟩
        · have HV := Lib.hid hall
          clear hall
          go_wp2_with fail
          go_loopw [23, 22] (fun s t wr => ∃ i m : Nat, i ≤ k ∧ s = .int .i64 i ∧ t = .int .i64 (wol Y l i) ∧ wr = w9.drewN m) (fun s _ _ => k - (intOf s).toNat)
          case atStart => exact ⟨0, 0, by omega, rfl, rfl, rfl⟩
          case round =>
            obtain ⟨i, m, hi, rfl, rfl, rfl⟩ := hrel
            by_cases hlt : i < k
            · have hlt' : (i : Int) < (k : Int) := by omega
              have hi0 : (0 : Int) ≤ (i : Int) := by omega
              obtain ⟨b, o, rfl, hb, hX⟩ := SZ.out (by omega)
              have p0 := hX (i * 3) (by omega)
              have p2 := hX (i * 3 + 2) (by omega)
              simp only [← Nat.add_assoc] at p2
              clear hX
              have hbd := wol_bd (l := l) (allU_le (m := i) (by omega) HV.out)
              have hbb := allU_bd HV.out hlt
              by_cases e : Y (i * 3) = l
              · have HE := Lib.hid (wol_yes (X := Y) (n := i) e)
                have e1 : (Y (i * 3) == l) = true := by simpa using e
                generalize wol Y l i = S at *
                generalize Y (i * 3 + 2) = z at *
                have hw : IntKind.i64.wrap (S + z) = S + z := IntWalk.i64_in _ (by omega)
                rw [e] at p0
                clear e e1
                go_wp2_with fail
                go_roundw
                case rel => exact ⟨i + 1, _, by omega, by go_num, by rw [HE.out], rfl⟩
                case measure => simp [intOf]; omega
              · have HE := Lib.hid (wol_no (X := Y) (n := i) e)
                have e1 : (Y (i * 3) == l) = false := by simpa using e
                generalize wol Y l i = S at *
                clear e
                go_wp2_with fail
                go_roundw
                case rel => exact ⟨i + 1, _, by omega, by go_num, by rw [HE.out], rfl⟩
                case measure => simp [intOf]; omega
            · obtain rfl : i = k := by omega
              have hS : (wol Y l i == wol Y l i) = true := by simp
              generalize wol Y l i = S at *
              go_wp2
              go_ret
              exact ⟨rfl, drewN_below BZ.out _⟩
        · have hc : (cf == 0) = false := by simp; omega
          go_wp2
          go_returns
          exact ⟨rfl, BZ.out⟩
    · have hne2 : ((2 : Int) == 0) = false := rfl
      have SZ := Lib.hid (S9.out.sl)
      have BZ := Lib.hid (B9.out)
      rcases HW.out with ⟨rfl, rfl, k30, hall⟩ | ⟨c1, c2⟩
      · have HV := Lib.hid hall
        clear hall
        go_wp2_with fail
        go_loopw [23, 22] (fun s t wr => ∃ i m : Nat, i ≤ k ∧ s = .int .i64 i ∧ t = .int .i64 (wol Y l i) ∧ wr = w9.drewN m) (fun s _ _ => k - (intOf s).toNat)
        case atStart => exact ⟨0, 0, by omega, rfl, rfl, rfl⟩
        case round =>
          obtain ⟨i, m, hi, rfl, rfl, rfl⟩ := hrel
          by_cases hlt : i < k
          · have hlt' : (i : Int) < (k : Int) := by omega
            have hi0 : (0 : Int) ≤ (i : Int) := by omega
            obtain ⟨b, o, rfl, hb, hX⟩ := SZ.out (by omega)
            have p0 := hX (i * 3) (by omega)
            have p2 := hX (i * 3 + 2) (by omega)
            simp only [← Nat.add_assoc] at p2
            clear hX
            have hbd := wol_bd (l := l) (allU_le (m := i) (by omega) HV.out)
            have hbb := allU_bd HV.out hlt
            by_cases e : Y (i * 3) = l
            · have HE := Lib.hid (wol_yes (X := Y) (n := i) e)
              have e1 : (Y (i * 3) == l) = true := by simpa using e
              generalize wol Y l i = S at *
              generalize Y (i * 3 + 2) = z at *
              have hw : IntKind.i64.wrap (S + z) = S + z := IntWalk.i64_in _ (by omega)
              rw [e] at p0
              clear e e1
              go_wp2_with fail
              go_roundw
              case rel => exact ⟨i + 1, _, by omega, by go_num, by rw [HE.out], rfl⟩
              case measure => simp [intOf]; omega
            · have HE := Lib.hid (wol_no (X := Y) (n := i) e)
              have e1 : (Y (i * 3) == l) = false := by simpa using e
              generalize wol Y l i = S at *
              clear e
              go_wp2_with fail
              go_roundw
              case rel => exact ⟨i + 1, _, by omega, by go_num, by rw [HE.out], rfl⟩
              case measure => simp [intOf]; omega
          · obtain rfl : i = k := by omega
            have hS : (wol Y l i == wol Y l i) = true := by simp
            generalize wol Y l i = S at *
            go_wp2
            go_ret
            exact ⟨rfl, drewN_below BZ.out _⟩
      · have hc : (cf == 0) = false := by simp; omega
        go_wp2
        go_returns
        exact ⟨rfl, BZ.out⟩
  · have hne : ((2 : Int) == 0) = false := rfl
    rcases HR.out with ⟨rfl, y1, y2, t1, t2, rfl⟩ | rfl
    · have hne0 : ((0 : Int) == 0) = true := rfl
      by_cases hy : y < 2000
      · have hm := rin_mono y1 (by omega : y + 1 ≤ 2000) t1 t2
        have HX2 := Lib.hid (rods_more y t y1 (by omega) t1 t2)
        have hbd2 := (rin_bd y1 y2 t1 t2).2.2.2.2.2.2.2.2
        generalize rin y t = v at *
        generalize rin (y + 1) t = v2 at *
        have hnl : ¬ v2 < v := by omega
        go_wp2_with fail
        refine (HX2.out _).mono ?_
        rintro e wA ⟨rfl, hbA⟩
        have SA := Lib.hid ((S9.out.below hbA (Nat.le_refl _)).sl)
        have BA := Lib.hid (B9.out.trans (hbA.mono B9.out.size))
        clear hbA
        have SZ := Lib.hid (SA.out)
        have BZ := Lib.hid (BA.out)
        rcases HW.out with ⟨rfl, rfl, k30, hall⟩ | ⟨c1, c2⟩
        · have HV := Lib.hid hall
          clear hall
          go_wp2_with fail
          go_loopw [23, 22] (fun s t wr => ∃ i m : Nat, i ≤ k ∧ s = .int .i64 i ∧ t = .int .i64 (wol Y l i) ∧ wr = wA.drewN m) (fun s _ _ => k - (intOf s).toNat)
          case atStart => exact ⟨0, 0, by omega, rfl, rfl, rfl⟩
          case round =>
            obtain ⟨i, m, hi, rfl, rfl, rfl⟩ := hrel
            by_cases hlt : i < k
            · have hlt' : (i : Int) < (k : Int) := by omega
              have hi0 : (0 : Int) ≤ (i : Int) := by omega
              obtain ⟨b, o, rfl, hb, hX⟩ := SZ.out (by omega)
              have p0 := hX (i * 3) (by omega)
              have p2 := hX (i * 3 + 2) (by omega)
              simp only [← Nat.add_assoc] at p2
              clear hX
              have hbd := wol_bd (l := l) (allU_le (m := i) (by omega) HV.out)
              have hbb := allU_bd HV.out hlt
              by_cases e : Y (i * 3) = l
              · have HE := Lib.hid (wol_yes (X := Y) (n := i) e)
                have e1 : (Y (i * 3) == l) = true := by simpa using e
                generalize wol Y l i = S at *
                generalize Y (i * 3 + 2) = z at *
                have hw : IntKind.i64.wrap (S + z) = S + z := IntWalk.i64_in _ (by omega)
                rw [e] at p0
                clear e e1
                go_wp2_with fail
                go_roundw
                case rel => exact ⟨i + 1, _, by omega, by go_num, by rw [HE.out], rfl⟩
                case measure => simp [intOf]; omega
              · have HE := Lib.hid (wol_no (X := Y) (n := i) e)
                have e1 : (Y (i * 3) == l) = false := by simpa using e
                generalize wol Y l i = S at *
                clear e
                go_wp2_with fail
                go_roundw
                case rel => exact ⟨i + 1, _, by omega, by go_num, by rw [HE.out], rfl⟩
                case measure => simp [intOf]; omega
            · obtain rfl : i = k := by omega
              have hS : (wol Y l i == wol Y l i) = true := by simp
              generalize wol Y l i = S at *
              go_wp2
              go_ret
              exact ⟨rfl, drewN_below BZ.out _⟩
        · have hc : (cf == 0) = false := by simp; omega
          go_wp2
          go_returns
          exact ⟨rfl, BZ.out⟩
      · have hny : ¬ y < 2000 := hy
        generalize rin y t = v at *
        have SZ := Lib.hid (S9.out.sl)
        have BZ := Lib.hid (B9.out)
        rcases HW.out with ⟨rfl, rfl, k30, hall⟩ | ⟨c1, c2⟩
        · have HV := Lib.hid hall
          clear hall
          go_wp2_with fail
          go_loopw [23, 22] (fun s t wr => ∃ i m : Nat, i ≤ k ∧ s = .int .i64 i ∧ t = .int .i64 (wol Y l i) ∧ wr = w9.drewN m) (fun s _ _ => k - (intOf s).toNat)
          case atStart => exact ⟨0, 0, by omega, rfl, rfl, rfl⟩
          case round =>
            obtain ⟨i, m, hi, rfl, rfl, rfl⟩ := hrel
            by_cases hlt : i < k
            · have hlt' : (i : Int) < (k : Int) := by omega
              have hi0 : (0 : Int) ≤ (i : Int) := by omega
              obtain ⟨b, o, rfl, hb, hX⟩ := SZ.out (by omega)
              have p0 := hX (i * 3) (by omega)
              have p2 := hX (i * 3 + 2) (by omega)
              simp only [← Nat.add_assoc] at p2
              clear hX
              have hbd := wol_bd (l := l) (allU_le (m := i) (by omega) HV.out)
              have hbb := allU_bd HV.out hlt
              by_cases e : Y (i * 3) = l
              · have HE := Lib.hid (wol_yes (X := Y) (n := i) e)
                have e1 : (Y (i * 3) == l) = true := by simpa using e
                generalize wol Y l i = S at *
                generalize Y (i * 3 + 2) = z at *
                have hw : IntKind.i64.wrap (S + z) = S + z := IntWalk.i64_in _ (by omega)
                rw [e] at p0
                clear e e1
                go_wp2_with fail
                go_roundw
                case rel => exact ⟨i + 1, _, by omega, by go_num, by rw [HE.out], rfl⟩
                case measure => simp [intOf]; omega
              · have HE := Lib.hid (wol_no (X := Y) (n := i) e)
                have e1 : (Y (i * 3) == l) = false := by simpa using e
                generalize wol Y l i = S at *
                clear e
                go_wp2_with fail
                go_roundw
                case rel => exact ⟨i + 1, _, by omega, by go_num, by rw [HE.out], rfl⟩
                case measure => simp [intOf]; omega
            · obtain rfl : i = k := by omega
              have hS : (wol Y l i == wol Y l i) = true := by simp
              generalize wol Y l i = S at *
              go_wp2
              go_ret
              exact ⟨rfl, drewN_below BZ.out _⟩
        · have hc : (cf == 0) = false := by simp; omega
          go_wp2
          go_returns
          exact ⟨rfl, BZ.out⟩
    · have hne2 : ((2 : Int) == 0) = false := rfl
      have SZ := Lib.hid (S9.out.sl)
      have BZ := Lib.hid (B9.out)
      rcases HW.out with ⟨rfl, rfl, k30, hall⟩ | ⟨c1, c2⟩
      · have HV := Lib.hid hall
        clear hall
        go_wp2_with fail
        go_loopw [23, 22] (fun s t wr => ∃ i m : Nat, i ≤ k ∧ s = .int .i64 i ∧ t = .int .i64 (wol Y l i) ∧ wr = w9.drewN m) (fun s _ _ => k - (intOf s).toNat)
        case atStart => exact ⟨0, 0, by omega, rfl, rfl, rfl⟩
        case round =>
          obtain ⟨i, m, hi, rfl, rfl, rfl⟩ := hrel
          by_cases hlt : i < k
          · have hlt' : (i : Int) < (k : Int) := by omega
            have hi0 : (0 : Int) ≤ (i : Int) := by omega
            obtain ⟨b, o, rfl, hb, hX⟩ := SZ.out (by omega)
            have p0 := hX (i * 3) (by omega)
            have p2 := hX (i * 3 + 2) (by omega)
            simp only [← Nat.add_assoc] at p2
            clear hX
            have hbd := wol_bd (l := l) (allU_le (m := i) (by omega) HV.out)
            have hbb := allU_bd HV.out hlt
            by_cases e : Y (i * 3) = l
            · have HE := Lib.hid (wol_yes (X := Y) (n := i) e)
              have e1 : (Y (i * 3) == l) = true := by simpa using e
              generalize wol Y l i = S at *
              generalize Y (i * 3 + 2) = z at *
              have hw : IntKind.i64.wrap (S + z) = S + z := IntWalk.i64_in _ (by omega)
              rw [e] at p0
              clear e e1
              go_wp2_with fail
              go_roundw
              case rel => exact ⟨i + 1, _, by omega, by go_num, by rw [HE.out], rfl⟩
              case measure => simp [intOf]; omega
            · have HE := Lib.hid (wol_no (X := Y) (n := i) e)
              have e1 : (Y (i * 3) == l) = false := by simpa using e
              generalize wol Y l i = S at *
              clear e
              go_wp2_with fail
              go_roundw
              case rel => exact ⟨i + 1, _, by omega, by go_num, by rw [HE.out], rfl⟩
              case measure => simp [intOf]; omega
          · obtain rfl : i = k := by omega
            have hS : (wol Y l i == wol Y l i) = true := by simp
            generalize wol Y l i = S at *
            go_wp2
            go_ret
            exact ⟨rfl, drewN_below BZ.out _⟩
      · have hc : (cf == 0) = false := by simp; omega
        go_wp2
        go_returns
        exact ⟨rfl, BZ.out⟩

end Go.Proofs.Ytcpaenmhnoagdaa.src
