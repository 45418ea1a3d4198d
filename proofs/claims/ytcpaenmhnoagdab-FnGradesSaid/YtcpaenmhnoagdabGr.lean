/-
  The walk of the law on grades: for every two arguments the law gives true.
-/
import Derived.Test.YtcpaenmhnoagdabA2
import Derived.Test.YtcpaenmhnoagdabSrcRods
import Derived.Test.YtcpaenmhnoagdabSrcAt
import Derived.Test.YtcpaenmhnoagdabLong
import Derived.Deep.CutRange
import Derived.Deep.RegionHeld3
namespace Go.Proofs.Ytcpaenmhnoagdab.src
open Go.ChangeShapes Go.WideShapes Go.ChangeAt Go.RowKit Go.Proofs.Ytcpaenmhnoagdab.mem Go.Proofs.Ytcpaenmhnoagdab.rod
set_option linter.unusedVariables false

/-- a list of n numbers, and a code -/
def NumsN (w : World) (n : Nat) (X : Nat → Int) (e : Ending) (w' : World) : Prop :=
  ∃ A c, e = .returned (.tuple #[.slice A n c, .int .i64 0]) ∧ n ≤ c ∧ Row w' w.heap.size w'.heap.size A n 1 2 X ∧ Below w.heap.size w w'
theorem numsN {w w' : World} {l : List Int} {n : Nat} {e : Ending} (h : NumsCode w 2 l 0 e w') (hl : l.length = n) : NumsN w n (fun j => l.getD j 0) e w' := by
  subst hl
  obtain ⟨A, c, e, hc, _, h1, h2⟩ := h
  exact ⟨A, c, e, hc, h1, h2⟩
theorem sl_le {w : World} {A : Option Addr} {n m : Nat} {X : Nat → Int} (h : Sl w A n 1 X) (hm : m ≤ n) : Sl w A m 1 X := fun h0 => by
  obtain ⟨b, o, e, h1, h2⟩ := h (by omega)
  exact ⟨b, o, e, h1, fun i hi => h2 i (by omega)⟩
theorem sl_two {w : World} {g : Nat} {a b : Int} {E : TypeId} (hh : w.heap[g]? = some (.cells #[.int .i64 a, .int .i64 b] E (0, 0))) : Sl w (some ⟨g, 0, none⟩) 2 1 (lim2 a b) := fun _ => ⟨g, 0, rfl, (Array.getElem?_eq_some_iff.1 hh).1, fun i hi => by
  have h2 : i = 0 ∨ i = 1 := by omega
  rcases h2 with rfl | rfl
  · simp [World.cell?, hh, lim2]
  · simp [World.cell?, hh, lim2]⟩
theorem sl_lim (w : World) (a b : Int) (E : TypeId) : Sl (w.alloc (.cells #[.int .i64 a, .int .i64 b] E)) (some ⟨w.heap.size, 0, none⟩) 2 1 (lim2 a b) := sl_two (Go.Deep.blk_alloc_new _ _)
theorem so_not {L : Nat → Int} {n i K : Nat} (hi : i < n) (hK : (so L n).getD i 0 = K) : false = true ↔ ∃ j, j < i ∧ (soI L n).getD j 0 = (K : Int) := by
  refine ⟨fun h => absurd h (by decide), fun h => ?_⟩
  obtain ⟨j, hj, e⟩ := h
  rw [soI_at, ← hK] at e
  have := so_ne (L := L) hj hi
  omega
theorem own_sl {w : World} {g n : Nat} {E : TypeId} {X : Nat → Int} (h : mem.Own w g E n X) : Sl w (some ⟨g, 0, none⟩) n 1 X := fun _ => ⟨g, 0, rfl, h.lt, fun i hi => h.ints i (by omega)⟩
theorem apart_at2 {i k n : Nat} {X : Nat → Int} {w : World} (hv : allB X n = true) (hi : i < n) (hk : k < n) :
    Calls Try.prog 41 #[.agg #[.int .i64 (X (i * 3)), .int .i64 (X (i * 3 + 1)), .int .i64 (X (i * 3 + 2))], .agg #[.int .i64 (X (k * 3)), .int .i64 (X (k * 3 + 1)), .int .i64 (X (k * 3 + 2))]] w fun e w' => e = .returned (.int .i64 (ap X i k)) ∧ Below w.heap.size w w' :=
  a2Apart_c _ _ _ _ _ _ w (allB_at hv hi) (allB_at hv hk)
theorem rodB_rods {Y : Nat → Int} {k : Nat} (h : Rods3 Y k) : ∀ i, i < k → rodB (Y (i * 3)) (Y (i * 3 + 1)) (Y (i * 3 + 2)) = true := fun i hi => (h i hi).1

set_option maxHeartbeats 16000000 in
set_option maxRecDepth 100000 in
theorem grades_walk (A : Option Addr) (n c : Nat) (X : Nat → Int) (A2 : Option Addr) (m c2 : Nat) (X2 : Nat → Int) (w : World) (hn : n ≤ 3000) (hm : m ≤ 3000) (hX : Sb w A n X) (hX2 : Sb w A2 m X2) :
    Calls Try.prog 8 #[.slice A n c, .slice A2 m c2] w fun e w' => e = .returned (.bool true) ∧ Below w.heap.size w w' := by
  have HX := Lib.hid hX
  have HX2 := Lib.hid hX2
  clear hX hX2
  go_enter Try.func8, Try.ntmps8
  go_wp2_with fail
  refine (long_b A A2 n m c c2 _ hn hm).mono ?_
  rintro e w1 ⟨rfl, b1⟩
  go_wp2_with fail
  refine (a2Rods_c A n c X _ hn (HX.out.below b1 (Nat.le_refl _))).mono ?_
  rintro e w2 ⟨B, k, d, Y, rfl, hk, hd, hd2, hsm, hrow, hb2⟩
  have b2 := b1.trans (hb2.mono b1.size)
  have S2 := Lib.hid hrow.sl
  have hkm : k ≤ maxLen := by unfold maxLen; omega
  have hlist := rods_list (rodB_rods hsm) (show k ≤ 20 by omega)
  have SM := Lib.hid hsm
  clear hsm hrow hb2 b1
  go_wp2_with fail
  refine (at_b A2 m c2 X2 0 10 9 _ hm (by omega) (by omega) (by omega) (HX2.out.below b2 (Nat.le_refl _))).mono ?_
  rintro e w3 ⟨a, rfl, a0, a1, hb3⟩
  have b3 := b2.trans (hb3.mono b2.size)
  have S3 := Lib.hid (S2.out.below hb3 (Nat.le_refl _))
  clear hb3
  go_wp2_with fail
  refine (at_b A2 m c2 X2 1 20 19 _ hm (by omega) (by omega) (by omega) (HX2.out.below b3 (Nat.le_refl _))).mono ?_
  rintro e w4 ⟨b, rfl, bb0, bb1, hb4⟩
  have b4 := b3.trans (hb4.mono b3.size)
  have S4 := Lib.hid (S3.out.below hb4 (Nat.le_refl _))
  clear hb4
  go_wp2_with fail
  have hLim := lim2_ok (a := 300 + 50 * a) (b := 1000 + 50 * b) (by omega) (by omega) (by omega)
  obtain ⟨Lim, hLe⟩ : ∃ L, L = lim2 (300 + 50 * a) (1000 + 50 * b) := ⟨_, rfl⟩
  have LW := Lib.hid (sl_lim w4 (300 + 50 * a) (1000 + 50 * b) 2)
  rw [← hLe] at hLim LW
  obtain ⟨W4, hW4⟩ : ∃ W, W = w4.alloc (.cells #[.int .i64 (300 + 50 * a), .int .i64 (1000 + 50 * b)] 2) := ⟨_, rfl⟩
  rw [← hW4] at LW ⊢
  have g4 : Below w4.heap.size w4 W4 := by rw [hW4]; go_grown
  have b4' := b4.trans (g4.mono b4.size)
  have S4' := Lib.hid (S4.out.below g4 (Nat.le_refl _))
  clear hW4 g4 b4 hLe
  refine (count_i B k d Y (some ⟨w4.heap.size, 0, none⟩) 2 2 Lim _ hkm (by unfold maxLen; omega) S4'.out LW.out hlist hLim).mono ?_
  intro e w5 hnc
  obtain ⟨A5, c5, rfl, hc5, hr5, hb5⟩ := numsN hnc (cnts_len Y Lim 2 k)
  have b5 := b4'.trans (hb5.mono b4'.size)
  have S5 := Lib.hid (S4'.out.below hb5 (Nat.le_refl _))
  have L5 := Lib.hid (LW.out.below hb5 (Nat.le_refl _))
  have C5 := Lib.hid hr5.sl
  clear hr5 hb5 hnc b4'
  go_wp2_with fail
  refine (longest_i B k d Y _ hlist S5.out).mono ?_
  intro e w6 hnc
  obtain ⟨A6, c6, rfl, hc6, hr6, hb6⟩ := numsN hnc (soI_len (L := fun x => Y (x * 3)) k)
  have b6 := b5.trans (hb6.mono b5.size)
  have S6 := Lib.hid (S5.out.below hb6 (Nat.le_refl _))
  have L6 := Lib.hid (L5.out.below hb6 (Nat.le_refl _))
  have C6 := Lib.hid (C5.out.below hb6 (Nat.le_refl _))
  have O6 := Lib.hid hr6.sl
  clear hr6 hb6 hnc b5
  go_wp2_with fail
  refine (at_b A2 m c2 X2 2 20 19 _ hm (by omega) (by omega) (by omega) (HX2.out.below b6 (Nat.le_refl _))).mono ?_
  rintro e w7 ⟨q, rfl, qq0, qq1, hb7⟩
  have b7 := b6.trans (hb7.mono b6.size)
  have S7 := Lib.hid (S6.out.below hb7 (Nat.le_refl _))
  have L7 := Lib.hid (L6.out.below hb7 (Nat.le_refl _))
  have C7 := Lib.hid (C6.out.below hb7 (Nat.le_refl _))
  have O7 := Lib.hid (O6.out.below hb7 (Nat.le_refl _))
  clear hb7
  go_wp2_with fail
  obtain ⟨N, hN⟩ : ∃ N, (idxs (betB Y (100 + 50 * q) (100 + 50 * q + 500)) k).length = N := ⟨_, rfl⟩
  have hNk : N ≤ k := by rw [← hN]; exact idxs_len _ _
  refine (between_i B k d Y (100 + 50 * q) (100 + 50 * q + 500) _ hkm S7.out hlist (inB_yes (by omega) (by omega)) (inB_yes (by omega) (by omega))).mono ?_
  intro e w8 hnc
  obtain ⟨A8, c8, rfl, hc8, hr8, hb8⟩ := numsN hnc hN
  have b8 := b7.trans (hb8.mono b7.size)
  have S8 := Lib.hid (S7.out.below hb8 (Nat.le_refl _))
  have L8 := Lib.hid (L7.out.below hb8 (Nat.le_refl _))
  have C8 := Lib.hid (C7.out.below hb8 (Nat.le_refl _))
  have O8 := Lib.hid (O7.out.below hb8 (Nat.le_refl _))
  have N8 := Lib.hid hr8.sl
  have NR := Lib.hid (fun j (hj : j + 1 < N) => idxs_rise (p := betB Y (100 + 50 * q) (100 + 50 * q + 500)) k j (by rw [hN]; exact hj))
  have NB := Lib.hid (fun j (hj : j < N) => idxs_at (p := betB Y (100 + 50 * q) (100 + 50 * q + 500)) k j (by rw [hN]; exact hj))
  have NH := Lib.hid (fun x => idxs_has (p := betB Y (100 + 50 * q) (100 + 50 * q + 500)) (k := x) k)
  rw [hN] at NH
  have CB := Lib.hid (fun j (hj : j < 3) => by
    have h := cnt_bd Y Lim 2 j k
    rw [← cnts_at (m := 2) (by omega)] at h
    exact (show 0 ≤ (cnts Y Lim 2 k).getD j 0 ∧ (cnts Y Lim 2 k).getD j 0 ≤ 1000 by omega))
  have CS := Lib.hid (cnts_sum Y Lim k)
  clear hr8 hb8 hnc
  go_wp2_with (first
    | (go_at_call 36; refine (a2Sum_c A5 3 c5 _ _ (by omega) C8.out CB.out).mono ?_; rintro e wq ⟨rfl, hwq⟩; rw [hwq, CS.out]; clear hwq)
    | (go_at_call 37; refine (a2Rises_c A8 N c8 _ k _ (by omega) N8.out NB.out NR.out).mono ?_; rintro e w9 ⟨rfl, hd9⟩; have hb9 : Below w8.heap.size w8 w9 := (by obtain ⟨m9, e9⟩ := hd9; rw [e9]; exact drewN_below (Below.refl _ _) _); clear hd9))
  have z89 := hb9.size
  have S9 := Lib.hid (S8.out.below hb9 (Nat.le_refl _))
  have L9 := Lib.hid (L8.out.below hb9 (Nat.le_refl _))
  have C9 := Lib.hid (C8.out.below hb9 (Nat.le_refl _))
  have O9 := Lib.hid (O8.out.below hb9 (Nat.le_refl _))
  have N9 := Lib.hid (N8.out.below hb9 (Nat.le_refl _))
  have B9 := Lib.hid (b8.trans (hb9.mono b8.size))
  clear hb9 b7 b8 b6 b3 b2
  have hall := (listB_of hlist).2
  go_loopw [15] (fun s wr => ∃ i : Nat, i ≤ k ∧ s = .int .i64 i ∧ mem.Own wr w9.heap.size 2 3 (fun j => cnt Y Lim 2 j i) ∧ Below w9.heap.size w9 wr) (fun s _ => k - (intOf s).toNat)
  case atStart => exact ⟨0, by omega, rfl, own_new _ _ _ _ _ (fun i hi => by match i, hi with | 0, _ => rfl | 1, _ => rfl | 2, _ => rfl) (by simp), by go_grown⟩
  case round =>
    obtain ⟨i, hi, rfl, ho, hd⟩ := hrel
    have hzz := hd.size
    have HO := Lib.hid ho
    have HD := Lib.hid hd
    clear ho hd
    by_cases hil : i < k
    · have hil' : (i : Int) < (k : Int) := by omega
      have hii0 : (0 : Int) ≤ (i : Int) := by omega
      have hic6 : (i : Int) ≤ (c6 : Int) := by omega
      have hic6n : i ≤ c6 := by omega
      obtain ⟨bl, ol, rfl, hbl, hL⟩ := S9.out (by omega)
      obtain ⟨bo, oo, rfl, hbo, hQ⟩ := O9.out (by omega)
      obtain ⟨bm, om, em, hbm, hM⟩ := L9.out (by omega)
      cases em
      have HLL := Lib.hid (fun (W : World) (hW : Below w9.heap.size w9 W) (j : Nat) (hj : j < k) => rod.ints_at (i := j) (hL.below hW hbl) hj)
      have HMM := Lib.hid (fun (W : World) (hW : Below w9.heap.size w9 W) (j : Nat) (hj : j < 2) => (hM.below hW hbm) j (by omega))
      have HQQ := Lib.hid (fun (W : World) (hW : Below w9.heap.size w9 W) (j : Nat) (hj : j < k) => (hQ.below hW hbo) j (by omega))
      have ALL := Lib.hid hall
      clear hL hQ hM
      obtain ⟨p0, p1, p2⟩ := HLL.out wr HD.out i hil
      go_wp2_with fail
      refine (gradeOf_y _ _ _ (some ⟨w4.heap.size, 0, none⟩) 2 2 Lim (rodB_rods SM.out i hil) hLim (by unfold maxLen; omega) _ (L9.out.below HD.out (Nat.le_refl _))).mono ?_
      rintro e w10 ⟨rfl, hb10⟩
      have D10 := Lib.hid (HD.out.trans (hb10.mono hzz))
      have O10 := Lib.hid (HO.out.below hb10 HO.out.lt)
      have hgb := gr_bd Lim (Y (i * 3)) 2
      have hg2 := gr2 Lim (Y (i * 3))
      obtain ⟨g, hg⟩ : ∃ g : Nat, gr Lim (Y (i * 3)) 2 = (g : Int) := ⟨(gr Lim (Y (i * 3)) 2).toNat, by omega⟩
      have HG := Lib.hid hg
      rw [hg] at hgb hg2 ⊢
      have hg3 : g < 3 := by omega
      have hg3i : (g : Int) < 3 := by omega
      have hg0i : (0 : Int) ≤ (g : Int) := by omega
      clear hg hgb hb10 p0 p1 p2
      obtain ⟨q0, _, _⟩ := HLL.out w10 D10.out i hil
      have m0 := HMM.out w10 D10.out 0 (by omega)
      have m1 := HMM.out w10 D10.out 1 (by omega)
      simp only [Nat.zero_add] at m0 m1
      obtain ⟨t0, ht0⟩ : ∃ t : Int, t = if Lim 0 ≤ Y (i * 3) then 1 else 0 := ⟨_, rfl⟩
      rw [← ht0] at hg2
      have HT0 := Lib.hid ht0
      have ht1 : 0 ≤ t0 ∧ t0 ≤ 1 := by rw [ht0]; split <;> decide
      obtain ⟨ht1, ht2⟩ := ht1
      have HG2 := Lib.hid hg2
      clear hg2 ht0
      go_wp2_with fail
      go_quiet (fail)
      go_upto_if 122 with fail
      go_cut [18] from 99 to 235 (fun s wc => s = .int .i64 t0 ∧ Drew w10 wc)
      case first =>
        as_aux_lemma =>
        by_cases h0 : Lim 0 ≤ Y (i * 3)
        · go_wp2_with fail
          go_meet
          case rel => exact ⟨by rw [HT0.out]; simp [h0], (Drew.refl _).drewN _⟩
        · go_wp2_with fail
          go_meet
          case rel => exact ⟨by rw [HT0.out]; simp [h0], (Drew.refl _).drewN _⟩
      case rest =>
        rename World => wc
        obtain ⟨rfl, hdc⟩ := hcut
        have q0c := hdc.cell q0
        have m1c := hdc.cell m1
        have HDC := Lib.hid hdc
        clear hdc q0 m0 m1
        go_wp2_with fail
        go_quiet (fail)
        go_upto_if 133 with fail
        go_cut [18] from 99 to 235 (fun s wx => s = .int .i64 (g : Int) ∧ Drew w10 wx)
        case first =>
          as_aux_lemma =>
          have hg2 := HG2.out
          by_cases h1 : Lim 1 ≤ Y (i * 3)
          · rw [if_pos h1] at hg2
            have HG3 := Lib.hid hg2
            clear hg2
            go_wp2_with fail
            go_meet
            case rel => exact ⟨by rw [HG3.out], HDC.out.drewN _⟩
          · rw [if_neg h1] at hg2
            have HG3 := Lib.hid hg2
            clear hg2
            go_wp2_with fail
            go_meet
            case rel => exact ⟨by rw [HG3.out]; simp, HDC.out.drewN _⟩
        case rest =>
          rename World => w11
          obtain ⟨rfl, hdc⟩ := hcut
          have b11 : Below w10.heap.size w10 w11 := by obtain ⟨m9, e9⟩ := hdc; rw [e9]; exact drewN_below (Below.refl _ _) _
          have D11 := Lib.hid (D10.out.trans (b11.mono D10.out.size))
          have O11 := Lib.hid (O10.out.below b11 O10.out.lt)
          obtain ⟨q0, _, _⟩ := HLL.out w11 D11.out i hil
          have N11 := Lib.hid (N9.out.below D11.out (Nat.le_refl _))
          obtain ⟨bb, hbb⟩ : ∃ d : Bool, betB Y (100 + 50 * q) (100 + 50 * q + 500) i = d := ⟨_, rfl⟩
          have hbin : bb = decide (100 + 50 * q ≤ Y (i * 3) ∧ Y (i * 3) ≤ 100 + 50 * q + 500) := by rw [← hbb]; rfl
          have HAS := Lib.hid (show bb = true ↔ ∃ j, j < N ∧ (idxs (betB Y (100 + 50 * q) (100 + 50 * q + 500)) k).getD j 0 = (i : Int) from ⟨fun h => (NH.out i).2 ⟨hil, by rw [hbb]; exact h⟩, fun h => by rw [← hbb]; exact ((NH.out i).1 h).2⟩)
          have eg : ((g : Int) != (g : Int)) = false := by simp
          clear hbb b11 hdc
          go_wp2_with fail
          go_cut [165] from 99 to 235 (fun s wx => s = .bool false ∧ Drew w11 wx)
          case first =>
            as_aux_lemma =>
            by_cases hlo : 100 + 50 * q ≤ Y (i * 3)
            · have hd : decide (100 + 50 * q ≤ Y (i * 3)) = true := decide_eq_true hlo
              have hd2 : decide (Y (i * 3) ≤ 100 + 50 * q + 500) = bb := by rw [hbin]; simp [hlo]
              clear hbin hlo
              go_quiet ((go_at_call 39; exact Calls.quiet_of_same (a2Has_c A8 N c8 _ (i : Int) bb _ (by omega) (Drew.sl ((Drew.refl _).drewN _) N11.out) HAS.out)))
              go_wp2_with fail
              go_meet
              case rel => exact ⟨by simp, (Drew.refl _).drewN _⟩
            · have hd : decide (100 + 50 * q ≤ Y (i * 3)) = false := decide_eq_false hlo
              obtain rfl : bb = false := by rw [hbin]; simp [hlo]
              clear hbin hlo
              go_quiet ((go_at_call 39; exact Calls.quiet_of_same (a2Has_c A8 N c8 _ (i : Int) false _ (by omega) (Drew.sl ((Drew.refl _).drewN _) N11.out) HAS.out)))
              go_wp2_with fail
              go_meet
              case rel => exact ⟨by simp, (Drew.refl _).drewN _⟩
          case rest =>
            rename World => w12
            obtain ⟨rfl, hdc⟩ := hcut
            have b12 : Below w11.heap.size w11 w12 := by obtain ⟨m9, e9⟩ := hdc; rw [e9]; exact drewN_below (Below.refl _ _) _
            have D12 := Lib.hid (D11.out.trans (b12.mono D11.out.size))
            have O12 := Lib.hid (O11.out.below b12 O11.out.lt)
            have oc := O12.out.cell (j := g) hg3
            have ofz := O12.out.frozen g
            have hcb := cnt_bd Y Lim 2 g i
            obtain ⟨K, hK⟩ : ∃ K : Nat, (so (fun x => Y (x * 3)) k).getD i 0 = K := ⟨_, rfl⟩
            have hKk : K < k := by rw [← hK]; exact so_at hil
            have HK := Lib.hid hK
            have hKi : (K : Int) < (k : Int) := by omega
            have hK0 : (0 : Int) ≤ (K : Int) := by omega
            have fK0 : decide ((K : Int) < 0) = false := decide_eq_false (by omega)
            have fKk : decide (k ≤ K) = false := decide_eq_false (by omega)
            obtain ⟨cg, hcg⟩ : ∃ z, cnt Y Lim 2 g i = z := ⟨_, rfl⟩
            have HCG := Lib.hid hcg
            rw [hcg] at oc hcb
            obtain ⟨hcb0, hcb1⟩ := hcb
            have O13 := Lib.hid ((O12.out.set g (cg + 1)).congr (Y := fun j => cnt Y Lim 2 j (i + 1)) (fun j hj => by rw [← HCG.out]; exact cnt_step HG.out))
            have D13 := Lib.hid (Below.setCell (p := ⟨w9.heap.size, g, none⟩) D12.out (Nat.le_refl _) (.int .i64 (cg + 1)))
            have hbne : ¬ bo = w9.heap.size := by omega
            have oo0 := HQQ.out w12 D12.out i hil
            have oo1 := HQQ.out _ D13.out i hil
            simp only [soI_at] at oo0 oo1
            rw [hK] at oo0 oo1
            have HNO := Lib.hid (so_not (L := fun x => Y (x * 3)) hil HK.out)
            clear b12 hdc hcg hK
            go_wp2_with (go_at_call 39; refine (a2Has_c (some ⟨bo, oo, none⟩) i c6 (fun j => (soI (fun x => Y (x * 3)) k).getD j 0) (K : Int) false _ (by omega) (sl_le (O9.out.below D13.out (Nat.le_refl _)) (by omega)) HNO.out).mono ?_; rintro e wq ⟨rfl, hwq⟩; rw [hwq]; clear hwq)
            obtain ⟨w13, hw13⟩ : ∃ W, W = w12.setCell ⟨w9.heap.size, g, none⟩ (.int .i64 (cg + 1)) := ⟨_, rfl⟩
            rw [← hw13] at O13 D13 ⊢
            clear hw13 oo0 oo1 oc ofz
            obtain ⟨k0, _, _⟩ := HLL.out w13 D13.out K hKk
            by_cases hi0 : i = 0
            · as_aux_lemma =>
              have hdi : decide (0 < i) = false := decide_eq_false (by omega)
              clear hi0
              go_quiet (fail)
              go_wp2
              go_roundw
              case rel => exact ⟨i + 1, by omega, by go_num, O13.out.drewN _, drewN_below D13.out _⟩
              case measure => simp [intOf]; omega
            · obtain ⟨j, hj⟩ : ∃ j, i = j + 1 := ⟨i - 1, by omega⟩
              have hdi : decide (0 < i) = true := decide_eq_true (by omega)
              have hjk : j < k := by omega
              have e1 : (i : Int) - 1 = (j : Int) := by omega
              have hwj : IntKind.i64.wrap (j : Int) = j := IntWalk.i64_in _ (by omega)
              have hj0 : (0 : Int) ≤ (j : Int) := by omega
              have hjl : (j : Int) < (k : Int) := by omega
              obtain ⟨M, hM⟩ : ∃ M : Nat, (so (fun x => Y (x * 3)) k).getD j 0 = M := ⟨_, rfl⟩
              have hMk : M < k := by rw [← hM]; exact so_at hjk
              have hM0 : (0 : Int) ≤ (M : Int) := by omega
              have hMl : (M : Int) < (k : Int) := by omega
              have x1 := HQQ.out w13 D13.out j hjk
              simp only [soI_at] at x1
              rw [hM] at x1
              obtain ⟨y0, _, _⟩ := HLL.out w13 D13.out M hMk
              have hb := bfr_of (so_bfr (L := fun x => Y (x * 3)) (show j < i by omega) hil)
              rw [hM, HK.out] at hb
              clear hj hi0 hM
              rcases hb with hb | ⟨hb, hb2⟩
              · as_aux_lemma =>
                have f1 : decide (Y (M * 3) < Y (K * 3)) = false := decide_eq_false (by omega)
                have f2 : (Y (M * 3) == Y (K * 3)) = false := by simp; omega
                clear hb
                go_quiet (fail)
                go_wp2
                go_roundw
                case rel => exact ⟨i + 1, by omega, by go_num, O13.out.drewN _, drewN_below D13.out _⟩
                case measure => simp [intOf]; omega
              · as_aux_lemma =>
                have f1 : decide (Y (M * 3) < Y (K * 3)) = false := decide_eq_false (by omega)
                have f2 : (Y (M * 3) == Y (K * 3)) = true := by simp; omega
                have f3 : decide (K < M) = false := decide_eq_false (by omega)
                clear hb hb2
                go_quiet (fail)
                go_wp2
                go_roundw
                case rel => exact ⟨i + 1, by omega, by go_num, O13.out.drewN _, drewN_below D13.out _⟩
                case measure => simp [intOf]; omega
    · obtain rfl : i = k := by omega
      have CE := Lib.hid (fun j (hj : j < 3) => (cnts_at (X := Y) (Y := Lim) (m := 2) (n := i) (j := j) (by omega)).symm)
      go_wp2_with (go_at_call 40; refine (a2Same_c (some ⟨w9.heap.size, 0, none⟩) A5 3 3 c5 (fun j => cnt Y Lim 2 j i) (fun j => (cnts Y Lim 2 i).getD j 0) _ (by omega) (own_sl HO.out) (C9.out.below HD.out (Nat.le_refl _)) CE.out).mono ?_; rintro e w10 ⟨rfl, hd10⟩; have b10 : Below wr.heap.size wr w10 := (by obtain ⟨m9, e9⟩ := hd10; rw [e9]; exact drewN_below (Below.refl _ _) _); clear hd10)
      have D10 := Lib.hid (HD.out.trans (b10.mono hzz))
      clear b10
      by_cases h2 : 2 ≤ i
      · as_aux_lemma =>
        obtain ⟨hxy, hyk, hmin⟩ := most_ok (X := Y) h2
        refine (most_i B i d Y _ hkm (S9.out.below D10.out (Nat.le_refl _)) hlist h2).mono ?_
        rintro e w11 ⟨rfl, hb11⟩
        have D11 := Lib.hid (D10.out.trans (hb11.mono D10.out.size))
        have HMIN := Lib.hid hmin
        clear hb11 hmin
        obtain ⟨x, hx⟩ : ∃ x, (most Y i).1 = x := ⟨_, rfl⟩
        obtain ⟨y, hy⟩ : ∃ y, (most Y i).2 = y := ⟨_, rfl⟩
        have HX1 := Lib.hid hx
        have HY1 := Lib.hid hy
        rw [hx] at hxy ⊢
        rw [hy] at hxy hyk ⊢
        clear hx hy
        have x0 : (0 : Int) ≤ (x : Int) := by omega
        have y0 : (0 : Int) ≤ (y : Int) := by omega
        have xl : (x : Int) < (i : Int) := by omega
        have yl : (y : Int) < (i : Int) := by omega
        have hxk : x < i := by omega
        have fx : decide ((x : Int) < 0) = false := decide_eq_false (by omega)
        have fy : decide (y ≤ x) = false := decide_eq_false (by omega)
        have fz : decide (i ≤ y) = false := decide_eq_false (by omega)
        have h2i : ¬ (i : Int) < 2 := by omega
        go_wp2_with fail
        go_loopw [23] (fun s wr => ∃ p : Nat, p ≤ i ∧ s = .int .i64 p ∧ Below w9.heap.size w9 wr) (fun s _ => i - (intOf s).toNat)
        case atStart => exact ⟨0, by omega, rfl, D11.out⟩
        case round =>
          obtain ⟨p, hp, rfl, hd⟩ := hrel
          obtain ⟨wo, rfl⟩ : ∃ wo : World, wo = wr := ⟨_, rfl⟩
          have HE := Lib.hid hd
          clear hd
          by_cases hpl : p < i
          · have hpl' : (p : Int) < (i : Int) := by omega
            have hp0 : (0 : Int) ≤ (p : Int) := by omega
            go_wp2_with fail
            go_loopw [24] (fun s wr => ∃ t : Nat, p < t ∧ t ≤ i ∧ s = .int .i64 t ∧ Below w9.heap.size w9 wr) (fun s _ => i - (intOf s).toNat)
            case atStart => exact ⟨p + 1, by omega, by omega, by go_num, HE.out⟩
            case round =>
              obtain ⟨t, hpt, ht, rfl, hd⟩ := hrel
              obtain ⟨wi, rfl⟩ : ∃ wi : World, wi = wr := ⟨_, rfl⟩
              have HF := Lib.hid hd
              clear hd
              by_cases htl : t < i
              · as_aux_lemma =>
                have htl' : (t : Int) < (i : Int) := by omega
                have ht0 : (0 : Int) ≤ (t : Int) := by omega
                obtain ⟨bl, ol, rfl, hbl, hL⟩ := S9.out (by omega)
                have HLL := Lib.hid (fun (W : World) (hW : Below w9.heap.size w9 W) (j : Nat) (hj : j < i) => rod.ints_at (i := j) (hL.below hW hbl) hj)
                clear hL
                obtain ⟨P0, hP0⟩ : ∃ z, Y (p * 3) = z := ⟨_, rfl⟩
                obtain ⟨P1, hP1⟩ : ∃ z, Y (p * 3 + 1) = z := ⟨_, rfl⟩
                obtain ⟨P2, hP2⟩ : ∃ z, Y (p * 3 + 2) = z := ⟨_, rfl⟩
                have HCP := Lib.hid (fun (W : World) (hW : Below w9.heap.size w9 W) => show W.cell? ⟨bl, ol + p * 3, none⟩ = some (.int .i64 P0) ∧ W.cell? ⟨bl, ol + p * 3 + 1, none⟩ = some (.int .i64 P1) ∧ W.cell? ⟨bl, ol + p * 3 + 2, none⟩ = some (.int .i64 P2) from by have := HLL.out W hW p hpl; rw [hP0, hP1, hP2] at this; exact this)
                have hrP : rodB P0 P1 P2 = true := by rw [← hP0, ← hP1, ← hP2]; exact allB_at hall hpl
                obtain ⟨T0, hT0⟩ : ∃ z, Y (t * 3) = z := ⟨_, rfl⟩
                obtain ⟨T1, hT1⟩ : ∃ z, Y (t * 3 + 1) = z := ⟨_, rfl⟩
                obtain ⟨T2, hT2⟩ : ∃ z, Y (t * 3 + 2) = z := ⟨_, rfl⟩
                have HCT := Lib.hid (fun (W : World) (hW : Below w9.heap.size w9 W) => show W.cell? ⟨bl, ol + t * 3, none⟩ = some (.int .i64 T0) ∧ W.cell? ⟨bl, ol + t * 3 + 1, none⟩ = some (.int .i64 T1) ∧ W.cell? ⟨bl, ol + t * 3 + 2, none⟩ = some (.int .i64 T2) from by have := HLL.out W hW t htl; rw [hT0, hT1, hT2] at this; exact this)
                have hrT : rodB T0 T1 T2 = true := by rw [← hT0, ← hT1, ← hT2]; exact allB_at hall htl
                obtain ⟨X0, hX0⟩ : ∃ z, Y (x * 3) = z := ⟨_, rfl⟩
                obtain ⟨X1, hX1⟩ : ∃ z, Y (x * 3 + 1) = z := ⟨_, rfl⟩
                obtain ⟨X2, hX2⟩ : ∃ z, Y (x * 3 + 2) = z := ⟨_, rfl⟩
                have HCX := Lib.hid (fun (W : World) (hW : Below w9.heap.size w9 W) => show W.cell? ⟨bl, ol + x * 3, none⟩ = some (.int .i64 X0) ∧ W.cell? ⟨bl, ol + x * 3 + 1, none⟩ = some (.int .i64 X1) ∧ W.cell? ⟨bl, ol + x * 3 + 2, none⟩ = some (.int .i64 X2) from by have := HLL.out W hW x hxk; rw [hX0, hX1, hX2] at this; exact this)
                have hrX : rodB X0 X1 X2 = true := by rw [← hX0, ← hX1, ← hX2]; exact allB_at hall hxk
                obtain ⟨Z0, hZ0⟩ : ∃ z, Y (y * 3) = z := ⟨_, rfl⟩
                obtain ⟨Z1, hZ1⟩ : ∃ z, Y (y * 3 + 1) = z := ⟨_, rfl⟩
                obtain ⟨Z2, hZ2⟩ : ∃ z, Y (y * 3 + 2) = z := ⟨_, rfl⟩
                have HCZ := Lib.hid (fun (W : World) (hW : Below w9.heap.size w9 W) => show W.cell? ⟨bl, ol + y * 3, none⟩ = some (.int .i64 Z0) ∧ W.cell? ⟨bl, ol + y * 3 + 1, none⟩ = some (.int .i64 Z1) ∧ W.cell? ⟨bl, ol + y * 3 + 2, none⟩ = some (.int .i64 Z2) from by have := HLL.out W hW y hyk; rw [hZ0, hZ1, hZ2] at this; exact this)
                have hrZ : rodB Z0 Z1 Z2 = true := by rw [← hZ0, ← hZ1, ← hZ2]; exact allB_at hall hyk
                obtain ⟨p0, p1, p2⟩ := HCP.out wi HF.out
                obtain ⟨q0, q1, q2⟩ := HCT.out wi HF.out
                obtain ⟨r0, r1, r2⟩ := HCX.out wi HF.out
                obtain ⟨s0, s1, s2⟩ := HCZ.out wi HF.out
                have hm := HMIN.out p t hpt htl
                rw [HX1.out, HY1.out] at hm
                unfold ap at hm
                rw [hP0, hP1, hP2, hT0, hT1, hT2, hX0, hX1, hX2, hZ0, hZ1, hZ2] at hm
                obtain ⟨P, hP⟩ : ∃ P, ap3 P0 P1 P2 T0 T1 T2 = P := ⟨_, rfl⟩
                obtain ⟨Q, hQ⟩ : ∃ Q, ap3 X0 X1 X2 Z0 Z1 Z2 = Q := ⟨_, rfl⟩
                rw [hP, hQ] at hm
                have HP := Lib.hid hP
                have HQ := Lib.hid hQ
                have hm2 : decide (P < Q) = false := decide_eq_false (by omega)
                have RP := Lib.hid hrP
                have RT := Lib.hid hrT
                have RX := Lib.hid hrX
                have RZ := Lib.hid hrZ
                clear hP hQ hm hrP hrT hrX hrZ hP0 hP1 hP2 hT0 hT1 hT2 hX0 hX1 hX2 hZ0 hZ1 hZ2
                go_wp2_with fail
                go_region_held3 (fun q => ((q.cell? ⟨bl, ol + p * 3, none⟩ = some (.int .i64 P0) ∧ q.cell? ⟨bl, ol + p * 3 + 1, none⟩ = some (.int .i64 P1) ∧ q.cell? ⟨bl, ol + p * 3 + 2, none⟩ = some (.int .i64 P2)) ∧ (q.cell? ⟨bl, ol + t * 3, none⟩ = some (.int .i64 T0) ∧ q.cell? ⟨bl, ol + t * 3 + 1, none⟩ = some (.int .i64 T1) ∧ q.cell? ⟨bl, ol + t * 3 + 2, none⟩ = some (.int .i64 T2))) ∧ ((q.cell? ⟨bl, ol + x * 3, none⟩ = some (.int .i64 X0) ∧ q.cell? ⟨bl, ol + x * 3 + 1, none⟩ = some (.int .i64 X1) ∧ q.cell? ⟨bl, ol + x * 3 + 2, none⟩ = some (.int .i64 X2)) ∧ (q.cell? ⟨bl, ol + y * 3, none⟩ = some (.int .i64 Z0) ∧ q.cell? ⟨bl, ol + y * 3 + 1, none⟩ = some (.int .i64 Z1) ∧ q.cell? ⟨bl, ol + y * 3 + 2, none⟩ = some (.int .i64 Z2)))) (first | exact ⟨⟨⟨p0, p1, p2⟩, q0, q1, q2⟩, ⟨r0, r1, r2⟩, s0, s1, s2⟩ | go_keep)
                  (first
                    | (go_at_call 41; refine (a2Apart_c _ _ _ _ _ _ _ (by first | exact RP.out | exact RX.out) (by first | exact RT.out | exact RZ.out)).mono ?_; rintro e w14 ⟨rfl, hb14⟩
                       have g15 : Below w9.heap.size w9 w14 := by first | exact Below.trans g14 (hb14.mono g14.size) | exact Below.trans HF.out.drew (hb14.mono HF.out.drew.size) | exact Below.trans HF.out (hb14.mono HF.out.size)
                       clear p0 p1 p2 q0 q1 q2 r0 r1 r2 s0 s1 s2
                       obtain ⟨p0, p1, p2⟩ := HCP.out w14 g15
                       obtain ⟨q0, q1, q2⟩ := HCT.out w14 g15
                       obtain ⟨r0, r1, r2⟩ := HCX.out w14 g15
                       obtain ⟨s0, s1, s2⟩ := HCZ.out w14 g15
                       first | rw [HP.out] | rw [HQ.out]
                       try clear g14
                       have g14 := g15
                       clear hb14 g15))
                all_goals
                  have G14 := Lib.hid g14
                  clear p0 p1 p2 q0 q1 q2 r0 r1 r2 s0 s1 s2 g14
                  go_wp2
                  go_roundw
                  case rel => exact ⟨t + 1, by omega, by omega, by go_num, G14.out⟩
                  case measure => simp [intOf]; omega
              · obtain rfl : t = i := by omega
                go_wp2
                go_roundw
                case rel => exact ⟨p + 1, by omega, by go_num, HF.out⟩
                case measure => simp [intOf]; omega
          · obtain rfl : p = i := by omega
            have BE := Lib.hid (B9.out.trans (HE.out.mono B9.out.size))
            go_wp2
            go_ret
            exact ⟨rfl, BE.out⟩
      · as_aux_lemma =>
        have h2i : (i : Int) < 2 := by omega
        refine (most_few B i d Y _ hkm (S9.out.below D10.out (Nat.le_refl _)) hlist (by omega)).mono ?_
        rintro e w11 ⟨rfl, hb11⟩
        have BE := Lib.hid (B9.out.trans ((D10.out.trans (hb11.mono D10.out.size)).mono B9.out.size))
        clear hb11
        go_wp2
        go_ret
        exact ⟨rfl, BE.out⟩
end Go.Proofs.Ytcpaenmhnoagdab.src
