/-
  The model's FitCart.
-/
import Derived.Test.YtlepgkmpbhlajaaDoorCartF
namespace Go.Proofs.YtlepgkmpbhlajaaDoor.rod
open Go.ChangeShapes Go.WideShapes Go.ChangeAt Go.RowKit Go.Proofs.YtlepgkmpbhlajaaDoor.mem Go.Proofs.YtlepgkmpbhlajaaDoor.nums
set_option linter.unusedVariables false

set_option maxHeartbeats 8000000 in
set_option maxRecDepth 100000 in
theorem cart_s (A : Option Addr) (n c : Nat) (X : Nat → Int) (h : Int) (w : World) (hr : Sl w A n 3 X) (hv : listU n X = true) (h1 : inB h 0 1000000 = true) (h10 : n ≤ 10) :
    Calls Tryd.prog 14 #[.slice A n c, .int .i64 h] w fun e w' => ∃ A' c', e = .returned (.tuple #[.slice A' (idxs (bstC X n h (2 ^ n)).1.testBit n).length c', .int .i64 (bstC X n h (2 ^ n)).2, .int .i64 0]) ∧ (idxs (bstC X n h (2 ^ n)).1.testBit n).length ≤ c' ∧ c' ≤ maxLen ∧ Row w' w.heap.size w'.heap.size A' (idxs (bstC X n h (2 ^ n)).1.testBit n).length 1 2 (fun j => (idxs (bstC X n h (2 ^ n)).1.testBit n).getD j 0) ∧ Below w.heap.size w w' := by
  obtain ⟨n30, hall⟩ := listU_of hv
  have hn : n ≤ maxLen := by unfold maxLen; omega
  have HV := Lib.hid hv
  have HAL := Lib.hid hall
  have HR := Lib.hid hr
  have h10' : ¬ (10 : Int) < (n : Int) := by omega
  obtain ⟨bh1, bh2⟩ := inB_of h1
  obtain ⟨q, hq⟩ : ∃ q : Nat, 2 ^ n = q := ⟨_, rfl⟩
  have hq1024 : q ≤ 1024 := by rw [← hq]; exact Nat.pow_le_pow_right (n := 2) (i := n) (j := 10) (by decide) h10
  have hw : wrap64 (2 ^ n) = (q : Int) := by
    have : (2 : Int) ^ n = (q : Int) := by rw [← hq]; simp
    rw [this]
    exact IntWalk.wrap64_in _ ⟨by omega, by omega⟩
  have HQ := Lib.hid hq
  have hn63 : (n : Int) < 64 := by omega
  have hp0 : (0 : Int) ≤ n := by omega
  have hz0 : ∀ m, idxs (0 : Nat).testBit m = [] := fun m => by
    induction m with
    | zero => rfl
    | succ m ih => rw [idxs_no (by simp), ih]
  have HZ := Lib.hid (hz0 n)
  rw [hq]
  clear hr hv hall hq hz0
  go_enter Tryd.func14, Tryd.ntmps14
  go_wp2_with (first | (go_at_call 47; refine (okU_s A n c X _ hn HR.out).mono ?_; rintro e w1 ⟨rfl, m1, rfl⟩; rw [HV.out]) | (go_at_call 38; refine (in_s _ _ _ _).mono ?_; rintro e w' ⟨rfl, rfl⟩))
  go_loopw [9, 8, 7] (fun s u v wr => ∃ (b : Nat) (A3 : Option Addr) (L c3 : Nat), b ≤ q ∧ s = .int .i64 b ∧ u = .int .i64 (bstC X n h b).2 ∧ v = .slice A3 L c3 ∧ Hid (L = (idxs (bstC X n h b).1.testBit n).length) ∧ L ≤ c3 ∧ c3 ≤ maxLen ∧ Hid (Row wr w.heap.size wr.heap.size A3 L 1 2 (fun j => (idxs (bstC X n h b).1.testBit n).getD j 0)) ∧ Below w.heap.size w wr) (fun s _ _ _ => q - (intOf s).toNat)
  case atStart => exact ⟨0, some ⟨w.heap.size, 0, none⟩, 0, 0, Nat.zero_le _, rfl, rfl, rfl, (by show (0 : Nat) = (idxs (0 : Nat).testBit n).length; rw [HZ.out]; rfl), Nat.le_refl _, by unfold maxLen; omega, Row.none_, by go_grown; exact drewN_below (Below.refl _ _) _⟩
  case round =>
    obtain ⟨b, A3, L, c3, hb, rfl, rfl, rfl, HL, k3, m3, HRow, hbl⟩ := hrel
    have hzz := hbl.size
    have HBL := Lib.hid hbl
    clear hbl
    have hbd := bstC_bd (h := h) HAL.out b
    have hlt2 := bstC_lt (X := X) (h := h) (n := n) b (by rw [HQ.out]; exact hb)
    by_cases hlt : b < q
    · have hlt' : (b : Int) < (q : Int) := by omega
      have hbn : b < 2 ^ n := by rw [HQ.out]; exact hlt
      rename World => wo
      go_wp2_with fail
      go_loopw [11, 10] (fun s t wr => ∃ k : Nat, k ≤ n ∧ s = .int .i64 k ∧ t = .int .i64 (sb X b k) ∧ Hid (Row wr w.heap.size wr.heap.size A3 L 1 2 (fun j => (idxs (bstC X n h b).1.testBit n).getD j 0)) ∧ w.heap.size ≤ wr.heap.size ∧ Below w.heap.size w wr) (fun s _ _ => n - (intOf s).toNat)
      case atStart => exact ⟨0, by omega, rfl, rfl, HRow.out, hzz, HBL.out⟩
      case round =>
        obtain ⟨k, hk, rfl, rfl, HRW2, zz2, hb2⟩ := hrel
        have HB2 := Lib.hid hb2
        clear hb2
        have hsb := sb_bd (B := b) HAL.out k hk
        by_cases hkn : k < n
        · have hkn' : (k : Int) < (n : Int) := by omega
          have hk64 : (k : Int) < 64 := by omega
          have hk0 : (0 : Int) ≤ (k : Int) := by omega
          have hbt := i64_bit b k (by omega)
          obtain ⟨b1, o1, rfl, hb1, hX⟩ := HR.out (by omega)
          have x2 := hX.below HB2.out hb1 (k * 3 + 2) (by omega)
          simp only [← Nat.add_assoc] at x2
          have hwb := allU_bd HAL.out hkn
          clear hX
          cases hp : b.testBit k
          · have HN := Lib.hid (sb_no (X := X) hp)
            rw [hp] at hbt
            generalize sb X b k = S at *
            go_wp2_with fail
            go_roundw
            case rel => exact ⟨k + 1, by omega, by go_num, by rw [HN.out], HRW2.out, zz2, HB2.out⟩
            case measure => simp [intOf]; omega
          · have HN := Lib.hid (sb_yes (X := X) hp)
            rw [hp] at hbt
            generalize sb X b k = S at *
            generalize X (k * 3 + 2) = xw at *
            have hws : IntKind.i64.wrap (S + xw) = S + xw := IntWalk.i64_in _ (by omega)
            go_wp2_with fail
            go_roundw
            case rel => exact ⟨k + 1, by omega, by go_num, by rw [HN.out], HRW2.out, zz2, HB2.out⟩
            case measure => simp [intOf]; omega
        · obtain rfl : k = n := by omega
          have HLE := Lib.hid (fun (A1 A2 : Option Addr) (c1 c2 L1 L2 : Nat) (W : World) (e1 : (idxs b.testBit k).length = L1) (e2 : (idxs (bstC X k h b).1.testBit k).length = L2) (q1 : Sl W A1 L1 1 _) (q2 : Sl W A2 L2 1 _) => less_s A1 A2 k b (bstC X k h b).1 L1 L2 c1 c2 W e1 e2 (by omega) q1 q2)
          cases hc : btC X k h b (bstC X k h b)
          · have HE := Lib.hid (bstC_old hc)
            unfold btC at hc
            by_cases hle : h < sb X b k ∨ sb X b k < (bstC X k h b).2
            · -- too heavy, or too light
              generalize hS : sb X b k = S at *
              generalize hB2 : (bstC X k h b).2 = M at *
              have HS := Lib.hid hS
              have HM := Lib.hid hB2
              clear hS hB2 hc
              clear hbn hlt2 hbd hsb hw hkn hk hp0
              have hkk : ¬ (k : Int) < (k : Int) := by omega
              have dkk : decide ((k : Int) < (k : Int)) = false := decide_eq_false hkk
              by_cases h5 : h < S
              · have d5 : decide (h < S) = true := decide_eq_true h5
                go_wp2_with fail
                go_roundw
                case rel => exact ⟨b + 1, A3, L, c3, by omega, by go_num, by rw [HE.out, HM.out], rfl, by rw [HE.out]; exact HL.out, k3, m3, by rw [HE.out]; exact HRW2.out, HB2.out⟩
                case measure => simp [intOf]; omega
              · have d5 : decide (h < S) = false := decide_eq_false h5
                have h6 : S < M := by omega
                have d6 : decide (S < M) = true := decide_eq_true h6
                go_wp2_with fail
                go_roundw
                case rel => exact ⟨b + 1, A3, L, c3, by omega, by go_num, by rw [HE.out, HM.out], rfl, by rw [HE.out]; exact HL.out, k3, m3, by rw [HE.out]; exact HRW2.out, HB2.out⟩
                case measure => simp [intOf]; omega
            · have h5 : ¬ h < sb X b k := by omega
              have h6 : ¬ sb X b k < (bstC X k h b).2 := by omega
              rw [show decide (sb X b k ≤ h) = true from decide_eq_true (by omega), Bool.true_and] at hc
              have heq : sb X b k = (bstC X k h b).2 := by
                by_cases e : sb X b k = (bstC X k h b).2
                · exact e
                · rw [if_neg e] at hc
                  simp only [decide_eq_false_iff_not] at hc
                  omega
              rw [if_pos heq] at hc
              rw [hc] at HLE
              rw [← heq]
              have HEQ := Lib.hid heq
              generalize hS : sb X b k = S at *
              have HS := Lib.hid hS
              have d5 : decide (h < S) = false := decide_eq_false h5
              have d7 : decide (S < S) = false := decide_eq_false (by omega)
              have h7 : ¬ S < S := by omega
              clear hc heq hS h6
              clear hbn hlt2 hbd hsb hw hkn hk hp0
              have hkk : ¬ (k : Int) < (k : Int) := by omega
              have dkk : decide ((k : Int) < (k : Int)) = false := decide_eq_false hkk
              go_wp2_with fail
              refine (list_s b k _ (by omega) (by omega)).mono ?_
              rintro e w3 ⟨A4, c4, rfl, k4, m4, hr4, hb4⟩
              have g4 : Below w.heap.size w w3 := HB2.out.trans (hb4.mono zz2)
              have HG4 := Lib.hid g4
              have hz4 := hb4.size
              have hz44 := g4.size
              have HR4 := Lib.hid (hr4.wide (lo' := w.heap.size) zz2 (Nat.le_refl _))
              have HR3 := Lib.hid (HRW2.out.below hb4 (Nat.le_refl _))
              clear hr4 hb4 g4
              generalize hL4 : (idxs b.testBit k).length = L4 at *
              have HL4 := Lib.hid hL4
              clear hL4
              go_wp2_with (go_at_call 54; refine (HLE.out A4 A3 c4 c3 L4 L w3 (by first | rfl | exact HL4.out) HL.out.symm HR4.out.sl HR3.out.sl).mono ?_; rintro e w4 ⟨rfl, m4', rfl⟩)
              go_roundw
              case rel => exact ⟨b + 1, A3, L, c3, by omega, by go_num, by rw [HE.out, ← HEQ.out], rfl, by rw [HE.out]; exact HL.out, k3, m3, by rw [HE.out]; exact HR3.out.wide (Nat.le_refl _) (by simp; omega), drewN_below HG4.out _⟩
              case measure => simp [intOf]; omega
          · have HE := Lib.hid (bstC_new hc)
            unfold btC at hc
            simp only [Bool.and_eq_true, decide_eq_true_eq] at hc
            obtain ⟨hle, hc⟩ := hc
            have h5 : ¬ h < sb X b k := by omega
            by_cases heq : sb X b k = (bstC X k h b).2
            · rw [if_pos heq] at hc
              rw [hc] at HLE
              rw [← heq]
              generalize hS : sb X b k = S at *
              have HS := Lib.hid hS
              have d5 : decide (h < S) = false := decide_eq_false h5
              have d7 : decide (S < S) = false := decide_eq_false (by omega)
              have h7 : ¬ S < S := by omega
              clear hc heq hS hle
              clear hbn hlt2 hbd hsb hw hkn hk hp0
              have hkk : ¬ (k : Int) < (k : Int) := by omega
              have dkk : decide ((k : Int) < (k : Int)) = false := decide_eq_false hkk
              go_wp2_with fail
              refine (list_s b k _ (by omega) (by omega)).mono ?_
              rintro e w3 ⟨A4, c4, rfl, k4, m4, hr4, hb4⟩
              have g4 : Below w.heap.size w w3 := HB2.out.trans (hb4.mono zz2)
              have HG4 := Lib.hid g4
              have hz4 := hb4.size
              have hz44 := g4.size
              have HR4 := Lib.hid (hr4.wide (lo' := w.heap.size) zz2 (Nat.le_refl _))
              have HR3 := Lib.hid (HRW2.out.below hb4 (Nat.le_refl _))
              clear hr4 hb4 g4
              generalize hL4 : (idxs b.testBit k).length = L4 at *
              have HL4 := Lib.hid hL4
              clear hL4
              go_wp2_with (go_at_call 54; refine (HLE.out A4 A3 c4 c3 L4 L w3 (by first | rfl | exact HL4.out) HL.out.symm HR4.out.sl HR3.out.sl).mono ?_; rintro e w4 ⟨rfl, m4', rfl⟩)
              go_roundw
              case rel => exact ⟨b + 1, A4, L4, c4, by omega, by go_num, by first | (rw [HE.out]; done) | (rw [HE.out]; show _ = Value.int .i64 (sb X b k); rw [HS.out]), rfl, by rw [HE.out]; exact HL4.out.symm, k4, m4, by rw [HE.out]; exact HR4.out.wide (Nat.le_refl _) (by simp), drewN_below HG4.out _⟩
              case measure => simp [intOf]; omega
            · rw [if_neg heq] at hc
              have h8 : (bstC X k h b).2 < sb X b k := of_decide_eq_true hc
              have h6 : ¬ sb X b k < (bstC X k h b).2 := by omega
              generalize hS : sb X b k = S at *
              generalize hB2 : (bstC X k h b).2 = M at *
              have HS := Lib.hid hS
              have d5 : decide (h < S) = false := decide_eq_false h5
              have d6 : decide (S < M) = false := decide_eq_false h6
              have d8 : decide (M < S) = true := decide_eq_true h8
              clear hc heq hS hle hB2
              clear hbn hlt2 hbd hsb hw hkn hk hp0
              have hkk : ¬ (k : Int) < (k : Int) := by omega
              have dkk : decide ((k : Int) < (k : Int)) = false := decide_eq_false hkk
              go_wp2_with fail
              refine (list_s b k _ (by omega) (by omega)).mono ?_
              rintro e w3 ⟨A4, c4, rfl, k4, m4, hr4, hb4⟩
              have g4 : Below w.heap.size w w3 := HB2.out.trans (hb4.mono zz2)
              have HG4 := Lib.hid g4
              have hz4 := hb4.size
              have hz44 := g4.size
              have HR4 := Lib.hid (hr4.wide (lo' := w.heap.size) zz2 (Nat.le_refl _))
              have HR3 := Lib.hid (HRW2.out.below hb4 (Nat.le_refl _))
              clear hr4 hb4 g4
              generalize hL4 : (idxs b.testBit k).length = L4 at *
              have HL4 := Lib.hid hL4
              clear hL4
              go_wp2_with fail
              go_roundw
              case rel => exact ⟨b + 1, A4, L4, c4, by omega, by go_num, by first | (rw [HE.out]; done) | (rw [HE.out]; show _ = Value.int .i64 (sb X b k); rw [HS.out]), rfl, by rw [HE.out]; exact HL4.out.symm, k4, m4, by rw [HE.out]; exact HR4.out, HG4.out⟩
              case measure => simp [intOf]; omega
    · obtain rfl : b = q := by omega
      have HLL := HL.out
      go_wp2_with fail
      go_ret3
      exact ⟨A3, c3, by first | (rw [← HLL]; done) | (rw [← HLL]; rfl), by rw [← HLL]; exact k3, m3, by rw [← HLL]; exact HRow.out, HBL.out⟩

end Go.Proofs.YtlepgkmpbhlajaaDoor.rod
