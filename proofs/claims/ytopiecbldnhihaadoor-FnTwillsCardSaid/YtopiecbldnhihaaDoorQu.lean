/-
  The longest floats of a twill; FloatsOf and IsPlain, of the program. No condition of a statement lies here.
-/
import Derived.Test.YtopiecbldnhihaaDoorQs
import Derived.Test.YtopiecbldnhihaaDoorQc
namespace Go.Proofs.YtopiecbldnhihaaDoor.twl
open Go.ChangeShapes Go.WideShapes Go.ChangeAt Go.RowKit Go.Deep Go.Proofs.YtopiecbldnhihaaDoor.mem Go.Proofs.YtopiecbldnhihaaDoor.rod Go.Proofs.YtopiecbldnhihaaDoor.nums Go.Proofs.YtopiecbldnhihaaDoor.shp Go.Proofs.YtopiecbldnhihaaDoor.wv Go.Proofs.YtopiecbldnhihaaDoor.wk
set_option linter.unusedVariables false
set_option maxRecDepth 100000

set_option maxHeartbeats 8000000 in
theorem floats_i (A : Option Addr) (n c : Nat) (X : Nat → Int) (t : Nat) (w : World) (T : Tw n X (t : Int)) (hr : Sl w A n 1 X) :
    Calls Tryd.prog 46 #[.agg #[.slice A n c, .int .i64 (t : Int)]] w fun e w' => e = .returned (.tuple #[.int .i64 (lrun (byteAt (rowB X n)) (rowB X n).size : Nat), .int .i64 (alongN (rowB X n) t : Nat)]) ∧ Below w.heap.size w w' := by
  have hz := row_size T
  have h12 := T.n12
  have hw := T.wide
  have t1 := T.st1
  have t2 := T.st2
  have HR := Lib.hid hr
  have HW := Lib.hid (fun W (hw : Below w.heap.size w W) => width_i A n c X (t : Int) W h12 T.part (HR.out.below hw (Nat.le_refl _)))
  have HO := Lib.hid (fun W (hw : Below w.heap.size w W) => row_i A n c X (t : Int) W h12 T.part (HR.out.below hw (Nat.le_refl _)))
  rw [← hz] at HW hw t2
  have h0 : 0 < (rowB X n).size := by omega
  have h12s : (rowB X n).size ≤ 12 := by omega
  have hR0 := rnd_pos t h0
  have hR1 := rnd_le (rowB X n).size t
  have HM := Lib.hid (fun W => moves_i ((rowB X n).size : Int) (t : Int) (by omega) (by omega) (by omega) (by omega) W)
  rw [rnd_gcd (by omega)] at HM
  have HN := Lib.hid (fun W (hw : Below w.heap.size w W) => face9_i A n c X t (rowB X n).size (rnd (rowB X n).size t) W T (HR.out.below hw (Nat.le_refl _)) (by omega) (by omega) (by omega) (by omega))
  have HLR := Lib.hid (fun W => longest_i (rowB X n) W (by omega) (fun i hi => ascii_row i hi))
  have HLL := Lib.hid (fun k W => longest_i (lineB (rowB X n) t k) W (by rw [lineB_size]; omega) (fun i hi => ascii_line h0 i hi))
  have HAL := Lib.hid (fun (g b cap k : Nat) W (hk : k < (rowB X n).size) hF => along_i g b cap (rnd (rowB X n).size t) (rowB X n).size w.heap.size k (fun r k => byteU (rowB X n) (plc (rowB X n).size t k r)) W (by omega) hk hF)
  have HLB : Hid (∀ k, mkB (fun r => byteU (rowB X n) (plc (rowB X n).size t k r)) (rnd (rowB X n).size t) = lineB (rowB X n) t k) := fun _ => rfl
  generalize rowB X n = s at *
  have HL12 := Lib.hid (fun k => show lrun (byteAt (lineB s t k)) (lineB s t k).size ≤ 12 by have := lrun_le (byteAt (lineB s t k)) (lineB s t k).size; rw [lineB_size] at this ⊢; omega)
  obtain ⟨L, hL⟩ : ∃ L : Nat → Nat, L = fun k => lrun (byteAt (lineB s t k)) (lineB s t k).size := ⟨_, rfl⟩
  have HLE : Hid (∀ k, lrun (byteAt (lineB s t k)) (lineB s t k).size = L k) := by intro k; rw [hL]
  have HAE : Hid (alongN s t = hiTo L s.size) := by rw [Hid, hL]; rfl
  rw [HAE.out]
  clear hr hz hL HAE
  have HRD := Lib.hid hR1
  generalize rnd s.size t = R at *
  generalize lrun (byteAt s) s.size = lw at *
  go_enter Tryd.func46, Tryd.ntmps46
  go_wp2_with fail
  have B0 : Below w.heap.size w (w.alloc (Obj.cells #[Value.slice A n c, .int .i64 (t : Int)] 26)) := by go_grown
  have K0 : TwBlk (w.alloc (Obj.cells #[Value.slice A n c, .int .i64 (t : Int)] 26)) w.heap.size (.slice A n c) (t : Int) := Go.Deep.blk_alloc_new _ _
  generalize hw1 : w.alloc (Obj.cells #[Value.slice A n c, .int .i64 (t : Int)] 26) = w1 at *
  clear hw1
  have p0 := K0.cell0
  have p1 := K0.cell1
  have HB := Lib.hid B0
  have HK := Lib.hid K0
  have z0 := K0.lt
  clear B0 K0
  go_region_held3 (fun x => x.cell? ⟨w.heap.size, 0, none⟩ = some (.slice A n c) ∧ x.cell? ⟨w.heap.size, 1, none⟩ = some (.int .i64 (t : Int))) (first | exact ⟨p0, p1⟩ | go_keep)
    (first
      | (go_at_call 42; refine (HW.out _ (by first | exact HB.out | exact HB.out.drew)).mono ?_; rintro e w2 ⟨rfl, hb⟩
         have HK := Lib.hid (TwBlk.of_block (w' := w2) HK.out (hb.block _ (by first | omega | (simp; omega))))
         have HB := Lib.hid (show Below w.heap.size w w2 by first | exact HB.out.trans (hb.mono (by omega)) | exact HB.out.drew.trans (hb.mono (by simp; omega)))
         have z0 := HK.out.lt
         have p0 := HK.out.cell0
         have p1 := HK.out.cell1
         clear hb)
      | (go_at_call 37; refine (HM.out _).mono ?_; rintro e w2 ⟨rfl, hb⟩
         have HK := Lib.hid (TwBlk.of_block (w' := w2) HK.out (hb.block _ (by first | omega | (simp; omega))))
         have HB := Lib.hid (show Below w.heap.size w w2 by first | exact HB.out.trans (hb.mono (by omega)) | exact HB.out.drew.trans (hb.mono (by simp; omega)))
         have z0 := HK.out.lt
         have p0 := HK.out.cell0
         have p1 := HK.out.cell1
         clear hb)
      | (go_at_call 30; refine (HN.out _ (by first | exact HB.out | exact HB.out.drew)).mono ?_; rintro e w2 ⟨g, b, cap, rfl, hc1, hc2, hF, hb⟩
         have HF := Lib.hid (FaceAt.lower hF (by omega) : FaceAt w2 w.heap.size g b R s.size _)
         have HK := Lib.hid (TwBlk.of_block (w' := w2) HK.out (hb.block _ (by first | omega | (simp; omega))))
         have HB := Lib.hid (show Below w.heap.size w w2 by first | exact HB.out.trans (hb.mono (by omega)) | exact HB.out.drew.trans (hb.mono (by simp; omega)))
         have z0 := HK.out.lt
         have p0 := HK.out.cell0
         have p1 := HK.out.cell1
         clear hb hF))
  go_wp2_with (go_at_call 42; refine (HW.out _ HB.out).mono ?_; rintro e w3 ⟨rfl, hb⟩)
  have HF3 := Lib.hid (HF.out.below hb (Nat.le_refl _))
  have HK3 := Lib.hid (TwBlk.of_block (w' := w3) HK.out (hb.block _ (by omega)))
  have HB3 := Lib.hid (show Below w.heap.size w w3 from HB.out.trans (hb.mono (by omega)))
  clear hb HF HK HB p0 p1 z0
  go_loopw [18, 5] (fun i h wr => ∃ k : Nat, k ≤ s.size ∧ i = .int .i64 (k : Int) ∧ h = .int .i64 (hiTo L k : Nat) ∧ Hid (FaceAt wr w.heap.size g b R s.size (fun r k => byteU s (plc s.size t k r))) ∧ Hid (TwBlk wr w.heap.size (.slice A n c) (t : Int)) ∧ Hid (Below w.heap.size w wr)) (fun i _ _ => s.size - (intOf i).toNat)
  case atStart => exact ⟨0, by omega, rfl, rfl, HF3, HK3, HB3⟩
  case round =>
    clear HF3 HK3 HB3
    obtain ⟨k, hk, rfl, rfl, HF, HK, HB⟩ := hrel
    have zr := HK.out.lt
    by_cases hlt : k < s.size
    · have hlt' : (k : Int) < (s.size : Int) := by omega
      have hk0 : (0 : Int) ≤ (k : Int) := by omega
      have HA := Lib.hid (HAL.out g b cap k wr hlt HF.out)
      rw [HLB.out] at HA
      have HL1 := Lib.hid (fun W => HLL.out k W)
      rw [HLE.out] at HL1
      have HS := Lib.hid (show hiTo L (k + 1) = max (hiTo L k) (L k) from rfl)
      generalize lineB s t k = line at *
      generalize L k = l0 at *
      generalize hiTo L k = h0' at *
      go_wp2_with (first
        | (go_at_call 65; refine HA.out.mono ?_; rintro e w4 ⟨rfl, b4⟩)
        | (go_at_call 64; refine (HL1.out _).mono ?_; rintro e w5 ⟨rfl, b5⟩))
      have b6 : Below wr.heap.size wr w5 := b4.trans (b5.mono b4.size)
      have HF5 := Lib.hid (HF.out.below b6 (Nat.le_refl _))
      have HK5 := Lib.hid (TwBlk.of_block (w' := w5) HK.out (b6.block _ (by omega)))
      have HB5 := Lib.hid (show Below w.heap.size w w5 from HB.out.trans (b6.mono (by have := HB.out.size; omega)))
      clear b4 b5 b6
      go_roundw
      case rel => exact ⟨k + 1, by omega, by go_num, by rw [HS.out]; go_num, HF5, HK5, HB5⟩
      case measure => simp [intOf]; omega
    · obtain rfl : k = s.size := by omega
      have p0 := HK.out.cell0
      have p1 := HK.out.cell1
      go_wp2_with (first
        | (go_at_call 36; refine (HO.out _ HB.out).mono ?_; rintro e w4 ⟨rfl, b4⟩)
        | (go_at_call 64; refine (HLR.out _).mono ?_; rintro e w5 ⟨rfl, b5⟩))
      go_returns
      exact ⟨rfl, HB.out.trans ((b4.trans (b5.mono b4.size)).mono (by have := HB.out.size; omega))⟩

/-! ### FloatsOf and IsPlain -/
set_option maxHeartbeats 1000000 in
theorem floatsOf_i_no (A : Option Addr) (n c : Nat) (X : Nat → Int) (st : Int) (w : World) (hn : n ≤ maxLen) (hr : Sl w A n 1 X) (hv : twB n X st = false) :
    Calls Tryd.prog 13 #[.agg #[.slice A n c, .int .i64 st]] w fun e w' => e = .returned (.tuple #[.int .i64 0, .int .i64 0, .int .i64 1]) ∧ Below w.heap.size w w' := by
  have HR := Lib.hid hr
  clear hr
  go_enter Tryd.func13, Tryd.ntmps13
  go_wp2_with (go_at_call 19; refine (twval_i A n c X st _ hn (HR.out.below (K := w.heap.size) (by go_grown) (Nat.le_refl _))).mono ?_; rintro e w' ⟨rfl, hb⟩; have g1 : Below w.heap.size w w' := Below.trans (by go_grown) (hb.mono (by simp)); clear hb)
  go_returns
  exact ⟨rfl, g1⟩
set_option maxHeartbeats 1000000 in
theorem floatsOf_i (A : Option Addr) (n c : Nat) (X : Nat → Int) (t : Nat) (w : World) (hr : Sl w A n 1 X) (hv : twB n X (t : Int) = true) :
    Calls Tryd.prog 13 #[.agg #[.slice A n c, .int .i64 (t : Int)]] w fun e w' => e = .returned (.tuple #[.int .i64 (lrun (byteAt (rowB X n)) (rowB X n).size : Nat), .int .i64 (alongN (rowB X n) t : Nat), .int .i64 0]) ∧ Below w.heap.size w w' := by
  have T := twB_of hv
  have h12 := T.n12
  have hn : n ≤ maxLen := by unfold maxLen; omega
  have HR := Lib.hid hr
  have HFl := Lib.hid (fun W (hw : Below w.heap.size w W) => floats_i A n c X t W T (HR.out.below hw (Nat.le_refl _)))
  generalize lrun (byteAt (rowB X n)) (rowB X n).size = l1 at *
  generalize alongN (rowB X n) t = l2 at *
  clear hr
  go_enter Tryd.func13, Tryd.ntmps13
  go_wp2_with fail
  refine (twval_i A n c X (t : Int) _ hn (HR.out.below (K := w.heap.size) (by go_grown) (Nat.le_refl _))).mono ?_
  rintro e w1 ⟨rfl, hb⟩
  have p0 : w1.cell? ⟨w.heap.size, 0, none⟩ = some (.slice A n c) := by rw [(bcell hb).1 _ _ (by simp)]; go_simp
  have p1 : w1.cell? ⟨w.heap.size, 1, none⟩ = some (.int .i64 (t : Int)) := by rw [(bcell hb).1 _ _ (by simp)]; go_simp
  have b1 : Below w.heap.size w w1 := Below.trans (by go_grown) (hb.mono (by simp))
  clear hb
  rw [hv]
  go_wp2_with (go_at_call 46; refine (HFl.out _ b1).mono ?_; rintro e w2 ⟨rfl, b2⟩)
  go_returns
  exact ⟨rfl, b1.trans (b2.mono b1.size)⟩
end Go.Proofs.YtopiecbldnhihaaDoor.twl
