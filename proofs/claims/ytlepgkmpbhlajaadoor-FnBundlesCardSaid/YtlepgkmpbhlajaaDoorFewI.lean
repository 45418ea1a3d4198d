/-
  The program's order of the heaviest bundles, and its FewestBunches.
-/
import Derived.Test.YtlepgkmpbhlajaaDoorSrtN
import Derived.Test.YtlepgkmpbhlajaaDoorIdx
import Derived.Test.YtlepgkmpbhlajaaDoorFewM
import Derived.Test.YtlepgkmpbhlajaaDoorChoice
import Derived.Test.YtlepgkmpbhlajaaDoorBunch
import Derived.Test.YtlepgkmpbhlajaaDoorOwnV
namespace Go.Proofs.YtlepgkmpbhlajaaDoor.rod
open Go.ChangeShapes Go.WideShapes Go.ChangeAt Go.RowKit Go.Proofs.YtlepgkmpbhlajaaDoor.mem Go.Proofs.YtlepgkmpbhlajaaDoor.nums Go.Proofs.YtlepgkmpbhlajaaDoor.stab
set_option linter.unusedVariables false

set_option maxHeartbeats 2000000 in
theorem heaviest_c (A : Option Addr) (n c : Nat) (X : Nat → Int) (QQ : Nat → Nat) (w : World) (hn : n ≤ 30) (hQQ : Ord (ltN X) n QQ) (h : Sl w A n 3 X) :
    Calls Tryd.prog 55 #[.slice A n c] w fun e w' => ∃ g, e = .returned (.slice (some ⟨g, 0, none⟩) n n) ∧ w.heap.size ≤ g ∧ RowN w' g n QQ ∧ Below w.heap.size w w' := by
  have HR := Lib.hid h
  have HQQ := Lib.hid hQQ
  clear h hQQ
  go_enter Tryd.func55, Tryd.ntmps55
  go_wp2_with fail
  refine (indices_c n _ (by omega)).mono ?_
  rintro e w1 ⟨g, rfl, hg, ho, hb⟩
  have z1 := hb.size
  simp at z1 hg
  have c0 : w1.cell? ⟨w.heap.size, 0, none⟩ = some (.slice A n c) := by rw [(bcell hb).1 _ _ (by simp)]; go_simp
  have g1 : Below w.heap.size w w1 := Below.trans (by go_grown) (hb.mono (by simp))
  have hlt := ho.lt
  have hcap : Cap w1 g w.heap.size A n c X := ⟨by omega, hlt, c0, fun hk => by
    obtain ⟨b, o, e, hb', hX⟩ := HR.out hk
    exact ⟨b, o, e, by omega, hX.below g1 hb'⟩⟩
  have hrow : RowN w1 g n (fun i => i) := ⟨by rw [Nat.mul_one]; exact ho, fun x hx => hx⟩
  have HC := Lib.hid hcap
  have HW := Lib.hid hrow
  have HG1 := Lib.hid g1
  clear hb ho hcap hrow g1
  go_wp2_with fail
  refine (sortStableN_c X w.heap.size A c g n n _ (by omega) HC.out HW.out).mono ?_
  rintro e w2 ⟨rfl, Q, hq, hord, hw⟩
  have HQ := Lib.hid (hq.congr (hord.uniq (ltN_swo X) HQQ.out))
  have HB := Lib.hid (HG1.out.trans (hw.below (B := w.heap.size) (by omega) (by omega)))
  clear hq hord hw
  go_wp2
  go_ret
  exact ⟨g, rfl, by omega, HQ.out, HB.out⟩

/-- the cells of a choice -/
def chV (p : Nat) (s : Int) (i : Nat) : Value := if i = 0 then .int .u32 (p : Nat) else .int .i64 s
theorem RowN.wrote {w w' : World} {g n lo hi : Nat} {P : Nat → Nat} (h : RowN w g n P) (hw : WroteIn w w' lo hi) (hd : ¬ (lo ≤ g ∧ g < hi)) : RowN w' g n P := ⟨Own.of_block h.1 (hw.block g h.lt hd), h.2⟩

theorem few_i_no (A : Option Addr) (n c : Nat) (X : Nat → Int) (h code : Int) (w : World) (hn : n ≤ maxLen) (hr : Sl w A n 3 X) (hv : FewNo n X h code) :
    Calls Tryd.prog 16 #[.slice A n c, .int .i64 h] w (NumsCode w 2 [] code) := by
  have HR := Lib.hid hr
  clear hr
  rcases hv with ⟨hv, rfl⟩ | ⟨hv, h1, rfl⟩
  all_goals
    go_enter Tryd.func16, Tryd.ntmps16
    go_wp2_with (first | (go_at_call 25; refine (validU_i A n c X _ hn HR.out).mono ?_; rintro e w1 ⟨rfl, b1⟩) | (go_at_call 36; refine (in_i _ _ _ _).mono ?_; rintro e w' ⟨rfl, rfl⟩))
    go_ret2
    exact ⟨none, 0, rfl, Nat.le_refl _, by unfold maxLen; omega, Row.none_, b1⟩

set_option maxHeartbeats 4000000 in
set_option maxRecDepth 100000 in
theorem few_i (A : Option Addr) (n c : Nat) (X : Nat → Int) (h : Int) (B : Nat) (code : Int) (w : World) (hr : Sl w A n 3 X) (hv : listU n X = true) (h1 : inB h 0 1000000 = true) (hf : FewIs X n h B code) :
    Calls Tryd.prog 16 #[.slice A n c, .int .i64 h] w (NumsCode w 2 (idxs B.testBit n) code) := by
  obtain ⟨n30, hall⟩ := listU_of hv
  have hn : n ≤ maxLen := by unfold maxLen; omega
  obtain ⟨bh1, bh2⟩ := inB_of h1
  obtain ⟨Q, t, ht, hcase⟩ := hf
  have HT := Lib.hid ht
  have HCS := Lib.hid hcase
  have HV := Lib.hid hv
  have HAL := Lib.hid hall
  have HR := Lib.hid hr
  clear hr hv hall ht hcase
  go_enter Tryd.func16, Tryd.ntmps16
  go_wp2_with (first | (go_at_call 25; refine (validU_i A n c X _ hn HR.out).mono ?_; rintro e w1 ⟨rfl, b1⟩; rw [HV.out]) | (go_at_call 36; refine (in_i _ _ _ _).mono ?_; rintro e w' ⟨rfl, rfl⟩))
  have HW1 := Lib.hid (fun o => Below.alloc b1 b1.size o)
  refine (heaviest_c A n c X Q _ n30 HT.out.ord (HR.out.below (HW1.out _) (Nat.le_refl _))).mono ?_
  rintro e w2 ⟨g, rfl, hg, hrow, hb2⟩
  have z1 := b1.size
  simp at hg
  have z2 := hb2.size
  simp at z2
  have c0 : w2.cell? ⟨w1.heap.size, 0, none⟩ = some (.int .u32 0) := by rw [(bcell hb2).1 _ _ (by simp)]; go_simp
  have c1 : w2.cell? ⟨w1.heap.size, 1, none⟩ = some (.int .i64 0) := by rw [(bcell hb2).1 _ _ (by simp)]; go_simp
  have f0 : w2.frozen? ⟨w1.heap.size, 0, none⟩ = false := by rw [(bcell hb2).2 _ _ (by simp)]; go_simp
  have f1 : w2.frozen? ⟨w1.heap.size, 1, none⟩ = false := by rw [(bcell hb2).2 _ _ (by simp)]; go_simp
  have OVX : Hid (OwnV w2 w1.heap.size 69 2 (chV 0 0)) := by
    obtain ⟨hblk⟩ : Nonempty (w2.heap[w1.heap.size]? = _) := ⟨hb2.block w1.heap.size (by simp)⟩
    exact ⟨_, hblk.trans (Go.Deep.blk_alloc_new _ _), by simp, fun i hi => by match i, hi with | 0, _ => rfl | 1, _ => rfl⟩
  have g2 : Below w.heap.size w w2 := b1.trans (Below.trans (by go_grown) (hb2.mono (by simp; omega)))
  have HRW := Lib.hid hrow
  have hgl := hrow.lt
  have HG2 := Lib.hid g2
  clear hrow hb2 g2 b1
  have hov : OwnV w2 w1.heap.size 69 2 (chV (bq Q 0) (sq X Q 0)) := OVX.out
  have HOV := Lib.hid hov
  have hcb : w1.heap.size < g := by omega
  clear c0 c1 f0 f1 hov OVX
  generalize w1.heap.size = cb at *
  go_wp2_with fail
  go_loopw [18] (fun s wr => ∃ k : Nat, k ≤ t ∧ s = .int .i64 k ∧ Hid (OwnV wr cb 69 2 (chV (bq Q k) (sq X Q k))) ∧ Hid (RowN wr g n Q) ∧ w.heap.size ≤ wr.heap.size ∧ Below w.heap.size w wr) (fun s _ => n - (intOf s).toNat)
  case atStart => exact ⟨0, Nat.zero_le _, rfl, HOV.out, HRW.out, HG2.out.size, HG2.out⟩
  case round =>
    obtain ⟨k, hk, rfl, HO, HRN, hz, hbl⟩ := hrel
    have HBL := Lib.hid hbl
    have htn := HT.out.le
    have hsb := sq_bd HAL.out (t := k) (fun i hi => HT.out.ord.bnd i (by omega))
    have c0 : wr.cell? ⟨cb, 0, none⟩ = some (.int .u32 (bq Q k : Nat)) := HO.out.cell (j := 0) (by omega)
    have c1 : wr.cell? ⟨cb, 1, none⟩ = some (.int .i64 (sq X Q k)) := HO.out.cell (j := 1) (by omega)
    have f0 := HO.out.frozen 0
    have f1 := HO.out.frozen 1
    have hbq : bq Q k < 2 ^ n := bq_lt (fun i hi => HT.out.ord.bnd i (by omega))
    have hbq32 : bq Q k < 2 ^ 32 := Nat.lt_of_lt_of_le hbq (Nat.pow_le_pow_right (by decide) (by omega))
    clear hbl
    by_cases hkt : k < t
    · have hlt' : (k : Int) < (n : Int) := by omega
      have hfew : ¬ h ≤ sq X Q k := by have := HT.out.few k hkt; omega
      have hq := HT.out.ord.bnd k (by omega)
      have ck := HRN.out.cells (p := k) (by omega)
      obtain ⟨b, o, rfl, hb, hX⟩ := HR.out (by omega)
      have cw := hX.below HBL.out hb (Q k * 3 + 2) (by omega)
      simp only [← Nat.add_assoc] at cw
      have hwb := allU_bd HAL.out hq
      have hq0 : (0 : Int) ≤ (Q k : Int) := by omega
      have hqn : (Q k : Int) < (n : Int) := by omega
      have hwc : ∀ W, Calls Tryd.prog 56 #[.agg #[.int .u32 (bq Q k : Nat), .int .i64 (sq X Q k)], .int .i64 (Q k : Nat), .int .i64 (X (Q k * 3 + 2))] W fun e w' => e = .returned (.agg #[.int .u32 (bq Q (k + 1) : Nat), .int .i64 (sq X Q (k + 1))]) ∧ Below W.heap.size W w' := fun W => with_c (bq Q k) (Q k) (sq X Q k) (X (Q k * 3 + 2)) W hbq32 (by omega) (by omega) (by omega) (by omega) (by omega)
      have HWC := Lib.hid hwc
      have hcbl := HO.out.lt
      clear hwc hX
      generalize hB1 : bq Q (k + 1) = B1 at *
      have HB1 := Lib.hid hB1
      clear hB1
      generalize hS1 : sq X Q (k + 1) = S1 at *
      have HS1 := Lib.hid hS1
      clear hS1
      go_wp2_with fail
      go_region_with (go_at_call 56; refine (HWC.out _).mono ?_; rintro e w3 ⟨rfl, hb3⟩; have g5 : Below wr.heap.size wr w3 := Below.trans (Below.drew (Below.refl _ _)) (hb3.mono (by simp)); have O3 := HO.out.below g5 hcbl; have e0 := O3.frozen 0; have e1 := O3.frozen 1; have x0 := O3.cell (j := 0) (by omega); have x1 := O3.cell (j := 1) (by omega))
      all_goals
        have hO4 := ((O3.set 0 (.int .u32 (B1 : Nat))).set 1 (.int .i64 S1)).congr (U := chV B1 S1) (fun i hi => by match i, hi with | 0, _ => rfl | 1, _ => rfl)
        have hW4 : WroteIn w3 ((w3.setCell ⟨cb, 0, none⟩ (.int .u32 (B1 : Nat))).setCell ⟨cb, 1, none⟩ (.int .i64 S1)) cb (cb + 1) := ((WroteIn.refl _ _ _).set (Nat.le_refl _) (Nat.lt_succ_self _) _).set (Nat.le_refl _) (Nat.lt_succ_self _) _
        have hR4 := (HRN.out.below g5 (show g < wr.heap.size from HRN.out.lt)).wrote hW4 (by omega)
        have hB4 := (HBL.out.trans (g5.mono hz)).trans (hW4.below (B := w.heap.size) (Nat.le_trans hz g5.size) (show w.heap.size ≤ cb by omega))
        have HO4 := Lib.hid hO4
        have HR4 := Lib.hid hR4
        have HB4 := Lib.hid hB4
        clear hO4 hW4 hR4 hB4
        go_wp2
        go_roundw
        case rel => exact ⟨k + 1, by omega, by go_num, by rw [HB1.out, HS1.out]; exact HO4.out, HR4.out, HB4.out.size, HB4.out⟩
        case measure => simp [intOf]; omega
    · obtain rfl : k = t := by omega
      have HNU := Lib.hid (fun W => numbers_i (bq Q k) n W (by omega) hbq)
      have HCS2 := HCS.out
      have hstop := HT.out.stop
      generalize bq Q k = B0 at *
      generalize sq X Q k = S0 at *
      by_cases hkn : k < n
      · have hlt' : (k : Int) < (n : Int) := by omega
        have hge : h ≤ S0 := by omega
        obtain rfl : code = 0 := by rcases HCS2 with ⟨_, _, e⟩ | ⟨e, _, _⟩; exact e; omega
        obtain rfl : B = B0 := by rcases HCS2 with ⟨_, e, _⟩ | ⟨e, _, _⟩; exact e; omega
        have ck := HRN.out.cells (p := k) (by omega)
        have hnl : ¬ S0 < h := by omega
        clear HCS2 hstop
        go_wp2_with (go_at_call 52; refine (HNU.out _).mono ?_; rintro e w3 ⟨A3, c3, rfl, k3, m3, hr3, hb3⟩)
        have HR3 := Lib.hid (hr3.wide (lo' := w.heap.size) (hi' := w3.heap.size) hz (Nat.le_refl _))
        have HB3 := Lib.hid (HBL.out.trans (hb3.mono hz))
        clear hr3 hb3
        go_ret2
        exact ⟨A3, c3, rfl, k3, m3, HR3.out, HB3.out⟩
      · obtain rfl : k = n := by omega
        have hlt' : ¬ (k : Int) < (k : Int) := by omega
        by_cases hge : h ≤ S0
        · obtain rfl : code = 0 := by rcases HCS2 with ⟨_, _, e⟩ | ⟨e, _, _⟩; exact e; omega
          obtain rfl : B = B0 := by rcases HCS2 with ⟨_, e, _⟩ | ⟨e, _, _⟩; exact e; omega
          have hnl : ¬ S0 < h := by omega
          clear HCS2 hstop
          go_wp2_with (go_at_call 52; refine (HNU.out _).mono ?_; rintro e w3 ⟨A3, c3, rfl, k3, m3, hr3, hb3⟩)
          have HR3 := Lib.hid (hr3.wide (lo' := w.heap.size) (hi' := w3.heap.size) hz (Nat.le_refl _))
          have HB3 := Lib.hid (HBL.out.trans (hb3.mono hz))
          clear hr3 hb3
          go_ret2
          exact ⟨A3, c3, rfl, k3, m3, HR3.out, HB3.out⟩
        · obtain rfl : code = 3 := by rcases HCS2 with ⟨e, _, _⟩ | ⟨_, _, e⟩; omega; exact e
          obtain rfl : B = 0 := by rcases HCS2 with ⟨e, _, _⟩ | ⟨_, e, _⟩; omega; exact e
          have hnl : S0 < h := by omega
          have HZ := Lib.hid (show idxs (0 : Nat).testBit k = [] from by
            have key : ∀ m, idxs (0 : Nat).testBit m = [] := fun m => by
              induction m with
              | zero => rfl
              | succ m ih => rw [idxs_no (by simp), ih]
            exact key k)
          clear HCS2 hstop
          go_wp2_with fail
          go_ret2
          rw [HZ.out]
          exact ⟨none, 0, rfl, Nat.le_refl _, by unfold maxLen; omega, Row.none_, HBL.out⟩

end Go.Proofs.YtlepgkmpbhlajaaDoor.rod
