/-
  The walk of the law on rhythms: for every list of bytes the law gives true.
-/
import Derived.Test.YtcpaenmhnoagdacPackR
import Derived.Test.YtcpaenmhnoagdacDrawR
import Derived.Test.YtcpaenmhnoagdacDrawS
import Derived.Test.YtcpaenmhnoagdacFnBeds
namespace Go.Proofs.Ytcpaenmhnoagdac.src
open Go.ChangeShapes Go.WideShapes Go.ChangeAt Go.RowKit Go.Proofs.Ytcpaenmhnoagdac.mem
set_option linter.unusedVariables false

set_option maxHeartbeats 1000000 in
theorem f6has_c (A : Option Addr) (n c : Nat) (C : Nat → Int) (x : Int) (b : Bool) (w : World) (hn : n ≤ 100) (h : Sl w A n 1 C) (hb : rod.hasC C x n = b) :
    Calls Try.prog 27 #[.slice A n c, .int .i64 x] w fun e w' => e = .returned (.bool b) ∧ w' = w := by
  have H := Lib.hid h
  have HB := Lib.hid hb
  clear h hb
  go_enter Try.func27, Try.ntmps27
  go_wp2_with fail
  go_loop [5] (fun s => ∃ k : Nat, k ≤ n ∧ s = .int .i64 k ∧ Hid (rod.hasC C x k = false)) (fun s => n - (intOf s).toNat)
  case atStart => exact ⟨0, by omega, rfl, rfl⟩
  case round =>
    obtain ⟨k, hk, rfl, HA⟩ := hrel
    by_cases hlt : k < n
    · have hlt' : (k : Int) < (n : Int) := by omega
      obtain ⟨b', o, rfl, hb, hX⟩ := H.out (by omega)
      have p0 := hX k (by omega)
      clear hX
      by_cases hx : C k = x
      · have HF := Lib.hid (rod.hasC_yes hlt hx)
        rw [hx] at p0
        clear hx
        go_wp2_with fail
        go_ret
        exact ⟨by rw [← HB.out, HF.out]; rfl, rfl⟩
      · have HS := Lib.hid (show rod.hasC C x (k + 1) = false by simp only [rod.hasC, HA.out, decide_eq_false hx, Bool.or_self])
        have e1 : (C k == x) = false := by simpa using hx
        clear hx
        go_wp2_with fail
        go_round
        case rel => exact ⟨k + 1, by omega, by go_num, HS.out⟩
        case measure => simp [intOf]; omega
    · obtain rfl : k = n := by omega
      go_wp2
      go_ret
      exact ⟨by rw [← HB.out, HA.out]; rfl, rfl⟩

/-- a block holds a fraction -/
def FracB (w : World) (g : Nat) (p q : Int) : Prop := w.heap[g]? = some (.cells #[.int .i64 p, .int .i64 q] 29 (0, 0))
theorem FracB.below {w w' : World} {g K : Nat} {p q : Int} (h : FracB w g p q) (hb : Below K w w') (hK : w.heap.size ≤ K) : FracB w' g p q := (hb.block g (by have := (Array.getElem?_eq_some_iff.1 h).1; omega)).trans h
theorem FracB.c0 {w : World} {g : Nat} {p q : Int} (h : FracB w g p q) : w.cell? ⟨g, 0, none⟩ = some (.int .i64 p) := by unfold FracB at h; simp [World.cell?, h]
theorem FracB.c1 {w : World} {g : Nat} {p q : Int} (h : FracB w g p q) : w.cell? ⟨g, 1, none⟩ = some (.int .i64 q) := by unfold FracB at h; simp [World.cell?, h]

set_option maxHeartbeats 32000000 in
set_option maxRecDepth 100000 in
theorem rhythms_walk (A : Option Addr) (n c : Nat) (X : Nat → Int) (w : World) (hn : n ≤ 4096) (hX : Sb w A n X) :
    Calls Try.prog 3 #[.slice A n c] w fun e w' => e = .returned (.bool true) ∧ Below w.heap.size w w' := by
  have XX0 := Lib.hid hX
  have BB0 := Lib.hid (Below.refl w.heap.size w)
  clear hX
  go_enter Try.func3, Try.ntmps3
  go_wp2_with fail
  refine (rod.f6big_c A n c _ hn).mono ?_
  rintro e wq ⟨rfl, hwq⟩
  rw [hwq]
  clear hwq
  go_wp2_with fail
  refine (bedRhythm_c A n c X _ hn XX0.out).mono ?_
  rintro e w1 ⟨P, m, d, Y, a, rfl, hm, hmd, hdm, hrow, hb⟩
  have XX1 := Lib.hid (XX0.out.below hb (Nat.le_refl _))
  have BB1 := Lib.hid (BB0.out.trans (hb.mono BB0.out.size))
  have PP1 := Lib.hid (hrow.sl)
  clear hrow hb
  obtain ⟨k, p, q, code, hcase, hI, hS⟩ := rod.rhythm_any P m d Y a hm
  have CASE := Lib.hid hcase
  have HI := Lib.hid hI
  have HS := Lib.hid hS
  clear hcase hI hS
  obtain ⟨v1, hv1⟩ : ∃ W, W = w1.alloc (.cells #[.slice P m d, .int .i64 a] 26) := ⟨_, rfl⟩
  have hb : Below w1.heap.size w1 v1 := by rw [hv1]; go_grown
  have hq : BedB v1 w1.heap.size P m d a := by rw [hv1]; exact Go.Deep.blk_alloc_new _ _
  have XX2 := Lib.hid (XX1.out.below hb (Nat.le_refl _))
  have PP2 := Lib.hid (PP1.out.below hb (Nat.le_refl _))
  have BB2 := Lib.hid (BB1.out.trans (hb.mono BB1.out.size))
  have QA2 := Lib.hid (hq)
  clear hb hq
  go_wp2_with fail
  rw [← hv1]
  clear hv1
  have c0 := QA2.out.c0
  have c1 := QA2.out.c1
  refine (HI.out _ PP2.out).mono ?_
  rintro e w2 ⟨rfl, hb⟩
  clear c0 c1
  have XX3 := Lib.hid (XX2.out.below hb (Nat.le_refl _))
  have PP3 := Lib.hid (PP2.out.below hb (Nat.le_refl _))
  have QA3 := Lib.hid (QA2.out.below hb (Nat.le_refl _))
  have BB3 := Lib.hid (BB2.out.trans (hb.mono BB2.out.size))
  clear hb
  have cA0 : ∀ X, (w2.alloc X).cell? ⟨w1.heap.size, 0, none⟩ = some (.slice P m d) := fun X => (QA3.out.below (Below.alloc (Below.refl w2.heap.size w2) (Nat.le_refl _) X) (Nat.le_refl _)).c0
  have cA1 : ∀ X, (w2.alloc X).cell? ⟨w1.heap.size, 1, none⟩ = some (.int .i64 a) := fun X => (QA3.out.below (Below.alloc (Below.refl w2.heap.size w2) (Nat.le_refl _) X) (Nat.le_refl _)).c1
  obtain ⟨v2, hv2⟩ : ∃ W, W = w2.alloc (.cells #[.int .i64 p, .int .i64 q] 29) := ⟨_, rfl⟩
  have hb : Below w2.heap.size w2 v2 := by rw [hv2]; go_grown
  have hq : FracB v2 w2.heap.size p q := by rw [hv2]; exact Go.Deep.blk_alloc_new _ _
  have XX4 := Lib.hid (XX3.out.below hb (Nat.le_refl _))
  have PP4 := Lib.hid (PP3.out.below hb (Nat.le_refl _))
  have QA4 := Lib.hid (QA3.out.below hb (Nat.le_refl _))
  have BB4 := Lib.hid (BB3.out.trans (hb.mono BB3.out.size))
  have FA4 := Lib.hid (hq)
  clear hb hq
  go_wp2_with fail
  rw [← hv2]
  clear hv2
  clear cA0 cA1
  refine (HS.out _ PP4.out).mono ?_
  rintro e w3 ⟨rfl, hb⟩
  have XX5 := Lib.hid (XX4.out.below hb (Nat.le_refl _))
  have PP5 := Lib.hid (PP4.out.below hb (Nat.le_refl _))
  have QA5 := Lib.hid (QA4.out.below hb (Nat.le_refl _))
  have FA5 := Lib.hid (FA4.out.below hb (Nat.le_refl _))
  have BB5 := Lib.hid (BB4.out.trans (hb.mono BB4.out.size))
  clear hb
  obtain ⟨v3, hv3⟩ : ∃ W, W = w3.alloc (.cells #[.int .i64 p, .int .i64 q] 29) := ⟨_, rfl⟩
  have hb : Below w3.heap.size w3 v3 := by rw [hv3]; go_grown
  have hq : FracB v3 w3.heap.size p q := by rw [hv3]; exact Go.Deep.blk_alloc_new _ _
  have XX6 := Lib.hid (XX5.out.below hb (Nat.le_refl _))
  have PP6 := Lib.hid (PP5.out.below hb (Nat.le_refl _))
  have QA6 := Lib.hid (QA5.out.below hb (Nat.le_refl _))
  have FA6 := Lib.hid (FA5.out.below hb (Nat.le_refl _))
  have BB6 := Lib.hid (BB5.out.trans (hb.mono BB5.out.size))
  have FB6 := Lib.hid (hq)
  clear hb hq
  go_wp2_with fail
  rw [← hv3]
  clear hv3
  refine (bedsCut_c A n c X _ hn XX6.out).mono ?_
  rintro e w4 ⟨P', l, d', M, Y', G, Q, n2, d2, C, rfl, hk15, hkd, hdm2, hQ, hl9, hld, hdm', hM, hrow, hb⟩
  have XX7 := Lib.hid (XX6.out.below hb (Nat.le_refl _))
  have PP7 := Lib.hid (PP6.out.below hb (Nat.le_refl _))
  have QA7 := Lib.hid (QA6.out.below hb (Nat.le_refl _))
  have FA7 := Lib.hid (FA6.out.below hb (Nat.le_refl _))
  have FB7 := Lib.hid (FB6.out.below hb (Nat.le_refl _))
  have BB7 := Lib.hid (BB6.out.trans (hb.mono BB6.out.size))
  have BS7 := Lib.hid ((show Bs _ _ _ _ _ _ from hrow.beds))
  have SQ7 := Lib.hid (hQ.sl)
  clear hrow hQ hb
  obtain ⟨l5, H, code5, hl5, hl50, hcase, hI, hS⟩ := rod.after_any P' l d' M Y' G Q n2 d2 C hl9 hM hk15
  have CASE5 := Lib.hid hcase
  have HI5 := Lib.hid hI
  have HS5 := Lib.hid hS
  have HM5 := Lib.hid (fun j (hj : j < l5) => (show M j ≤ maxLen from by have := hM j (by omega); unfold maxLen; omega))
  clear hcase hI hS hM
  go_wp2_with fail
  refine (HI5.out _ BS7.out SQ7.out).mono ?_
  rintro e w5 ⟨A5, c5, rfl, _, _, hr, hb⟩
  have XX8 := Lib.hid (XX7.out.below hb (Nat.le_refl _))
  have PP8 := Lib.hid (PP7.out.below hb (Nat.le_refl _))
  have QA8 := Lib.hid (QA7.out.below hb (Nat.le_refl _))
  have FA8 := Lib.hid (FA7.out.below hb (Nat.le_refl _))
  have FB8 := Lib.hid (FB7.out.below hb (Nat.le_refl _))
  have BS8 := Lib.hid (BS7.out.below hb (Nat.le_refl _))
  have SQ8 := Lib.hid (SQ7.out.below hb (Nat.le_refl _))
  have BB8 := Lib.hid (BB7.out.trans (hb.mono BB7.out.size))
  have BI8 := Lib.hid ((show Bs _ _ _ _ _ _ from hr.beds))
  clear hr hb
  go_wp2_with fail
  refine (HS5.out _ BS8.out SQ8.out).mono ?_
  rintro e w6 ⟨A6, c6, rfl, _, _, hr, hb⟩
  have XX9 := Lib.hid (XX8.out.below hb (Nat.le_refl _))
  have PP9 := Lib.hid (PP8.out.below hb (Nat.le_refl _))
  have QA9 := Lib.hid (QA8.out.below hb (Nat.le_refl _))
  have FA9 := Lib.hid (FA8.out.below hb (Nat.le_refl _))
  have FB9 := Lib.hid (FB8.out.below hb (Nat.le_refl _))
  have BS9 := Lib.hid (BS8.out.below hb (Nat.le_refl _))
  have SQ9 := Lib.hid (SQ8.out.below hb (Nat.le_refl _))
  have BI9 := Lib.hid (BI8.out.below hb (Nat.le_refl _))
  have BB9 := Lib.hid (BB8.out.trans (hb.mono BB8.out.size))
  have BJ9 := Lib.hid ((show Bs _ _ _ _ _ _ from hr.beds))
  clear hr hb
  go_wp2_with fail
  refine (bedsYears_c A n c X _ hn XX9.out).mono ?_
  rintro e w7 ⟨P7, l7, d7, M7, Y7, G7, y7, rfl, y70, y71, hl7, hld7, hdm7, hM, hrow, hb⟩
  have XX10 := Lib.hid (XX9.out.below hb (Nat.le_refl _))
  have PP10 := Lib.hid (PP9.out.below hb (Nat.le_refl _))
  have QA10 := Lib.hid (QA9.out.below hb (Nat.le_refl _))
  have FA10 := Lib.hid (FA9.out.below hb (Nat.le_refl _))
  have FB10 := Lib.hid (FB9.out.below hb (Nat.le_refl _))
  have BS10 := Lib.hid (BS9.out.below hb (Nat.le_refl _))
  have SQ10 := Lib.hid (SQ9.out.below hb (Nat.le_refl _))
  have BI10 := Lib.hid (BI9.out.below hb (Nat.le_refl _))
  have BJ10 := Lib.hid (BJ9.out.below hb (Nat.le_refl _))
  have BB10 := Lib.hid (BB9.out.trans (hb.mono BB9.out.size))
  have BY10 := Lib.hid ((show Bs _ _ _ _ _ _ from hrow.beds))
  clear hrow hb
  obtain ⟨v8, code8, hcase, hI, hS⟩ := rod.steady_any P7 l7 d7 M7 Y7 G7 y7 hl7 hM
  have CASE8 := Lib.hid hcase
  have HI8 := Lib.hid hI
  have HS8 := Lib.hid hS
  clear hcase hI hS hM
  go_wp2_with fail
  refine (HI8.out _ BY10.out).mono ?_
  rintro e w8 ⟨rfl, hb⟩
  have XX11 := Lib.hid (XX10.out.below hb (Nat.le_refl _))
  have PP11 := Lib.hid (PP10.out.below hb (Nat.le_refl _))
  have QA11 := Lib.hid (QA10.out.below hb (Nat.le_refl _))
  have FA11 := Lib.hid (FA10.out.below hb (Nat.le_refl _))
  have FB11 := Lib.hid (FB10.out.below hb (Nat.le_refl _))
  have BS11 := Lib.hid (BS10.out.below hb (Nat.le_refl _))
  have SQ11 := Lib.hid (SQ10.out.below hb (Nat.le_refl _))
  have BI11 := Lib.hid (BI10.out.below hb (Nat.le_refl _))
  have BJ11 := Lib.hid (BJ10.out.below hb (Nat.le_refl _))
  have BY11 := Lib.hid (BY10.out.below hb (Nat.le_refl _))
  have BB11 := Lib.hid (BB10.out.trans (hb.mono BB10.out.size))
  clear hb
  go_wp2_with fail
  refine (HS8.out _ BY11.out).mono ?_
  rintro e w9 ⟨rfl, hb⟩
  have XX12 := Lib.hid (XX11.out.below hb (Nat.le_refl _))
  have PP12 := Lib.hid (PP11.out.below hb (Nat.le_refl _))
  have QA12 := Lib.hid (QA11.out.below hb (Nat.le_refl _))
  have FA12 := Lib.hid (FA11.out.below hb (Nat.le_refl _))
  have FB12 := Lib.hid (FB11.out.below hb (Nat.le_refl _))
  have BS12 := Lib.hid (BS11.out.below hb (Nat.le_refl _))
  have SQ12 := Lib.hid (SQ11.out.below hb (Nat.le_refl _))
  have BI12 := Lib.hid (BI11.out.below hb (Nat.le_refl _))
  have BJ12 := Lib.hid (BJ11.out.below hb (Nat.le_refl _))
  have BY12 := Lib.hid (BY11.out.below hb (Nat.le_refl _))
  have BB12 := Lib.hid (BB11.out.trans (hb.mono BB11.out.size))
  clear hb
  go_wp2_with fail
  refine (twoBeds_c A n c X _ hn XX12.out).mono ?_
  rintro e w10 ⟨Pa, la, da, Ma, Ya, Ga, Pb, lb, db, Mb, Yb, Gb, rfl, hla, hlb, hMa, hMb, hra, hrb, hb⟩
  have XX13 := Lib.hid (XX12.out.below hb (Nat.le_refl _))
  have PP13 := Lib.hid (PP12.out.below hb (Nat.le_refl _))
  have QA13 := Lib.hid (QA12.out.below hb (Nat.le_refl _))
  have FA13 := Lib.hid (FA12.out.below hb (Nat.le_refl _))
  have FB13 := Lib.hid (FB12.out.below hb (Nat.le_refl _))
  have BS13 := Lib.hid (BS12.out.below hb (Nat.le_refl _))
  have SQ13 := Lib.hid (SQ12.out.below hb (Nat.le_refl _))
  have BI13 := Lib.hid (BI12.out.below hb (Nat.le_refl _))
  have BJ13 := Lib.hid (BJ12.out.below hb (Nat.le_refl _))
  have BY13 := Lib.hid (BY12.out.below hb (Nat.le_refl _))
  have BB13 := Lib.hid (BB12.out.trans (hb.mono BB12.out.size))
  have TA13 := Lib.hid ((show Bs _ _ _ _ _ _ from hra))
  have TB13 := Lib.hid ((show Bs _ _ _ _ _ _ from hrb))
  clear hra hrb hb
  have MA := Lib.hid (fun j (hj : j < la) => (show Ma j ≤ maxLen from by have := hMa j hj; unfold maxLen; omega))
  have MB := Lib.hid (fun j (hj : j < lb) => (show Mb j ≤ maxLen from by have := hMb j hj; unfold maxLen; omega))
  clear hMa hMb
  obtain ⟨sb, hsb⟩ : ∃ b, rod.bedsSame la lb Ma Mb Ya Yb Ga Gb = b := ⟨_, rfl⟩
  have HSB := Lib.hid hsb
  clear hsb
  have f0 := FA13.out.c0
  have f1 := FA13.out.c1
  have f2 := FB13.out.c0
  have f3 := FB13.out.c1
  go_wp2_with fail
  refine (rod.sameBeds_s A5 A6 l5 l5 c5 c6 M M Y' Y' H H _ (by unfold maxLen; omega) (by unfold maxLen; omega) HM5.out HM5.out BI13.out BJ13.out).mono ?_
  rintro e w11 ⟨rfl, hb⟩
  rw [rod.bedsSame_refl]
  clear f0 f1 f2 f3
  have XX14 := Lib.hid (XX13.out.below hb (Nat.le_refl _))
  have PP14 := Lib.hid (PP13.out.below hb (Nat.le_refl _))
  have QA14 := Lib.hid (QA13.out.below hb (Nat.le_refl _))
  have FA14 := Lib.hid (FA13.out.below hb (Nat.le_refl _))
  have FB14 := Lib.hid (FB13.out.below hb (Nat.le_refl _))
  have BS14 := Lib.hid (BS13.out.below hb (Nat.le_refl _))
  have SQ14 := Lib.hid (SQ13.out.below hb (Nat.le_refl _))
  have BI14 := Lib.hid (BI13.out.below hb (Nat.le_refl _))
  have BJ14 := Lib.hid (BJ13.out.below hb (Nat.le_refl _))
  have BY14 := Lib.hid (BY13.out.below hb (Nat.le_refl _))
  have TA14 := Lib.hid (TA13.out.below hb (Nat.le_refl _))
  have TB14 := Lib.hid (TB13.out.below hb (Nat.le_refl _))
  have BB14 := Lib.hid (BB13.out.trans (hb.mono BB13.out.size))
  clear hb
  go_wp2_with fail
  refine (rod.sameBeds_i Pa Pb la lb da db Ma Mb Ya Yb Ga Gb _ (by unfold maxLen; omega) (by unfold maxLen; omega) MA.out MB.out TA14.out TB14.out).mono ?_
  rintro e w12 ⟨rfl, hb⟩
  rw [HSB.out]
  have XX15 := Lib.hid (XX14.out.below hb (Nat.le_refl _))
  have PP15 := Lib.hid (PP14.out.below hb (Nat.le_refl _))
  have QA15 := Lib.hid (QA14.out.below hb (Nat.le_refl _))
  have FA15 := Lib.hid (FA14.out.below hb (Nat.le_refl _))
  have FB15 := Lib.hid (FB14.out.below hb (Nat.le_refl _))
  have BS15 := Lib.hid (BS14.out.below hb (Nat.le_refl _))
  have SQ15 := Lib.hid (SQ14.out.below hb (Nat.le_refl _))
  have BI15 := Lib.hid (BI14.out.below hb (Nat.le_refl _))
  have BJ15 := Lib.hid (BJ14.out.below hb (Nat.le_refl _))
  have BY15 := Lib.hid (BY14.out.below hb (Nat.le_refl _))
  have TA15 := Lib.hid (TA14.out.below hb (Nat.le_refl _))
  have TB15 := Lib.hid (TB14.out.below hb (Nat.le_refl _))
  have BB15 := Lib.hid (BB14.out.trans (hb.mono BB14.out.size))
  clear hb
  go_wp2_with fail
  refine (rod.sameBeds_s Pa Pb la lb da db Ma Mb Ya Yb Ga Gb _ (by unfold maxLen; omega) (by unfold maxLen; omega) MA.out MB.out TA15.out TB15.out).mono ?_
  rintro e w13 ⟨rfl, hb⟩
  rw [HSB.out]
  have XX16 := Lib.hid (XX15.out.below hb (Nat.le_refl _))
  have PP16 := Lib.hid (PP15.out.below hb (Nat.le_refl _))
  have QA16 := Lib.hid (QA15.out.below hb (Nat.le_refl _))
  have FA16 := Lib.hid (FA15.out.below hb (Nat.le_refl _))
  have FB16 := Lib.hid (FB15.out.below hb (Nat.le_refl _))
  have BS16 := Lib.hid (BS15.out.below hb (Nat.le_refl _))
  have SQ16 := Lib.hid (SQ15.out.below hb (Nat.le_refl _))
  have BI16 := Lib.hid (BI15.out.below hb (Nat.le_refl _))
  have BJ16 := Lib.hid (BJ15.out.below hb (Nat.le_refl _))
  have BY16 := Lib.hid (BY15.out.below hb (Nat.le_refl _))
  have TA16 := Lib.hid (TA15.out.below hb (Nat.le_refl _))
  have TB16 := Lib.hid (TB15.out.below hb (Nat.le_refl _))
  have BB16 := Lib.hid (BB15.out.trans (hb.mono BB15.out.size))
  clear hb
  go_upto_if 127 with fail
  go_cut [] from 28 (fun wx => Below w13.heap.size w13 wx)
  case first =>
    as_aux_lemma =>
    rcases CASE.out with h0 | ⟨h0, hbd, p0, p1, q0, q1, hbest⟩
    · have e0 : (code == 0) = false := by simpa using h0
      have HZ := Lib.hid h0
      clear h0
      go_wp2_with fail
      go_meet
      case rel => exact Below.refl _ _
    · subst h0
      obtain ⟨⟨m1, m5⟩, _, hy⟩ := rod.bedB_of hbd
      have HY := Lib.hid hy
      have HBEST := Lib.hid hbest
      have QQ := Lib.hid (fun (W : World) (hW : Below w13.heap.size w13 W) => QA16.out.below hW (Nat.le_refl _))
      have FF := Lib.hid (fun (W : World) (hW : Below w13.heap.size w13 W) => FB16.out.below hW (Nat.le_refl _))
      have PPW := Lib.hid (fun (W : World) (hW : Below w13.heap.size w13 W) => PP16.out.below hW (Nat.le_refl _))
      clear hbd hy hbest
      go_wp2_with fail
      go_loopw [24] (fun s wr => ∃ i : Nat, i ≤ m ∧ s = .int .i64 i ∧ Below w13.heap.size w13 wr) (fun s _ => m - (intOf s).toNat)
      case atStart => exact ⟨0, by omega, rfl, Below.refl _ _⟩
      case round =>
        obtain ⟨i, hi, rfl, hd⟩ := hrel
        have hzz := hd.size
        have DD := Lib.hid hd
        clear hd
        have c0 := (QQ.out _ DD.out).c0
        by_cases him : i < m
        · have him' : (i : Int) < (m : Int) := by omega
          have hii0 : (0 : Int) ≤ (i : Int) := by omega
          have hi5 : (i : Int) ≤ 4 := by omega
          have d0 := (FF.out _ DD.out).c0
          have d1 := (FF.out _ DD.out).c1
          obtain ⟨b2, o2, rfl, hb2, hXs⟩ := (PPW.out _ DD.out) (by omega)
          have x0 := hXs i (by omega)
          have hyi := HY.out i him
          have hbe := HBEST.out i him
          have t1 := rod.mul_bd hyi.1 hyi.2 q0 q1
          have t2 := rod.mul_bd p0 p1 (show (0 : Int) ≤ (i : Int) + 1 by omega) (show (i : Int) + 1 ≤ 5 by omega)
          have hdec : decide (p * ((i : Int) + 1) < Y i * q) = false := decide_eq_false (by omega)
          obtain ⟨yi0, yi1⟩ := hyi
          obtain ⟨t10, t11⟩ := t1
          obtain ⟨t20, t21⟩ := t2
          have s1 : IntKind.i64.wrap ((i : Int) + 1) = (i : Int) + 1 := IntWalk.i64_in _ (by omega)
          have s2 : IntKind.i64.wrap (Y i * q) = Y i * q := IntWalk.i64_in _ (by omega)
          have s3 : IntKind.i64.wrap (p * ((i : Int) + 1)) = p * ((i : Int) + 1) := IntWalk.i64_in _ (by omega)
          clear hXs hbe
          go_wp2_with fail
          go_quiet (fail)
          clear s1 s2 s3
          have D2 := Lib.hid (drewN_below DD.out nq)
          go_wp2
          go_roundw
          case rel => exact ⟨i + 1, by omega, by go_num, D2.out⟩
          case measure => simp [intOf]; omega
        · obtain rfl : i = m := by omega
          go_wp2_with fail
          go_meet
          case rel => exact DD.out
  case rest =>
    rename World => w14
    have hb := hcut
    have XX17 := Lib.hid (XX16.out.below hb (Nat.le_refl _))
    have PP17 := Lib.hid (PP16.out.below hb (Nat.le_refl _))
    have QA17 := Lib.hid (QA16.out.below hb (Nat.le_refl _))
    have FA17 := Lib.hid (FA16.out.below hb (Nat.le_refl _))
    have FB17 := Lib.hid (FB16.out.below hb (Nat.le_refl _))
    have BS17 := Lib.hid (BS16.out.below hb (Nat.le_refl _))
    have SQ17 := Lib.hid (SQ16.out.below hb (Nat.le_refl _))
    have BI17 := Lib.hid (BI16.out.below hb (Nat.le_refl _))
    have BJ17 := Lib.hid (BJ16.out.below hb (Nat.le_refl _))
    have BY17 := Lib.hid (BY16.out.below hb (Nat.le_refl _))
    have TA17 := Lib.hid (TA16.out.below hb (Nat.le_refl _))
    have TB17 := Lib.hid (TB16.out.below hb (Nat.le_refl _))
    have BB17 := Lib.hid (BB16.out.trans (hb.mono BB16.out.size))
    clear hb hcut
    go_upto_if 150 with fail
    go_cut [] from 28 (fun wx => Below w14.heap.size w14 wx)
    case first =>
      as_aux_lemma =>
      rcases CASE8.out with h0 | ⟨h0, v0, v1, lc, hlc, hcut⟩
      · have e0 : (code8 == 0) = false := by simpa using h0
        have HZ := Lib.hid h0
        clear h0
        go_wp2_with fail
        go_meet
        case rel => exact Below.refl _ _
      · subst h0
        have HC := Lib.hid hcut
        clear hcut
        go_wp2_with fail
        refine (HC.out _ BY17.out).mono ?_
        rintro e w15 ⟨A15, c15, rfl, _, _, _, hb⟩
        have HB15 := Lib.hid hb
        clear hb
        go_wp2_with fail
        go_meet
        case rel => exact HB15.out
    case rest =>
      rename World => w15
      have hb := hcut
      have XX18 := Lib.hid (XX17.out.below hb (Nat.le_refl _))
      have PP18 := Lib.hid (PP17.out.below hb (Nat.le_refl _))
      have QA18 := Lib.hid (QA17.out.below hb (Nat.le_refl _))
      have FA18 := Lib.hid (FA17.out.below hb (Nat.le_refl _))
      have FB18 := Lib.hid (FB17.out.below hb (Nat.le_refl _))
      have BS18 := Lib.hid (BS17.out.below hb (Nat.le_refl _))
      have SQ18 := Lib.hid (SQ17.out.below hb (Nat.le_refl _))
      have BI18 := Lib.hid (BI17.out.below hb (Nat.le_refl _))
      have BJ18 := Lib.hid (BJ17.out.below hb (Nat.le_refl _))
      have BY18 := Lib.hid (BY17.out.below hb (Nat.le_refl _))
      have TA18 := Lib.hid (TA17.out.below hb (Nat.le_refl _))
      have TB18 := Lib.hid (TB17.out.below hb (Nat.le_refl _))
      have BB18 := Lib.hid (BB17.out.trans (hb.mono BB17.out.size))
      clear hb hcut
      rcases CASE5.out with h0 | ⟨h0, h1, hag⟩
      · have e0 : (code5 != 0) = true := by simpa using h0
        have HZ := Lib.hid h0
        clear h0
        go_wp2
        go_ret
        exact ⟨rfl, BB18.out⟩
      · subst h0
        subst h1
        have HAG := Lib.hid hag
        have BJW := Lib.hid (fun (W : World) (hW : Below w15.heap.size w15 W) => BJ18.out.below hW (Nat.le_refl _))
        have BSW := Lib.hid (fun (W : World) (hW : Below w15.heap.size w15 W) => BS18.out.below hW (Nat.le_refl _))
        have SQW := Lib.hid (fun (W : World) (hW : Below w15.heap.size w15 W) => SQ18.out.below hW (Nat.le_refl _))
        clear hag
        go_wp2_with fail
        go_loopw [27] (fun s wr => ∃ i : Nat, i ≤ l5 ∧ s = .int .i64 i ∧ Below w15.heap.size w15 wr) (fun s _ => l5 - (intOf s).toNat)
        case atStart => exact ⟨0, by omega, rfl, Below.refl _ _⟩
        case round =>
          obtain ⟨i, hi, rfl, hd⟩ := hrel
          have hzz := hd.size
          have DD := Lib.hid hd
          clear hd
          by_cases hil : i < l5
          · have hil' : (i : Int) < (l5 : Int) := by omega
            have hii0 : (0 : Int) ≤ (i : Int) := by omega
            obtain ⟨b1, o1, rfl, hb1, hX1⟩ := (BJW.out _ DD.out) (by omega)
            obtain ⟨b2, o2, rfl, hb2, hX2⟩ := (BSW.out _ DD.out) (by omega)
            have x1 := (hX1 i hil).2
            have x2 := (hX2 i hil).2
            obtain ⟨ha1, ha2⟩ := HAG.out i hil
            have SQI := Lib.hid (SQW.out _ DD.out)
            obtain ⟨hb, hhb⟩ : ∃ b, rod.hasC C i n2 = b := ⟨_, rfl⟩
            rw [hhb] at ha1 ha2
            have HHB := Lib.hid hhb
            clear hX1 hX2 hhb
            cases hb
            · have hdec : decide (H i < G i) = false := decide_eq_false (by have := ha2 rfl; omega)
              clear ha1 ha2
              go_wp2_with fail
              go_quiet ((go_at_call 27; exact Calls.quiet_of_same (f6has_c Q n2 d2 C (i : Int) false _ (by omega) (Drew.sl ((Drew.refl _).drewN _) SQI.out) HHB.out)))
              have D2 := Lib.hid (drewN_below DD.out nq)
              go_wp2
              go_roundw
              case rel => exact ⟨i + 1, by omega, by go_num, D2.out⟩
              case measure => simp [intOf]; omega
            · have hH := ha1 rfl
              rw [hH] at x1
              clear ha1 ha2 hH
              cases hdec : decide (1 < G i)
              · go_wp2_with fail
                go_quiet ((go_at_call 27; exact Calls.quiet_of_same (f6has_c Q n2 d2 C (i : Int) true _ (by omega) (Drew.sl ((Drew.refl _).drewN _) SQI.out) HHB.out)))
                have D2 := Lib.hid (drewN_below DD.out nq)
                go_wp2
                go_roundw
                case rel => exact ⟨i + 1, by omega, by go_num, D2.out⟩
                case measure => simp [intOf]; omega
              · go_wp2_with fail
                go_quiet ((go_at_call 27; exact Calls.quiet_of_same (f6has_c Q n2 d2 C (i : Int) true _ (by omega) (Drew.sl ((Drew.refl _).drewN _) SQI.out) HHB.out)))
                have D2 := Lib.hid (drewN_below DD.out nq)
                go_wp2
                go_roundw
                case rel => exact ⟨i + 1, by omega, by go_num, D2.out⟩
                case measure => simp [intOf]; omega
          · obtain rfl : i = l5 := by omega
            have B16 := Lib.hid (BB18.out.trans (DD.out.mono BB18.out.size))
            go_wp2
            go_ret
            exact ⟨rfl, B16.out⟩
end Go.Proofs.Ytcpaenmhnoagdac.src
