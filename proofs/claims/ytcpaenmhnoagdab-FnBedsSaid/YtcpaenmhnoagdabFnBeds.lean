/-
  The walk of the law on beds: for every list of bytes the law gives true.
-/
import Derived.Test.YtcpaenmhnoagdabPackB
import Derived.Deep.Cut
namespace Go.Proofs.Ytcpaenmhnoagdab.src
open Go.ChangeShapes Go.WideShapes Go.ChangeAt Go.RowKit Go.Proofs.Ytcpaenmhnoagdab.mem
set_option linter.unusedVariables false

/-- a block holds a bed -/
def BedB (w : World) (g : Nat) (P : Option Addr) (m d : Nat) (a : Int) : Prop := w.heap[g]? = some (.cells #[.slice P m d, .int .i64 a] 65 (0, 0))
theorem BedB.below {w w' : World} {g m d K : Nat} {P : Option Addr} {a : Int} (h : BedB w g P m d a) (hb : Below K w w') (hK : w.heap.size ≤ K) : BedB w' g P m d a := (hb.block g (by have := (Array.getElem?_eq_some_iff.1 h).1; omega)).trans h
theorem BedB.c0 {w : World} {g m d : Nat} {P : Option Addr} {a : Int} (h : BedB w g P m d a) : w.cell? ⟨g, 0, none⟩ = some (.slice P m d) := by unfold BedB at h; simp [World.cell?, h]
theorem BedB.c1 {w : World} {g m d : Nat} {P : Option Addr} {a : Int} (h : BedB w g P m d a) : w.cell? ⟨g, 1, none⟩ = some (.int .i64 a) := by unfold BedB at h; simp [World.cell?, h]
def Bs (w : World) (A : Option Addr) (n : Nat) (M : Nat → Nat) (Y : Nat → Nat → Int) (G : Nat → Int) : Prop := rod.Beds w A n M Y G
theorem Bs.below {w w' : World} {A : Option Addr} {n K : Nat} {M : Nat → Nat} {Y : Nat → Nat → Int} {G : Nat → Int} (h : Bs w A n M Y G) (hb : Below K w w') (hK : w.heap.size ≤ K) : Bs w' A n M Y G := rod.Beds.below h (hb.mono hK)
theorem yieldNow_any (A : Option Addr) (m c : Nat) (Y : Nat → Int) (a : Int) (hm : m ≤ 6) : ∃ v code : Int, (∀ W, Sl W A m 1 Y → Calls Try.prog 68 #[.agg #[.slice A m c, .int .i64 a]] W fun e w' => e = .returned (.tuple #[.int .i64 v, .int .i64 code]) ∧ Below W.heap.size W w') ∧ (∀ W, Sl W A m 1 Y → Calls Try.prog 69 #[.agg #[.slice A m c, .int .i64 a]] W fun e w' => e = .returned (.tuple #[.int .i64 v, .int .i64 code]) ∧ Below W.heap.size W w') :=
  ⟨_, _, fun W hW => rod.yieldNow_i A m c Y a W (by unfold maxLen; omega) hW, fun W hW => rod.yieldNow_s A m c Y a W (by unfold maxLen; omega) hW⟩
theorem yieldNow_ok (A : Option Addr) (m c : Nat) (Y : Nat → Int) (a : Int) (h : rod.bedB m Y a = true) (W : World) (hW : Sl W A m 1 Y) : Calls Try.prog 68 #[.agg #[.slice A m c, .int .i64 a]] W fun e w' => e = .returned (.tuple #[.int .i64 (rod.yl m Y a), .int .i64 0]) ∧ Below W.heap.size W w' := by
  have := rod.yieldNow_i A m c Y a W (by have := (rod.bedB_of h).1; unfold maxLen; omega) hW
  rw [h] at this
  exact this
/-- a plan that is right yields no more than the best one -/
theorem best_of_plan (A : Option Addr) (m c : Nat) (Y : Nat → Int) (a : Int) (n N : Nat) (C : Nat → Int) (hb : rod.bedB m Y a = true) (hp : rod.planB n C (N : Int) = true) : ∃ (l : List Int) (v : Int), (rod.pls m Y a (orC C n) N).1 ≤ v ∧ ∀ W, Sl W A m 1 Y → Calls Try.prog 50 #[.agg #[.slice A m c, .int .i64 a], .int .i64 N] W (rod.BestSaid W l v 0) := by
  obtain ⟨⟨y1, y2⟩, hr⟩ := rod.planB_of hp
  obtain ⟨_, ⟨a0, a1⟩, _⟩ := rod.bedB_of hb
  obtain ⟨b, rfl⟩ : ∃ b : Nat, a = b := ⟨a.toNat, by omega⟩
  refine ⟨_, _, rod.best_ge (m := m) (Y := Y) (a := (b : Int)) (N := N) (by omega) (orC_lt fun i hi => ?_), fun W hW => rod.bestCuts_i A m c Y b N W (by omega) (by omega) hW hb⟩
  have := rod.risL_in hi hr
  omega
/-- the best plan is right and yields what is told -/
theorem plan_of_best (A : Option Addr) (m c : Nat) (Y : Nat → Int) (a : Int) (N B : Nat) (hb : rod.bedB m Y a = true) (h1 : 1 ≤ N) (h2 : N ≤ 12) (hB : B < 2 ^ N) (A2 : Option Addr) (c2 : Nat) (W : World) (hW : Sl W A m 1 Y) (hW2 : Sl W A2 (idxs B.testBit N).length 1 (fun j => (idxs B.testBit N).getD j 0)) :
    Calls Try.prog 64 #[.agg #[.slice A m c, .int .i64 a], .slice A2 (idxs B.testBit N).length c2, .int .i64 N] W fun e w' => e = .returned (.tuple #[.int .i64 (rod.pls m Y a B N).1, .int .i64 0]) ∧ Below W.heap.size W w' := by
  have hl := idxs_len B.testBit N
  have h := rod.yop_i A m c Y a A2 (idxs B.testBit N).length c2 _ N W (by have := (rod.bedB_of hb).1; unfold maxLen; omega) (by unfold maxLen; omega) hW hW2 hb (rod.plan_idxs h1 h2)
  rw [rod.orC_idxs hB] at h
  exact h

set_option maxHeartbeats 16000000 in
set_option maxRecDepth 100000 in
theorem beds_walk (A : Option Addr) (n c : Nat) (X : Nat → Int) (w : World) (hn : n ≤ 4096) (hX : Sb w A n X) :
    Calls Try.prog 14 #[.slice A n c] w fun e w' => e = .returned (.bool true) ∧ Below w.heap.size w w' := by
  have XX0 := Lib.hid hX
  have BB0 := Lib.hid (Below.refl w.heap.size w)
  clear hX
  go_enter Try.func14, Try.ntmps14
  go_wp2_with fail
  refine (rod.f6big_c A n c _ hn).mono ?_
  rintro e wq ⟨rfl, hwq⟩
  rw [hwq]
  clear hwq
  go_wp2_with fail
  refine (bedYears_c A n c X _ hn XX0.out).mono ?_
  rintro e w1 ⟨P, m, d, Y, a, y, rfl, y0, y1, hm, hmd, hdm, hrow, hb⟩
  have XX1 := Lib.hid (XX0.out.below hb (Nat.le_refl _))
  have BB1 := Lib.hid (BB0.out.trans (hb.mono BB0.out.size))
  have PP1 := Lib.hid (hrow.sl)
  clear hrow hb
  obtain ⟨l, v, code, hl12, hcase, hI, hS⟩ := rod.bestCuts_any P m d Y a y hm
  have CASE := Lib.hid hcase
  have HI := Lib.hid hI
  have HS := Lib.hid hS
  clear hcase hI hS
  obtain ⟨v1, hv1⟩ : ∃ W, W = w1.alloc (.cells #[.slice P m d, .int .i64 a] 65) := ⟨_, rfl⟩
  have hb : Below w1.heap.size w1 v1 := by rw [hv1]; go_grown
  have hq : BedB v1 w1.heap.size P m d a := by rw [hv1]; exact Go.Deep.blk_alloc_new _ _
  have XX2 := Lib.hid (XX1.out.below hb (Nat.le_refl _))
  have PP2 := Lib.hid (PP1.out.below hb (Nat.le_refl _))
  have BB2 := Lib.hid (BB1.out.trans (hb.mono BB1.out.size))
  have QA2 := Lib.hid (hq)
  clear hb hq
  go_wp2_with fail
  rw [← hv1]
  clear hv1
  refine (HI.out _ PP2.out).mono ?_
  rintro e w2 ⟨A5, c5, rfl, _, _, hr, hb⟩
  have XX3 := Lib.hid (XX2.out.below hb (Nat.le_refl _))
  have PP3 := Lib.hid (PP2.out.below hb (Nat.le_refl _))
  have QA3 := Lib.hid (QA2.out.below hb (Nat.le_refl _))
  have BB3 := Lib.hid (BB2.out.trans (hb.mono BB2.out.size))
  have LA3 := Lib.hid (hr.sl)
  clear hr hb
  have c0 := QA3.out.c0
  have c1 := QA3.out.c1
  go_wp2_with fail
  refine (HS.out _ PP3.out).mono ?_
  rintro e w3 ⟨A6, c6, rfl, _, _, hr, hb⟩
  clear c0 c1
  have XX4 := Lib.hid (XX3.out.below hb (Nat.le_refl _))
  have PP4 := Lib.hid (PP3.out.below hb (Nat.le_refl _))
  have QA4 := Lib.hid (QA3.out.below hb (Nat.le_refl _))
  have LA4 := Lib.hid (LA3.out.below hb (Nat.le_refl _))
  have BB4 := Lib.hid (BB3.out.trans (hb.mono BB3.out.size))
  have LB4 := Lib.hid (hr.sl)
  clear hr hb
  go_wp2_with fail
  refine (bedPlan_c A n c X _ hn XX4.out).mono ?_
  rintro e w4 ⟨P', m', d', Y', a', Q, l2, d2, C, y', rfl, y0', y1', hl15, hld, hdm2, hQ, hm', hmd', hdm', hrow, hb⟩
  have XX5 := Lib.hid (XX4.out.below hb (Nat.le_refl _))
  have PP5 := Lib.hid (PP4.out.below hb (Nat.le_refl _))
  have QA5 := Lib.hid (QA4.out.below hb (Nat.le_refl _))
  have LA5 := Lib.hid (LA4.out.below hb (Nat.le_refl _))
  have LB5 := Lib.hid (LB4.out.below hb (Nat.le_refl _))
  have BB5 := Lib.hid (BB4.out.trans (hb.mono BB4.out.size))
  have PR5 := Lib.hid (hrow.sl)
  have PQ5 := Lib.hid (hQ.sl)
  clear hrow hQ hb
  obtain ⟨v2, code2, hcase, hI, hS⟩ := rod.yop_any P' m' d' Y' a' y' Q l2 d2 C hm' hl15
  have CASE2 := Lib.hid hcase
  have HI2 := Lib.hid hI
  have HS2 := Lib.hid hS
  clear hcase hI hS
  obtain ⟨v4, hv4⟩ : ∃ W, W = w4.alloc (.cells #[.slice P' m' d', .int .i64 a'] 65) := ⟨_, rfl⟩
  have hb : Below w4.heap.size w4 v4 := by rw [hv4]; go_grown
  have hq : BedB v4 w4.heap.size P' m' d' a' := by rw [hv4]; exact Go.Deep.blk_alloc_new _ _
  have XX6 := Lib.hid (XX5.out.below hb (Nat.le_refl _))
  have PP6 := Lib.hid (PP5.out.below hb (Nat.le_refl _))
  have QA6 := Lib.hid (QA5.out.below hb (Nat.le_refl _))
  have LA6 := Lib.hid (LA5.out.below hb (Nat.le_refl _))
  have LB6 := Lib.hid (LB5.out.below hb (Nat.le_refl _))
  have PR6 := Lib.hid (PR5.out.below hb (Nat.le_refl _))
  have PQ6 := Lib.hid (PQ5.out.below hb (Nat.le_refl _))
  have BB6 := Lib.hid (BB5.out.trans (hb.mono BB5.out.size))
  have QB6 := Lib.hid (hq)
  clear hb hq
  go_wp2_with fail
  rw [← hv4]
  clear hv4
  refine (HI2.out _ PR6.out PQ6.out).mono ?_
  rintro e w5 ⟨rfl, hb⟩
  have XX7 := Lib.hid (XX6.out.below hb (Nat.le_refl _))
  have PP7 := Lib.hid (PP6.out.below hb (Nat.le_refl _))
  have QA7 := Lib.hid (QA6.out.below hb (Nat.le_refl _))
  have LA7 := Lib.hid (LA6.out.below hb (Nat.le_refl _))
  have LB7 := Lib.hid (LB6.out.below hb (Nat.le_refl _))
  have PR7 := Lib.hid (PR6.out.below hb (Nat.le_refl _))
  have PQ7 := Lib.hid (PQ6.out.below hb (Nat.le_refl _))
  have QB7 := Lib.hid (QB6.out.below hb (Nat.le_refl _))
  have BB7 := Lib.hid (BB6.out.trans (hb.mono BB6.out.size))
  clear hb
  have c0 := QB7.out.c0
  have c1 := QB7.out.c1
  go_wp2_with fail
  refine (HS2.out _ PR7.out PQ7.out).mono ?_
  rintro e w6 ⟨rfl, hb⟩
  clear c0 c1
  have XX8 := Lib.hid (XX7.out.below hb (Nat.le_refl _))
  have PP8 := Lib.hid (PP7.out.below hb (Nat.le_refl _))
  have QA8 := Lib.hid (QA7.out.below hb (Nat.le_refl _))
  have LA8 := Lib.hid (LA7.out.below hb (Nat.le_refl _))
  have LB8 := Lib.hid (LB7.out.below hb (Nat.le_refl _))
  have PR8 := Lib.hid (PR7.out.below hb (Nat.le_refl _))
  have PQ8 := Lib.hid (PQ7.out.below hb (Nat.le_refl _))
  have QB8 := Lib.hid (QB7.out.below hb (Nat.le_refl _))
  have BB8 := Lib.hid (BB7.out.trans (hb.mono BB7.out.size))
  clear hb
  go_wp2_with fail
  refine (bedsNeed_c A n c X _ hn XX8.out).mono ?_
  rintro e w7 ⟨P3, l3, d3, M, Y3, G, need, rfl, need0, need1, hl9, hld3, hdm3, hM, hrow, hb⟩
  have XX9 := Lib.hid (XX8.out.below hb (Nat.le_refl _))
  have PP9 := Lib.hid (PP8.out.below hb (Nat.le_refl _))
  have QA9 := Lib.hid (QA8.out.below hb (Nat.le_refl _))
  have LA9 := Lib.hid (LA8.out.below hb (Nat.le_refl _))
  have LB9 := Lib.hid (LB8.out.below hb (Nat.le_refl _))
  have PR9 := Lib.hid (PR8.out.below hb (Nat.le_refl _))
  have PQ9 := Lib.hid (PQ8.out.below hb (Nat.le_refl _))
  have QB9 := Lib.hid (QB8.out.below hb (Nat.le_refl _))
  have BB9 := Lib.hid (BB8.out.trans (hb.mono BB8.out.size))
  have BS9 := Lib.hid ((show Bs _ _ _ _ _ _ from hrow.beds))
  clear hrow hb
  obtain ⟨l4, code4, hl49, hcase, hI, hS⟩ := rod.cutFor_any P3 l3 d3 M Y3 G need hl9 hM
  have CASE4 := Lib.hid hcase
  have HI4 := Lib.hid hI
  have HS4 := Lib.hid hS
  have HM := Lib.hid (fun j (hj : j < l3) => (show M j ≤ maxLen from by have := hM j hj; unfold maxLen; omega))
  clear hcase hI hS hM
  go_wp2_with fail
  refine (HI4.out _ BS9.out).mono ?_
  rintro e w8 ⟨A8, c8, rfl, _, _, hr, hb⟩
  have XX10 := Lib.hid (XX9.out.below hb (Nat.le_refl _))
  have PP10 := Lib.hid (PP9.out.below hb (Nat.le_refl _))
  have QA10 := Lib.hid (QA9.out.below hb (Nat.le_refl _))
  have LA10 := Lib.hid (LA9.out.below hb (Nat.le_refl _))
  have LB10 := Lib.hid (LB9.out.below hb (Nat.le_refl _))
  have PR10 := Lib.hid (PR9.out.below hb (Nat.le_refl _))
  have PQ10 := Lib.hid (PQ9.out.below hb (Nat.le_refl _))
  have QB10 := Lib.hid (QB9.out.below hb (Nat.le_refl _))
  have BS10 := Lib.hid (BS9.out.below hb (Nat.le_refl _))
  have BB10 := Lib.hid (BB9.out.trans (hb.mono BB9.out.size))
  have LC10 := Lib.hid (hr.sl)
  clear hr hb
  go_wp2_with fail
  refine (HS4.out _ BS10.out).mono ?_
  rintro e w9 ⟨A9, c9, rfl, _, _, hr, hb⟩
  have XX11 := Lib.hid (XX10.out.below hb (Nat.le_refl _))
  have PP11 := Lib.hid (PP10.out.below hb (Nat.le_refl _))
  have QA11 := Lib.hid (QA10.out.below hb (Nat.le_refl _))
  have LA11 := Lib.hid (LA10.out.below hb (Nat.le_refl _))
  have LB11 := Lib.hid (LB10.out.below hb (Nat.le_refl _))
  have PR11 := Lib.hid (PR10.out.below hb (Nat.le_refl _))
  have PQ11 := Lib.hid (PQ10.out.below hb (Nat.le_refl _))
  have QB11 := Lib.hid (QB10.out.below hb (Nat.le_refl _))
  have BS11 := Lib.hid (BS10.out.below hb (Nat.le_refl _))
  have LC11 := Lib.hid (LC10.out.below hb (Nat.le_refl _))
  have BB11 := Lib.hid (BB10.out.trans (hb.mono BB10.out.size))
  have LD11 := Lib.hid (hr.sl)
  clear hr hb
  go_wp2_with fail
  refine (bedNow_c A n c X _ hn XX11.out).mono ?_
  rintro e w10 ⟨P5, m5, d5, Y5, a5, rfl, hm5, hmd5, hdm5, hrow, hb⟩
  have XX12 := Lib.hid (XX11.out.below hb (Nat.le_refl _))
  have PP12 := Lib.hid (PP11.out.below hb (Nat.le_refl _))
  have QA12 := Lib.hid (QA11.out.below hb (Nat.le_refl _))
  have LA12 := Lib.hid (LA11.out.below hb (Nat.le_refl _))
  have LB12 := Lib.hid (LB11.out.below hb (Nat.le_refl _))
  have PR12 := Lib.hid (PR11.out.below hb (Nat.le_refl _))
  have PQ12 := Lib.hid (PQ11.out.below hb (Nat.le_refl _))
  have QB12 := Lib.hid (QB11.out.below hb (Nat.le_refl _))
  have BS12 := Lib.hid (BS11.out.below hb (Nat.le_refl _))
  have LC12 := Lib.hid (LC11.out.below hb (Nat.le_refl _))
  have LD12 := Lib.hid (LD11.out.below hb (Nat.le_refl _))
  have BB12 := Lib.hid (BB11.out.trans (hb.mono BB11.out.size))
  have PS12 := Lib.hid (hrow.sl)
  clear hrow hb
  obtain ⟨v5, code5, hI, hS⟩ := yieldNow_any P5 m5 d5 Y5 a5 hm5
  have HI5 := Lib.hid hI
  have HS5 := Lib.hid hS
  clear hI hS
  obtain ⟨v10, hv10⟩ : ∃ W, W = w10.alloc (.cells #[.slice P5 m5 d5, .int .i64 a5] 65) := ⟨_, rfl⟩
  have hb : Below w10.heap.size w10 v10 := by rw [hv10]; go_grown
  have hq : BedB v10 w10.heap.size P5 m5 d5 a5 := by rw [hv10]; exact Go.Deep.blk_alloc_new _ _
  have XX13 := Lib.hid (XX12.out.below hb (Nat.le_refl _))
  have PP13 := Lib.hid (PP12.out.below hb (Nat.le_refl _))
  have QA13 := Lib.hid (QA12.out.below hb (Nat.le_refl _))
  have LA13 := Lib.hid (LA12.out.below hb (Nat.le_refl _))
  have LB13 := Lib.hid (LB12.out.below hb (Nat.le_refl _))
  have PR13 := Lib.hid (PR12.out.below hb (Nat.le_refl _))
  have PQ13 := Lib.hid (PQ12.out.below hb (Nat.le_refl _))
  have QB13 := Lib.hid (QB12.out.below hb (Nat.le_refl _))
  have BS13 := Lib.hid (BS12.out.below hb (Nat.le_refl _))
  have LC13 := Lib.hid (LC12.out.below hb (Nat.le_refl _))
  have LD13 := Lib.hid (LD12.out.below hb (Nat.le_refl _))
  have PS13 := Lib.hid (PS12.out.below hb (Nat.le_refl _))
  have BB13 := Lib.hid (BB12.out.trans (hb.mono BB12.out.size))
  have QC13 := Lib.hid (hq)
  clear hb hq
  go_wp2_with fail
  rw [← hv10]
  clear hv10
  refine (HI5.out _ PS13.out).mono ?_
  rintro e w11 ⟨rfl, hb⟩
  have XX14 := Lib.hid (XX13.out.below hb (Nat.le_refl _))
  have PP14 := Lib.hid (PP13.out.below hb (Nat.le_refl _))
  have QA14 := Lib.hid (QA13.out.below hb (Nat.le_refl _))
  have LA14 := Lib.hid (LA13.out.below hb (Nat.le_refl _))
  have LB14 := Lib.hid (LB13.out.below hb (Nat.le_refl _))
  have PR14 := Lib.hid (PR13.out.below hb (Nat.le_refl _))
  have PQ14 := Lib.hid (PQ13.out.below hb (Nat.le_refl _))
  have QB14 := Lib.hid (QB13.out.below hb (Nat.le_refl _))
  have BS14 := Lib.hid (BS13.out.below hb (Nat.le_refl _))
  have LC14 := Lib.hid (LC13.out.below hb (Nat.le_refl _))
  have LD14 := Lib.hid (LD13.out.below hb (Nat.le_refl _))
  have PS14 := Lib.hid (PS13.out.below hb (Nat.le_refl _))
  have QC14 := Lib.hid (QC13.out.below hb (Nat.le_refl _))
  have BB14 := Lib.hid (BB13.out.trans (hb.mono BB13.out.size))
  clear hb
  have c0 := QC14.out.c0
  have c1 := QC14.out.c1
  go_wp2_with fail
  refine (HS5.out _ PS14.out).mono ?_
  rintro e w12 ⟨rfl, hb⟩
  clear c0 c1
  have XX15 := Lib.hid (XX14.out.below hb (Nat.le_refl _))
  have PP15 := Lib.hid (PP14.out.below hb (Nat.le_refl _))
  have QA15 := Lib.hid (QA14.out.below hb (Nat.le_refl _))
  have LA15 := Lib.hid (LA14.out.below hb (Nat.le_refl _))
  have LB15 := Lib.hid (LB14.out.below hb (Nat.le_refl _))
  have PR15 := Lib.hid (PR14.out.below hb (Nat.le_refl _))
  have PQ15 := Lib.hid (PQ14.out.below hb (Nat.le_refl _))
  have QB15 := Lib.hid (QB14.out.below hb (Nat.le_refl _))
  have BS15 := Lib.hid (BS14.out.below hb (Nat.le_refl _))
  have LC15 := Lib.hid (LC14.out.below hb (Nat.le_refl _))
  have LD15 := Lib.hid (LD14.out.below hb (Nat.le_refl _))
  have PS15 := Lib.hid (PS14.out.below hb (Nat.le_refl _))
  have QC15 := Lib.hid (QC14.out.below hb (Nat.le_refl _))
  have BB15 := Lib.hid (BB14.out.trans (hb.mono BB14.out.size))
  clear hb
  go_wp2_with fail
  refine (rod.f6ints_c A5 A6 l.length c5 c6 _ _ (by omega) LA15.out LB15.out).mono ?_
  rintro e w13 ⟨rfl, hb⟩
  have XX16 := Lib.hid (XX15.out.below hb (Nat.le_refl _))
  have PP16 := Lib.hid (PP15.out.below hb (Nat.le_refl _))
  have QA16 := Lib.hid (QA15.out.below hb (Nat.le_refl _))
  have LA16 := Lib.hid (LA15.out.below hb (Nat.le_refl _))
  have LB16 := Lib.hid (LB15.out.below hb (Nat.le_refl _))
  have PR16 := Lib.hid (PR15.out.below hb (Nat.le_refl _))
  have PQ16 := Lib.hid (PQ15.out.below hb (Nat.le_refl _))
  have QB16 := Lib.hid (QB15.out.below hb (Nat.le_refl _))
  have BS16 := Lib.hid (BS15.out.below hb (Nat.le_refl _))
  have LC16 := Lib.hid (LC15.out.below hb (Nat.le_refl _))
  have LD16 := Lib.hid (LD15.out.below hb (Nat.le_refl _))
  have PS16 := Lib.hid (PS15.out.below hb (Nat.le_refl _))
  have QC16 := Lib.hid (QC15.out.below hb (Nat.le_refl _))
  have BB16 := Lib.hid (BB15.out.trans (hb.mono BB15.out.size))
  clear hb
  go_wp2_with fail
  refine (rod.f6ints_c A8 A9 l4.length c8 c9 _ _ (by omega) LC16.out LD16.out).mono ?_
  rintro e w14 ⟨rfl, hb⟩
  have XX17 := Lib.hid (XX16.out.below hb (Nat.le_refl _))
  have PP17 := Lib.hid (PP16.out.below hb (Nat.le_refl _))
  have QA17 := Lib.hid (QA16.out.below hb (Nat.le_refl _))
  have LA17 := Lib.hid (LA16.out.below hb (Nat.le_refl _))
  have LB17 := Lib.hid (LB16.out.below hb (Nat.le_refl _))
  have PR17 := Lib.hid (PR16.out.below hb (Nat.le_refl _))
  have PQ17 := Lib.hid (PQ16.out.below hb (Nat.le_refl _))
  have QB17 := Lib.hid (QB16.out.below hb (Nat.le_refl _))
  have BS17 := Lib.hid (BS16.out.below hb (Nat.le_refl _))
  have LC17 := Lib.hid (LC16.out.below hb (Nat.le_refl _))
  have LD17 := Lib.hid (LD16.out.below hb (Nat.le_refl _))
  have PS17 := Lib.hid (PS16.out.below hb (Nat.le_refl _))
  have QC17 := Lib.hid (QC16.out.below hb (Nat.le_refl _))
  have BB17 := Lib.hid (BB16.out.trans (hb.mono BB16.out.size))
  clear hb
  obtain ⟨vb, hvb⟩ : ∃ b, rod.bedsB l3 M Y3 G = b := ⟨_, rfl⟩
  have HVB := Lib.hid hvb
  go_wp2_with fail
  refine (rod.validBeds_i P3 l3 d3 M Y3 G _ (by unfold maxLen; omega) HM.out BS17.out).mono ?_
  rintro e w15 ⟨rfl, hb⟩
  rw [hvb]
  have XX18 := Lib.hid (XX17.out.below hb (Nat.le_refl _))
  have PP18 := Lib.hid (PP17.out.below hb (Nat.le_refl _))
  have QA18 := Lib.hid (QA17.out.below hb (Nat.le_refl _))
  have LA18 := Lib.hid (LA17.out.below hb (Nat.le_refl _))
  have LB18 := Lib.hid (LB17.out.below hb (Nat.le_refl _))
  have PR18 := Lib.hid (PR17.out.below hb (Nat.le_refl _))
  have PQ18 := Lib.hid (PQ17.out.below hb (Nat.le_refl _))
  have QB18 := Lib.hid (QB17.out.below hb (Nat.le_refl _))
  have BS18 := Lib.hid (BS17.out.below hb (Nat.le_refl _))
  have LC18 := Lib.hid (LC17.out.below hb (Nat.le_refl _))
  have LD18 := Lib.hid (LD17.out.below hb (Nat.le_refl _))
  have PS18 := Lib.hid (PS17.out.below hb (Nat.le_refl _))
  have QC18 := Lib.hid (QC17.out.below hb (Nat.le_refl _))
  have BB18 := Lib.hid (BB17.out.trans (hb.mono BB17.out.size))
  clear hb
  go_wp2_with fail
  refine (rod.validBeds_s P3 l3 d3 M Y3 G _ (by unfold maxLen; omega) HM.out BS18.out).mono ?_
  rintro e w16 ⟨rfl, hb⟩
  rw [hvb]
  have XX19 := Lib.hid (XX18.out.below hb (Nat.le_refl _))
  have PP19 := Lib.hid (PP18.out.below hb (Nat.le_refl _))
  have QA19 := Lib.hid (QA18.out.below hb (Nat.le_refl _))
  have LA19 := Lib.hid (LA18.out.below hb (Nat.le_refl _))
  have LB19 := Lib.hid (LB18.out.below hb (Nat.le_refl _))
  have PR19 := Lib.hid (PR18.out.below hb (Nat.le_refl _))
  have PQ19 := Lib.hid (PQ18.out.below hb (Nat.le_refl _))
  have QB19 := Lib.hid (QB18.out.below hb (Nat.le_refl _))
  have BS19 := Lib.hid (BS18.out.below hb (Nat.le_refl _))
  have LC19 := Lib.hid (LC18.out.below hb (Nat.le_refl _))
  have LD19 := Lib.hid (LD18.out.below hb (Nat.le_refl _))
  have PS19 := Lib.hid (PS18.out.below hb (Nat.le_refl _))
  have QC19 := Lib.hid (QC18.out.below hb (Nat.le_refl _))
  have BB19 := Lib.hid (BB18.out.trans (hb.mono BB18.out.size))
  clear hb hvb
  go_upto_if 161 with fail
  go_cut [] from 38 (fun wx => Below w16.heap.size w16 wx)
  case first =>
    as_aux_lemma =>
    rcases CASE2.out with h0 | h0 | ⟨h0, hbd, N, hyN, hp, hv⟩
    · have e0 : (code2 == 0) = false := by rw [h0]; rfl
      have HZ := Lib.hid h0
      clear h0
      go_wp2_with fail
      go_meet
      case rel => exact Below.refl _ _
    · have e0 : (code2 == 0) = false := by rw [h0]; rfl
      have HZ := Lib.hid h0
      clear h0
      go_wp2_with fail
      go_meet
      case rel => exact Below.refl _ _
    · subst h0
      subst hyN
      obtain ⟨lb, vb2, hle, hcall⟩ := best_of_plan P' m' d' Y' a' l2 N C hbd hp
      rw [← hv] at hle
      have hlt : decide (vb2 < v2) = false := decide_eq_false (by omega)
      have HC := Lib.hid hcall
      have c0 := QB19.out.c0
      have c1 := QB19.out.c1
      clear hcall hv hle hbd hp
      go_wp2_with fail
      refine (HC.out _ PR19.out).mono ?_
      rintro e w17 ⟨A7, c7, rfl, _, _, _, hb⟩
      have HB17 := Lib.hid hb
      clear c0 c1 hb
      go_wp2_with fail
      go_meet
      case rel => exact HB17.out
  case rest =>
    rename World => w17
    have hb := hcut
    have XX20 := Lib.hid (XX19.out.below hb (Nat.le_refl _))
    have PP20 := Lib.hid (PP19.out.below hb (Nat.le_refl _))
    have QA20 := Lib.hid (QA19.out.below hb (Nat.le_refl _))
    have LA20 := Lib.hid (LA19.out.below hb (Nat.le_refl _))
    have LB20 := Lib.hid (LB19.out.below hb (Nat.le_refl _))
    have PR20 := Lib.hid (PR19.out.below hb (Nat.le_refl _))
    have PQ20 := Lib.hid (PQ19.out.below hb (Nat.le_refl _))
    have QB20 := Lib.hid (QB19.out.below hb (Nat.le_refl _))
    have BS20 := Lib.hid (BS19.out.below hb (Nat.le_refl _))
    have LC20 := Lib.hid (LC19.out.below hb (Nat.le_refl _))
    have LD20 := Lib.hid (LD19.out.below hb (Nat.le_refl _))
    have PS20 := Lib.hid (PS19.out.below hb (Nat.le_refl _))
    have QC20 := Lib.hid (QC19.out.below hb (Nat.le_refl _))
    have BB20 := Lib.hid (BB19.out.trans (hb.mono BB19.out.size))
    clear hb hcut
    go_upto_if 177 with fail
    go_cut [] from 38 (fun wx => Below w17.heap.size w17 wx)
    case first =>
      as_aux_lemma =>
      rcases CASE4.out with h0 | ⟨h0, hbd, B, hl, hd⟩
      · have e0 : (code4 == 0) = false := by simpa using h0
        have HZ := Lib.hid h0
        clear h0
        go_wp2_with fail
        go_meet
        case rel => exact Below.refl _ _
      · subst h0
        subst hl
        have hall := (rod.bedsB_of hbd).2
        have hfb : ∀ i, i < (idxs B.testBit l3).length → 0 ≤ rod.yl (M ((idxs B.testBit l3).getD i 0).toNat) (Y3 ((idxs B.testBit l3).getD i 0).toNat) (G ((idxs B.testBit l3).getD i 0).toNat) ∧ rod.yl (M ((idxs B.testBit l3).getD i 0).toNat) (Y3 ((idxs B.testBit l3).getD i 0).toNat) (G ((idxs B.testBit l3).getD i 0).toNat) ≤ 10000 := fun i hi => by
          have h1 := rod.idxs_at (p := B.testBit) l3 i hi
          obtain ⟨⟨m1, m5⟩, ⟨a0, a1⟩, hy⟩ := rod.bedB_of (hall ((idxs B.testBit l3).getD i 0).toNat (by omega))
          exact rod.yl_bd m1 hy a0
        have hsum := rod.fsum_idxs (M := M) (Y := Y3) (G := G) (B := B) l3
        have HALL := Lib.hid hall
        have FB := Lib.hid (rod.fsum_bd (l := idxs B.testBit l3) (f := fun k => rod.yl (M k) (Y3 k) (G k)) hfb)
        have FI := Lib.hid hfb
        have AT := Lib.hid (fun i (hi : i < (idxs B.testBit l3).length) => rod.idxs_at (p := B.testBit) l3 i hi)
        have HD := Lib.hid (show need ≤ rod.fsum (idxs B.testBit l3) (fun k => rod.yl (M k) (Y3 k) (G k)) (idxs B.testBit l3).length from by rw [hsum]; exact hd)
        obtain ⟨fs, hfs⟩ : ∃ f, f = rod.fsum (idxs B.testBit l3) (fun k => rod.yl (M k) (Y3 k) (G k)) := ⟨_, rfl⟩
        have HFS := Lib.hid (fun i => (show fs (i + 1) = fs i + rod.yl (M ((idxs B.testBit l3).getD i 0).toNat) (Y3 ((idxs B.testBit l3).getD i 0).toNat) (G ((idxs B.testBit l3).getD i 0).toNat) from by rw [hfs]; rfl))
        have hf0 : fs 0 = 0 := by rw [hfs]; rfl
        rw [← hfs] at FB HD
        clear hall hfb hsum hd hbd hfs
        go_wp2_with fail
        go_loopw [33, 32] (fun s t wr => ∃ i : Nat, i ≤ (idxs B.testBit l3).length ∧ s = .int .i64 i ∧ t = .int .i64 (fs i) ∧ Below w17.heap.size w17 wr) (fun s _ _ => (idxs B.testBit l3).length - (intOf s).toNat)
        case atStart => exact ⟨0, by omega, rfl, by rw [hf0], Below.refl _ _⟩
        case round =>
          obtain ⟨i, hi, rfl, rfl, hd⟩ := hrel
          have hzz := hd.size
          have DD := Lib.hid hd
          clear hd
          have hfi := FB.out i hi
          by_cases hil : i < (idxs B.testBit l3).length
          · have hil' : (i : Int) < ((idxs B.testBit l3).length : Int) := by omega
            have hii0 : (0 : Int) ≤ (i : Int) := by omega
            have hstep := HFS.out i
            have hyb := FI.out i hil
            have hat := AT.out i hil
            obtain ⟨bl, ol, eL, hbl, hL⟩ := (LD20.out.below DD.out (Nat.le_refl _)) (by omega)
            obtain ⟨x, hx⟩ : ∃ x : Nat, (idxs B.testBit l3).getD i 0 = x := ⟨((idxs B.testBit l3).getD i 0).toNat, by omega⟩
            have p0 := hL i (by omega)
            simp only at p0
            rw [hx] at p0 hstep hyb hat
            simp only [Int.toNat_natCast] at hstep hyb
            have hxl : x < l3 := by omega
            have hxli : (x : Int) < (l3 : Int) := by omega
            have hx0 : (0 : Int) ≤ (x : Int) := by omega
            have hbx := HALL.out x hxl
            obtain ⟨bb, ob, eB, hbb, hBB⟩ := (BS20.out.below DD.out (Nat.le_refl _)) (by omega)
            obtain ⟨⟨Ax, cx, q0, hsx⟩, q1⟩ := hBB x hxl
            have SX := Lib.hid hsx
            have HBX := Lib.hid hbx
            have HST := Lib.hid hstep
            subst eL eB
            clear hL hBB hsx hbx hstep hx hat
            obtain ⟨yv, hyv⟩ : ∃ z, rod.yl (M x) (Y3 x) (G x) = z := ⟨_, rfl⟩
            have HYV := Lib.hid hyv
            rw [hyv] at hyb
            obtain ⟨hyb0, hyb1⟩ := hyb
            obtain ⟨hfi0, hfi1⟩ := hfi
            clear hyv
            go_wp2_with fail
            refine (yieldNow_ok Ax (M x) cx (Y3 x) (G x) HBX.out _ SX.out).mono ?_
            rintro e w18 ⟨rfl, hb18⟩
            rw [HYV.out]
            have D18 := Lib.hid (DD.out.trans (hb18.mono hzz))
            have HN := Lib.hid (show fs (i + 1) = fs i + yv from by rw [HST.out, HYV.out])
            clear hb18
            go_wp2
            go_roundw
            case rel => exact ⟨i + 1, by omega, by go_num, by rw [HN.out], D18.out⟩
            case measure => simp [intOf]; omega
          · obtain rfl : i = (idxs B.testBit l3).length := by omega
            have hdn : decide (fs (idxs B.testBit l3).length < need) = false := decide_eq_false (by have := HD.out; omega)
            go_wp2_with fail
            go_meet
            case rel => exact DD.out
    case rest =>
      rename World => w18
      have hb := hcut
      have XX21 := Lib.hid (XX20.out.below hb (Nat.le_refl _))
      have PP21 := Lib.hid (PP20.out.below hb (Nat.le_refl _))
      have QA21 := Lib.hid (QA20.out.below hb (Nat.le_refl _))
      have LA21 := Lib.hid (LA20.out.below hb (Nat.le_refl _))
      have LB21 := Lib.hid (LB20.out.below hb (Nat.le_refl _))
      have PR21 := Lib.hid (PR20.out.below hb (Nat.le_refl _))
      have PQ21 := Lib.hid (PQ20.out.below hb (Nat.le_refl _))
      have QB21 := Lib.hid (QB20.out.below hb (Nat.le_refl _))
      have BS21 := Lib.hid (BS20.out.below hb (Nat.le_refl _))
      have LC21 := Lib.hid (LC20.out.below hb (Nat.le_refl _))
      have LD21 := Lib.hid (LD20.out.below hb (Nat.le_refl _))
      have PS21 := Lib.hid (PS20.out.below hb (Nat.le_refl _))
      have QC21 := Lib.hid (QC20.out.below hb (Nat.le_refl _))
      have BB21 := Lib.hid (BB20.out.trans (hb.mono BB20.out.size))
      clear hb hcut
      rcases CASE.out with h0 | h0 | ⟨h0, hbd, N, hyN, N1, N12, B, hBN, hl, hv, _⟩
      · have e0 : (code != 0) = true := by rw [h0]; rfl
        have HZ := Lib.hid h0
        clear h0
        go_wp2
        go_ret
        exact ⟨rfl, BB21.out⟩
      · have e0 : (code != 0) = true := by rw [h0]; rfl
        have HZ := Lib.hid h0
        clear h0
        go_wp2
        go_ret
        exact ⟨rfl, BB21.out⟩
      · subst h0
        subst hyN
        subst hl
        have c0 := QA21.out.c0
        have c1 := QA21.out.c1
        have HPB := Lib.hid (plan_of_best P m d Y a N B hbd N1 N12 hBN A5 c5 w18 PP21.out LA21.out)
        rw [← hv] at HPB
        clear hbd hv
        go_wp2_with fail
        refine HPB.out.mono ?_
        rintro e w19 ⟨rfl, hb⟩
        have B19 := Lib.hid (BB21.out.trans (hb.mono BB21.out.size))
        clear hb c0 c1
        go_wp2
        go_ret
        exact ⟨rfl, B19.out⟩
end Go.Proofs.Ytcpaenmhnoagdab.src
