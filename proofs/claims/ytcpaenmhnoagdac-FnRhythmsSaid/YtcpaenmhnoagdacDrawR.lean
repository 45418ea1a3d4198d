/-
  What the law on rhythms draws: a bed; beds and numbers; beds and years.
-/
import Derived.Test.YtcpaenmhnoagdacDrawF
namespace Go.Proofs.Ytcpaenmhnoagdac.src
open Go.ChangeShapes Go.WideShapes Go.ChangeAt Go.RowKit Go.Proofs.Ytcpaenmhnoagdac.mem
set_option linter.unusedVariables false

set_option maxHeartbeats 4000000 in
set_option maxRecDepth 100000 in
theorem bedRhythm_c (A : Option Addr) (n c : Nat) (X : Nat → Int) (w : World) (hn : n ≤ 4096) (hx : Sb w A n X) :
    Calls Try.prog 14 #[.slice A n c] w fun e w' => ∃ (P : Option Addr) (m d : Nat) (Y : Nat → Int) (a : Int), e = .returned (.agg #[.slice P m d, .int .i64 a]) ∧ BedOf w w' P m d Y := by
  have HX := Lib.hid hx
  have HA := Lib.hid (hx.low (Nat.le_succ w.heap.size))
  obtain ⟨W0, hW0⟩ : ∃ W, W = w.alloc (.cells #[.slice none 0 0, .int .i64 0] 26) := ⟨_, rfl⟩
  have b0 : Below w.heap.size w W0 := by rw [hW0]; go_grown
  have r0 : W0.heap[w.heap.size]? = some (.cells #[.slice none 0 0, .int .i64 0] 26 (0, 0)) := by rw [hW0]; exact Go.Deep.blk_alloc_new _ _
  have z0 : W0.heap.size = w.heap.size + 1 := by rw [hW0]; simp
  have HF := Lib.hid (from_c A n c W0)
  clear hx
  go_enter Try.func14, Try.ntmps14
  go_wp2_with fail
  rw [← hW0]
  clear hW0
  refine HF.out.mono ?_
  rintro e w1 ⟨rfl, s1, hb1⟩
  rw [z0] at s1 hb1 ⊢
  have B1 := Lib.hid (b0.trans (hb1.mono (by omega)))
  have R1 := Lib.hid ((hb1.block w.heap.size (by omega)).trans r0)
  have z1 := s1.lt
  have S1 := Lib.hid s1
  clear s1 hb1 r0 b0 HF
  go_wp2_with fail
  refine (anyBed_c (w.heap.size + 1) A n c X 0 w1 hn (by omega) HA.out S1.out (HX.out.below B1.out (Nat.le_refl _))).mono ?_
  rintro e w2 ⟨P, m, d, Y, a, rfl, hm, hmd, hdm, hrow, s2, hk2⟩
  have z2 := hk2.size
  have q2 := (hk2.block w.heap.size (by omega) (by omega)).trans R1.out
  obtain ⟨c0, c1, f0, f1⟩ := res_bed q2
  have R2 := Lib.hid q2
  have B2 := Lib.hid (B1.out.trans ((hk2.mono (M := w.heap.size) (by omega)).below (by omega)))
  have W2 := Lib.hid (hrow.wide (lo' := w.heap.size) (by omega) (Nat.le_refl _))
  clear hrow s2 hk2 q2
  go_wp2
  refine bodyPost_ret (v := .agg #[.slice P m d, .int .i64 a]) (by simp [results, Try.results14, go_sem, c0, c1]) rfl ?_
  refine ⟨P, m, d, Y, a, rfl, hm, hmd, hdm, ?_, Below.setCell (Below.setCell B2.out (p := ⟨w.heap.size, 0, none⟩) (Nat.le_refl _) _) (p := ⟨w.heap.size, 1, none⟩) (Nat.le_refl _) _⟩
  have h1 := row_res W2.out R2.out 0 (.slice P m d)
  have h2 : (w2.setCell ⟨w.heap.size, 0, none⟩ (.slice P m d)).heap[w.heap.size]? = some (.cells #[.slice P m d, .int .i64 0] 26 (0, 0)) := by simp [World.setCell, Array.getElem?_modify, R2.out]
  have h3 := row_res h1 h2 1 (.int .i64 a)
  exact h3.wide (Nat.le_refl _) (by simp)

set_option maxHeartbeats 4000000 in
set_option maxRecDepth 100000 in
theorem bedsYears_c (A : Option Addr) (n c : Nat) (X : Nat → Int) (w : World) (hn : n ≤ 4096) (hx : Sb w A n X) :
    Calls Try.prog 20 #[.slice A n c] w fun e w' => ∃ (P : Option Addr) (l d : Nat) (M : Nat → Nat) (Y : Nat → Nat → Int) (G : Nat → Int) (y : Int), e = .returned (.tuple #[.slice P l d, .int .i64 y]) ∧ -1 ≤ y ∧ y ≤ 4 ∧ l ≤ 9 ∧ l ≤ d ∧ d ≤ maxLen ∧ (∀ j, j < l → M j ≤ 6) ∧ rod.RowBs w' w.heap.size w'.heap.size P l M Y G ∧ Below w.heap.size w w' := by
  have HX := Lib.hid hx
  have HA := Lib.hid (hx.low (Nat.le_refl w.heap.size))
  have HF := Lib.hid (from_c A n c w)
  clear hx
  go_enter Try.func20, Try.ntmps20
  go_wp2_with fail
  refine HF.out.mono ?_
  rintro e w1 ⟨rfl, s1, hb1⟩
  have B1 := Lib.hid hb1
  have z1 := s1.lt
  have S1 := Lib.hid s1
  clear s1 hb1 HF
  go_wp2_with fail
  refine (beds_c w.heap.size A n c X 0 w1 hn (by omega) HA.out S1.out (HX.out.below B1.out (Nat.le_refl _))).mono ?_
  rintro e w2 ⟨P, l, d, M, Y, G, rfl, hl9, hld, hdm, hM, hrow, s2, hk2⟩
  have z2 := hk2.size
  have S2 := Lib.hid s2
  have B2 := Lib.hid (B1.out.trans ((hk2.mono (M := w.heap.size) (by omega)).below (Nat.le_refl _)))
  have R2 := Lib.hid hrow
  have HM := Lib.hid hM
  clear s2 hk2 hrow hM
  go_wp2_with fail
  refine (one_c w.heap.size A n c X (0 + 140) 8 7 w2 hn (by omega) (by omega) (by omega) HA.out S2.out (HX.out.below B2.out (Nat.le_refl _))).mono ?_
  rintro e w3 ⟨r, rfl, s3, hw3⟩
  have z3 := hw3.size
  have S3 := Lib.hid s3
  have B3 := Lib.hid (B2.out.trans (hw3.below (B := w.heap.size) (by omega) (Nat.le_refl _)))
  have R3 := Lib.hid (R2.out.wrote hw3 (.inr (by omega)))
  clear s3 hw3
  cases r
  · go_wp2_with fail
    refine (pick_c w.heap.size A n c X (0 + 140 + 2) 3 2 w3 hn (by omega) (by omega) (by omega) HA.out S3.out (HX.out.below B3.out (Nat.le_refl _))).mono ?_
    rintro e w4 ⟨y, rfl, y0, y1, s4, hw4⟩
    have z4 := hw4.size
    have B4 := Lib.hid (B3.out.trans (hw4.below (B := w.heap.size) (by omega) (Nat.le_refl _)))
    have R4 := Lib.hid (R3.out.wrote hw4 (.inr (by omega)))
    clear s4 hw4
    go_wp2
    go_ret2
    exact ⟨P, l, d, M, Y, G, 1 + y, rfl, by omega, by omega, hl9, hld, hdm, HM.out, R4.out.wide (by omega) (by omega), B4.out⟩
  · go_wp2_with fail
    refine (among_c w.heap.size A n c X (0 + 140 + 2) w3.heap.size 5 5 (fun j => ([-1, 0, 1, 3, 4] : List Int).getD j 0) _ hn (by omega) HA.out (S3.out.of_block (Go.Deep.blk_alloc_lt _ _ _ S3.out.lt) (by simp)) ((HX.out.below B3.out (Nat.le_refl _)).below (K := w3.heap.size) (by go_grown) (by have := B3.out.size; omega)) (by omega) (by omega) (by omega) (by simp) (ints_lit [-1, 0, 1, 3, 4] _ _)).mono ?_
    rintro e w4 ⟨j, hj, rfl, s4, hw4⟩
    obtain ⟨y, hy, y0, y1⟩ : ∃ y, (fun j => ([-1, 0, 1, 3, 4] : List Int).getD j 0) j = y ∧ -1 ≤ y ∧ y ≤ 4 := ⟨_, rfl, by
      have h5 : j = 0 ∨ j = 1 ∨ j = 2 ∨ j = 3 ∨ j = 4 := by omega
      rcases h5 with rfl | rfl | rfl | rfl | rfl <;> decide, by
      have h5 : j = 0 ∨ j = 1 ∨ j = 2 ∨ j = 3 ∨ j = 4 := by omega
      rcases h5 with rfl | rfl | rfl | rfl | rfl <;> decide⟩
    rw [hy]
    have z4 := hw4.size
    simp at z4
    have B4 := Lib.hid ((B3.out.alloc (by omega) _).trans (hw4.below (B := w.heap.size) (by simp; omega) (Nat.le_refl _)))
    have R4 := Lib.hid ((R3.out.below (K := w3.heap.size) (Below.alloc (Below.refl _ _) (Nat.le_refl _) _) (by omega)).wrote hw4 (.inr (by omega)))
    clear s4 hw4 hy
    go_wp2
    go_ret2
    exact ⟨P, l, d, M, Y, G, y, rfl, y0, y1, hl9, hld, hdm, HM.out, R4.out.wide (by omega) (by omega), B4.out⟩

set_option maxHeartbeats 4000000 in
set_option maxRecDepth 100000 in
theorem bedsCut_c (A : Option Addr) (n c : Nat) (X : Nat → Int) (w : World) (hn : n ≤ 4096) (hx : Sb w A n X) :
    Calls Try.prog 17 #[.slice A n c] w fun e w' => ∃ (P : Option Addr) (l d : Nat) (M : Nat → Nat) (Y : Nat → Nat → Int) (G : Nat → Int) (Q : Option Addr) (k d2 : Nat) (C : Nat → Int), e = .returned (.tuple #[.slice P l d, .slice Q k d2]) ∧ k ≤ 15 ∧ k ≤ d2 ∧ d2 ≤ maxLen ∧ Row w' w.heap.size w'.heap.size Q k 1 2 C ∧ l ≤ 9 ∧ l ≤ d ∧ d ≤ maxLen ∧ (∀ j, j < l → M j ≤ 6) ∧ rod.RowBs w' w.heap.size w'.heap.size P l M Y G ∧ Below w.heap.size w w' := by
  have HX := Lib.hid hx
  have HA := Lib.hid (hx.low (Nat.le_refl w.heap.size))
  have HF := Lib.hid (from_c A n c w)
  clear hx
  go_enter Try.func17, Try.ntmps17
  go_wp2_with fail
  refine HF.out.mono ?_
  rintro e w1 ⟨rfl, s1, hb1⟩
  have B1 := Lib.hid hb1
  have z1 := s1.lt
  have S1 := Lib.hid s1
  clear s1 hb1 HF
  go_wp2_with fail
  refine (beds_c w.heap.size A n c X 0 w1 hn (by omega) HA.out S1.out (HX.out.below B1.out (Nat.le_refl _))).mono ?_
  rintro e w2 ⟨P, l, d, M, Y, G, rfl, hl9, hld, hdm, hM, hrow, s2, hk2⟩
  have z2 := hk2.size
  have S2 := Lib.hid s2
  have B2 := Lib.hid (B1.out.trans ((hk2.mono (M := w.heap.size) (by omega)).below (Nat.le_refl _)))
  have R2 := Lib.hid hrow
  have HM := Lib.hid hM
  have R2K := Lib.hid (fun (W : World) (hW : Kept w2.heap.size w.heap.size w2 W) => (show rod.RowBs W w1.heap.size w2.heap.size P l M Y G from fun h => by
    obtain ⟨g, P', C', e, h1, h2, ho, hr, hd⟩ := hrow h
    exact ⟨g, P', C', e, h1, h2, ho.of_block (hW.block g ho.lt (by omega)), fun j hj hmj => (by
      obtain ⟨g', e', h3, h4, h5⟩ := hr j hj hmj
      exact ⟨g', e', h3, h4, h5.of_block (hW.block g' h5.lt (by omega))⟩), hd⟩))
  clear s2 hk2 hrow hM
  go_wp2_with fail
  refine (some_c w.heap.size A n c X (0 + 140) (l : Int) w2 hn (by omega) (by omega) (by omega) HA.out S2.out (HX.out.below B2.out (Nat.le_refl _))).mono ?_
  rintro e w4 ⟨Q, k, d2, C, rfl, hk15, hkd, hdm2, hQ, s4, hk4⟩
  have z4 := hk4.size
  have B4 := Lib.hid (B2.out.trans ((hk4.mono (M := w.heap.size) (by omega)).below (Nat.le_refl _)))
  have Q4 := Lib.hid (hQ.wide (lo' := w.heap.size) (by omega) (Nat.le_refl _))
  have R4 := Lib.hid (show rod.RowBs w4 w.heap.size w4.heap.size P l M Y G from (R2K.out w4 hk4).wide (by omega) (by omega))
  clear s4 hk4 hQ
  go_wp2
  go_ret2
  exact ⟨P, l, d, M, Y, G, Q, k, d2, C, rfl, hk15, hkd, hdm2, Q4.out, hl9, hld, hdm, HM.out, R4.out, B4.out⟩
end Go.Proofs.Ytcpaenmhnoagdac.src
