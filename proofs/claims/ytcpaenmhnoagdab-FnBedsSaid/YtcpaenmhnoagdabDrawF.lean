/-
  What the laws on beds draw from their bytes.
-/
import Derived.Test.YtcpaenmhnoagdabDrawBs
import Derived.Test.YtcpaenmhnoagdabBedY
namespace Go.Proofs.Ytcpaenmhnoagdab.src
open Go.ChangeShapes Go.WideShapes Go.ChangeAt Go.RowKit Go.Proofs.Ytcpaenmhnoagdab.mem
set_option linter.unusedVariables false

/-- a bed of the call's own -/
def BedOf (w w' : World) (P : Option Addr) (m d : Nat) (Y : Nat → Int) : Prop := m ≤ 6 ∧ m ≤ d ∧ d ≤ maxLen ∧ Row w' w.heap.size w'.heap.size P m 1 2 Y ∧ Below w.heap.size w w'
theorem res_bed {W : World} {g : Nat} (h : W.heap[g]? = some (.cells #[.slice none 0 0, .int .i64 0] 65 (0, 0))) : W.cell? ⟨g, 0, none⟩ = some (.slice none 0 0) ∧ W.cell? ⟨g, 1, none⟩ = some (.int .i64 0) ∧ W.frozen? ⟨g, 0, none⟩ = false ∧ W.frozen? ⟨g, 1, none⟩ = false := ⟨by simp [World.cell?, h], by simp [World.cell?, h], by simp [World.frozen?, h], by simp [World.frozen?, h]⟩
theorem row_res {W : World} {g lo hi m : Nat} {P : Option Addr} {Y : Nat → Int} {c : Array Value} (h : Row W lo hi P m 1 2 Y) (hg : W.heap[g]? = some (.cells c 65 (0, 0))) (i : Nat) (v : Value) : Row (W.setCell ⟨g, i, none⟩ v) lo hi P m 1 2 Y := fun hm => by
  obtain ⟨g', e, h1, h2, h3⟩ := h hm
  refine ⟨g', e, h1, h2, h3.setOther (a := ⟨g, i, none⟩) ?_ _⟩
  obtain ⟨cs, hh, _⟩ := h3
  show g' ≠ g
  intro q
  rw [q, hg] at hh
  cases hh

set_option maxHeartbeats 4000000 in
set_option maxRecDepth 100000 in
theorem bedNow_c (A : Option Addr) (n c : Nat) (X : Nat → Int) (w : World) (hn : n ≤ 4096) (hx : Sb w A n X) :
    Calls Try.prog 67 #[.slice A n c] w fun e w' => ∃ (P : Option Addr) (m d : Nat) (Y : Nat → Int) (a : Int), e = .returned (.agg #[.slice P m d, .int .i64 a]) ∧ BedOf w w' P m d Y := by
  have HX := Lib.hid hx
  have HA := Lib.hid (hx.low (Nat.le_succ w.heap.size))
  obtain ⟨W0, hW0⟩ : ∃ W, W = w.alloc (.cells #[.slice none 0 0, .int .i64 0] 65) := ⟨_, rfl⟩
  have b0 : Below w.heap.size w W0 := by rw [hW0]; go_grown
  have r0 : W0.heap[w.heap.size]? = some (.cells #[.slice none 0 0, .int .i64 0] 65 (0, 0)) := by rw [hW0]; exact Go.Deep.blk_alloc_new _ _
  have z0 : W0.heap.size = w.heap.size + 1 := by rw [hW0]; simp
  have HF := Lib.hid (from_c A n c W0)
  clear hx
  go_enter Try.func67, Try.ntmps67
  go_wp2_with fail
  rw [← hW0]
  clear hW0
  refine HF.out.mono ?_
  rintro e w1 ⟨rfl, s1, hb1⟩
  rw [z0] at s1 hb1 ⊢
  have B1 := Lib.hid (b0.trans (hb1.mono (by omega)))
  have R1 := Lib.hid ((hb1.block w.heap.size (by omega)).trans r0)
  have z1 := s1.lt
  have S1 := Lib.hid s1
  clear s1 hb1 r0 b0 HF
  go_wp2_with fail
  refine (anyBed_c (w.heap.size + 1) A n c X 0 w1 hn (by omega) HA.out S1.out (HX.out.below B1.out (Nat.le_refl _))).mono ?_
  rintro e w2 ⟨P, m, d, Y, a, rfl, hm, hmd, hdm, hrow, s2, hk2⟩
  have z2 := hk2.size
  have q2 := (hk2.block w.heap.size (by omega) (by omega)).trans R1.out
  obtain ⟨c0, c1, f0, f1⟩ := res_bed q2
  have R2 := Lib.hid q2
  have B2 := Lib.hid (B1.out.trans ((hk2.mono (M := w.heap.size) (by omega)).below (by omega)))
  have W2 := Lib.hid (hrow.wide (lo' := w.heap.size) (by omega) (Nat.le_refl _))
  clear hrow s2 hk2 q2
  go_wp2
  refine bodyPost_ret (v := .agg #[.slice P m d, .int .i64 a]) (by simp [results, Try.results67, go_sem, c0, c1]) rfl ?_
  refine ⟨P, m, d, Y, a, rfl, hm, hmd, hdm, ?_, Below.setCell (Below.setCell B2.out (p := ⟨w.heap.size, 0, none⟩) (Nat.le_refl _) _) (p := ⟨w.heap.size, 1, none⟩) (Nat.le_refl _) _⟩
  have h1 := row_res W2.out R2.out 0 (.slice P m d)
  have h2 : (w2.setCell ⟨w.heap.size, 0, none⟩ (.slice P m d)).heap[w.heap.size]? = some (.cells #[.slice P m d, .int .i64 0] 65 (0, 0)) := by simp [World.setCell, Array.getElem?_modify, R2.out]
  have h3 := row_res h1 h2 1 (.int .i64 a)
  exact h3.wide (Nat.le_refl _) (by simp)

set_option maxHeartbeats 4000000 in
set_option maxRecDepth 100000 in
theorem bedYears_c (A : Option Addr) (n c : Nat) (X : Nat → Int) (w : World) (hn : n ≤ 4096) (hx : Sb w A n X) :
    Calls Try.prog 62 #[.slice A n c] w fun e w' => ∃ (P : Option Addr) (m d : Nat) (Y : Nat → Int) (a y : Int), e = .returned (.tuple #[.agg #[.slice P m d, .int .i64 a], .int .i64 y]) ∧ -1 ≤ y ∧ y ≤ 13 ∧ BedOf w w' P m d Y := by
  have HX := Lib.hid hx
  have HA := Lib.hid (hx.low (Nat.le_succ w.heap.size))
  obtain ⟨W0, hW0⟩ : ∃ W, W = w.alloc (.cells #[.slice none 0 0, .int .i64 0] 65) := ⟨_, rfl⟩
  have b0 : Below w.heap.size w W0 := by rw [hW0]; go_grown
  have r0 : W0.heap[w.heap.size]? = some (.cells #[.slice none 0 0, .int .i64 0] 65 (0, 0)) := by rw [hW0]; exact Go.Deep.blk_alloc_new _ _
  have z0 : W0.heap.size = w.heap.size + 1 := by rw [hW0]; simp
  have HF := Lib.hid (from_c A n c W0)
  clear hx
  go_enter Try.func62, Try.ntmps62
  go_wp2_with fail
  rw [← hW0]
  clear hW0
  refine HF.out.mono ?_
  rintro e w1 ⟨rfl, s1, hb1⟩
  rw [z0] at s1 hb1 ⊢
  have B1 := Lib.hid (b0.trans (hb1.mono (by omega)))
  have R1 := Lib.hid ((hb1.block w.heap.size (by omega)).trans r0)
  have z1 := s1.lt
  have S1 := Lib.hid s1
  clear s1 hb1 r0 b0 HF
  go_wp2_with fail
  refine (anyBed_c (w.heap.size + 1) A n c X 0 w1 hn (by omega) HA.out S1.out (HX.out.below B1.out (Nat.le_refl _))).mono ?_
  rintro e w2 ⟨P, m, d, Y, a, rfl, hm, hmd, hdm, hrow, s2, hk2⟩
  have z2 := hk2.size
  obtain ⟨W3, hW3⟩ : ∃ W, W = w2.alloc (.cells #[.slice P m d, .int .i64 a] 65) := ⟨_, rfl⟩
  have b3 : Below w2.heap.size w2 W3 := by rw [hW3]; go_grown
  have p3 : W3.heap[w2.heap.size]? = some (.cells #[.slice P m d, .int .i64 a] 65 (0, 0)) := by rw [hW3]; exact Go.Deep.blk_alloc_new _ _
  have z3 : w2.heap.size < W3.heap.size := (Array.getElem?_eq_some_iff.1 p3).1
  have r3 := (b3.block w.heap.size (by omega)).trans ((hk2.block w.heap.size (by omega) (by omega)).trans R1.out)
  have S3 := Lib.hid (s2.below b3 (by omega))
  have B3 := Lib.hid ((B1.out.trans ((hk2.mono (M := w.heap.size) (by omega)).below (by omega))).trans (b3.mono (by omega)))
  have W3r := Lib.hid (hrow.below b3 (Nat.le_refl _))
  have R3 := Lib.hid r3
  have P3 := Lib.hid p3
  have d0 : W3.cell? ⟨w2.heap.size, 0, none⟩ = some (.slice P m d) := by simp [World.cell?, p3]
  have d1 : W3.cell? ⟨w2.heap.size, 1, none⟩ = some (.int .i64 a) := by simp [World.cell?, p3]
  obtain ⟨c0, c1, f0, f1⟩ := res_bed r3
  have HY := Lib.hid (fun (W : World) (hW : Below W3.heap.size W3 W) => years_c (w.heap.size + 1) A n c X (0 + 20) W hn (by omega) HA.out (S3.out.below hW (by omega)) ((HX.out.below B3.out (Nat.le_refl _)).below hW (by have := B3.out.size; omega)))
  clear hrow s2 hk2 b3 r3 p3
  go_wp2_with fail
  rw [← hW3]
  clear hW3
  go_region_with (go_at_call 114; go_loud (refine (HY.out _ (by go_grown)).mono ?_; rintro e w4 ⟨y, rfl, y0, y1, s4, hk4⟩; have e4 : ∀ k, k < W3.heap.size → k ≠ w.heap.size + 1 → w4.heap[k]? = W3.heap[k]? := (fun k hk hb => (hk4.block k (by simp; omega) hb)); have z4 := hk4.size; simp at z4; have R4 := (e4 w.heap.size (by omega) (by omega)).trans R3.out; have P4 := (e4 w2.heap.size z3 (by omega)).trans P3.out; obtain ⟨c0, c1, f0, f1⟩ := res_bed R4; have d0 : w4.cell? ⟨w2.heap.size, 0, none⟩ = some (.slice P m d) := (by simp [World.cell?, P4]); have d1 : w4.cell? ⟨w2.heap.size, 1, none⟩ = some (.int .i64 a) := (by simp [World.cell?, P4]); have RR4 := Lib.hid R4; have HE4 := Lib.hid e4; have B4 := Lib.hid (show Below w.heap.size w w4 from B3.out.trans (Below.trans (b := W3.drew) ⟨rfl, rfl, rfl, Nat.le_refl _, fun _ _ => rfl⟩ ((hk4.mono (M := w.heap.size) (by simp; omega)).below (by omega)))); clear R4 P4 e4 s4 hk4))
  all_goals
    go_wp2
    refine bodyPost_ret (v := .tuple #[.agg #[.slice P m d, .int .i64 a], .int .i64 y]) (by simp [results, Try.results62, go_sem, c0, c1]) rfl ?_
    refine ⟨P, m, d, Y, a, y, rfl, y0, y1, hm, hmd, hdm, ?_, Below.setCell (Below.setCell B4.out (p := ⟨w.heap.size, 0, none⟩) (Nat.le_refl _) _) (p := ⟨w.heap.size, 1, none⟩) (Nat.le_refl _) _⟩
    have h0 : Row w4 w.heap.size w4.heap.size P m 1 2 Y := fun hmm => by
      obtain ⟨g', e, h1, h2, h3⟩ := W3r.out hmm
      exact ⟨g', e, by omega, by omega, h3.of_block (HE4.out g' h3.lt (by omega))⟩
    have h1 := row_res h0 RR4.out 0 (.slice P m d)
    have h2 : (w4.setCell ⟨w.heap.size, 0, none⟩ (.slice P m d)).heap[w.heap.size]? = some (.cells #[.slice P m d, .int .i64 0] 65 (0, 0)) := by simp [World.setCell, Array.getElem?_modify, RR4.out]
    have h3 := row_res h1 h2 1 (.int .i64 a)
    exact h3.wide (Nat.le_refl _) (by simp)

set_option maxHeartbeats 4000000 in
set_option maxRecDepth 100000 in
theorem bedPlan_c (A : Option Addr) (n c : Nat) (X : Nat → Int) (w : World) (hn : n ≤ 4096) (hx : Sb w A n X) :
    Calls Try.prog 63 #[.slice A n c] w fun e w' => ∃ (P : Option Addr) (m d : Nat) (Y : Nat → Int) (a : Int) (Q : Option Addr) (l d2 : Nat) (C : Nat → Int) (y : Int), e = .returned (.tuple #[.agg #[.slice P m d, .int .i64 a], .slice Q l d2, .int .i64 y]) ∧ -1 ≤ y ∧ y ≤ 13 ∧ l ≤ 15 ∧ l ≤ d2 ∧ d2 ≤ maxLen ∧ Row w' w.heap.size w'.heap.size Q l 1 2 C ∧ BedOf w w' P m d Y := by
  have HX := Lib.hid hx
  have HA := Lib.hid (hx.low (Nat.le_succ w.heap.size))
  obtain ⟨W0, hW0⟩ : ∃ W, W = w.alloc (.cells #[.slice none 0 0, .int .i64 0] 65) := ⟨_, rfl⟩
  have b0 : Below w.heap.size w W0 := by rw [hW0]; go_grown
  have r0 : W0.heap[w.heap.size]? = some (.cells #[.slice none 0 0, .int .i64 0] 65 (0, 0)) := by rw [hW0]; exact Go.Deep.blk_alloc_new _ _
  have z0 : W0.heap.size = w.heap.size + 1 := by rw [hW0]; simp
  have HF := Lib.hid (from_c A n c W0)
  clear hx
  go_enter Try.func63, Try.ntmps63
  go_wp2_with fail
  rw [← hW0]
  clear hW0
  refine HF.out.mono ?_
  rintro e w1 ⟨rfl, s1, hb1⟩
  rw [z0] at s1 hb1 ⊢
  have B1 := Lib.hid (b0.trans (hb1.mono (by omega)))
  have R1 := Lib.hid ((hb1.block w.heap.size (by omega)).trans r0)
  have z1 := s1.lt
  have S1 := Lib.hid s1
  clear s1 hb1 r0 b0 HF
  go_wp2_with fail
  refine (anyBed_c (w.heap.size + 1) A n c X 0 w1 hn (by omega) HA.out S1.out (HX.out.below B1.out (Nat.le_refl _))).mono ?_
  rintro e w2 ⟨P, m, d, Y, a, rfl, hm, hmd, hdm, hrow, s2, hk2⟩
  have z2 := hk2.size
  obtain ⟨W3, hW3⟩ : ∃ W, W = w2.alloc (.cells #[.slice P m d, .int .i64 a] 65) := ⟨_, rfl⟩
  have b3 : Below w2.heap.size w2 W3 := by rw [hW3]; go_grown
  have p3 : W3.heap[w2.heap.size]? = some (.cells #[.slice P m d, .int .i64 a] 65 (0, 0)) := by rw [hW3]; exact Go.Deep.blk_alloc_new _ _
  have z3 : w2.heap.size < W3.heap.size := (Array.getElem?_eq_some_iff.1 p3).1
  have r3 := (b3.block w.heap.size (by omega)).trans ((hk2.block w.heap.size (by omega) (by omega)).trans R1.out)
  have S3 := Lib.hid (s2.below b3 (by omega))
  have B3 := Lib.hid ((B1.out.trans ((hk2.mono (M := w.heap.size) (by omega)).below (by omega))).trans (b3.mono (by omega)))
  have W3r := Lib.hid (hrow.below b3 (Nat.le_refl _))
  have R3 := Lib.hid r3
  have P3 := Lib.hid p3
  have HY := Lib.hid (years_c (w.heap.size + 1) A n c X (0 + 20) W3 hn (by omega) HA.out S3.out (HX.out.below B3.out (Nat.le_refl _)))
  clear hrow s2 hk2 b3 r3 p3
  go_wp2_with fail
  rw [← hW3]
  clear hW3
  refine HY.out.mono ?_
  rintro e w5 ⟨y, rfl, y0, y1, s5, hk5⟩
  have z5 := hk5.size
  have S5 := Lib.hid s5
  have B5 := Lib.hid (B3.out.trans ((hk5.mono (M := w.heap.size) (by omega)).below (by omega)))
  have R5 := Lib.hid ((hk5.block w.heap.size (by omega) (by omega)).trans R3.out)
  have P5 := Lib.hid ((hk5.block w2.heap.size z3 (by omega)).trans P3.out)
  have p5 := P5.out
  have d0 : w5.cell? ⟨w2.heap.size, 0, none⟩ = some (.slice P m d) := by simp [World.cell?, p5]
  have d1 : w5.cell? ⟨w2.heap.size, 1, none⟩ = some (.int .i64 a) := by simp [World.cell?, p5]
  obtain ⟨c0, c1, f0, f1⟩ := res_bed R5.out
  have RO5 := Lib.hid (show Row w5 w1.heap.size W3.heap.size P m 1 2 Y from fun hmm => by
    obtain ⟨g', e, h1, h2, h3⟩ := W3r.out hmm
    exact ⟨g', e, by omega, by omega, h3.of_block (hk5.block g' h3.lt (by omega))⟩)
  have HS := Lib.hid (fun (W : World) (hW : Below w5.heap.size w5 W) => some_c (w.heap.size + 1) A n c X (0 + 20 + 4) y W hn (by omega) y0 (by omega) HA.out (S5.out.below hW (by omega)) ((HX.out.below B5.out (Nat.le_refl _)).below hW (by have := B5.out.size; omega)))
  clear s5 hk5 p5
  go_wp2_with fail
  go_region_with (first
    | (go_at_call 116; refine (rod.min_lo y 14 (by omega) _).mono ?_; rintro e wq ⟨rfl, hwq⟩; rw [← hwq]; clear hwq)
    | (go_at_call 115; go_loud (refine (HS.out _ (by go_grown)).mono ?_; rintro e w4 ⟨Q, l, d2, C, rfl, hl15, hld, hdm2, hQ, s4, hk4⟩; have e4 : ∀ k, k < w5.heap.size → k ≠ w.heap.size + 1 → w4.heap[k]? = w5.heap[k]? := (fun k hk hb => (hk4.block k (by simp; omega) hb)); have z4 := hk4.size; simp at z4; have R4 := (e4 w.heap.size (by omega) (by omega)).trans R5.out; have P4 := (e4 w2.heap.size (by omega) (by omega)).trans P5.out; obtain ⟨c0, c1, f0, f1⟩ := res_bed R4; have d0 : w4.cell? ⟨w2.heap.size, 0, none⟩ = some (.slice P m d) := (by simp [World.cell?, P4]); have d1 : w4.cell? ⟨w2.heap.size, 1, none⟩ = some (.int .i64 a) := (by simp [World.cell?, P4]); have RR4 := Lib.hid R4; have HE4 := Lib.hid e4; have HQ4 := Lib.hid (show Row w4 w.heap.size w4.heap.size Q l 1 2 C from hQ.wide (by simp; omega) (Nat.le_refl _)); have B4 := Lib.hid (show Below w.heap.size w w4 from B5.out.trans (Below.trans (b := w5.drew) ⟨rfl, rfl, rfl, Nat.le_refl _, fun _ _ => rfl⟩ ((hk4.mono (M := w.heap.size) (by simp; omega)).below (by omega)))); clear R4 P4 e4 s4 hk4 hQ)))
  all_goals
    go_wp2
    refine bodyPost_ret (v := .tuple #[.agg #[.slice P m d, .int .i64 a], .slice Q l d2, .int .i64 y]) (by simp [results, Try.results63, go_sem, c0, c1]) rfl ?_
    have h2 : (w4.setCell ⟨w.heap.size, 0, none⟩ (.slice P m d)).heap[w.heap.size]? = some (.cells #[.slice P m d, .int .i64 0] 65 (0, 0)) := by simp [World.setCell, Array.getElem?_modify, RR4.out]
    refine ⟨P, m, d, Y, a, Q, l, d2, C, y, rfl, y0, y1, hl15, hld, hdm2, (row_res (row_res HQ4.out RR4.out 0 (.slice P m d)) h2 1 (.int .i64 a)).wide (Nat.le_refl _) (by simp), hm, hmd, hdm, ?_, Below.setCell (Below.setCell B4.out (p := ⟨w.heap.size, 0, none⟩) (Nat.le_refl _) _) (p := ⟨w.heap.size, 1, none⟩) (Nat.le_refl _) _⟩
    have h0 : Row w4 w.heap.size w4.heap.size P m 1 2 Y := fun hmm => by
      obtain ⟨g', e, h1, h2, h3⟩ := RO5.out hmm
      exact ⟨g', e, by omega, by omega, h3.of_block (HE4.out g' h3.lt (by omega))⟩
    exact (row_res (row_res h0 RR4.out 0 (.slice P m d)) h2 1 (.int .i64 a)).wide (Nat.le_refl _) (by simp)

set_option maxHeartbeats 4000000 in
set_option maxRecDepth 100000 in
theorem bedsNeed_c (A : Option Addr) (n c : Nat) (X : Nat → Int) (w : World) (hn : n ≤ 4096) (hx : Sb w A n X) :
    Calls Try.prog 66 #[.slice A n c] w fun e w' => ∃ (P : Option Addr) (l d : Nat) (M : Nat → Nat) (Y : Nat → Nat → Int) (G : Nat → Int) (y : Int), e = .returned (.tuple #[.slice P l d, .int .i64 y]) ∧ -1 ≤ y ∧ y ≤ 100001 ∧ l ≤ 9 ∧ l ≤ d ∧ d ≤ maxLen ∧ (∀ j, j < l → M j ≤ 6) ∧ rod.RowBs w' w.heap.size w'.heap.size P l M Y G ∧ Below w.heap.size w w' := by
  have HX := Lib.hid hx
  have HA := Lib.hid (hx.low (Nat.le_refl w.heap.size))
  have HF := Lib.hid (from_c A n c w)
  clear hx
  go_enter Try.func66, Try.ntmps66
  go_wp2_with fail
  refine HF.out.mono ?_
  rintro e w1 ⟨rfl, s1, hb1⟩
  have B1 := Lib.hid hb1
  have z1 := s1.lt
  have S1 := Lib.hid s1
  clear s1 hb1 HF
  go_wp2_with fail
  refine (beds_c w.heap.size A n c X 0 w1 hn (by omega) HA.out S1.out (HX.out.below B1.out (Nat.le_refl _))).mono ?_
  rintro e w2 ⟨P, l, d, M, Y, G, rfl, hl9, hld, hdm, hM, hrow, s2, hk2⟩
  have z2 := hk2.size
  have S2 := Lib.hid s2
  have B2 := Lib.hid (B1.out.trans ((hk2.mono (M := w.heap.size) (by omega)).below (Nat.le_refl _)))
  have R2 := Lib.hid hrow
  have HM := Lib.hid hM
  clear s2 hk2 hrow hM
  go_wp2_with fail
  refine (one_c w.heap.size A n c X (0 + 140) 8 7 w2 hn (by omega) (by omega) (by omega) HA.out S2.out (HX.out.below B2.out (Nat.le_refl _))).mono ?_
  rintro e w3 ⟨r, rfl, s3, hw3⟩
  have z3 := hw3.size
  have S3 := Lib.hid s3
  have B3 := Lib.hid (B2.out.trans (hw3.below (B := w.heap.size) (by omega) (Nat.le_refl _)))
  have R3 := Lib.hid (R2.out.wrote hw3 (.inr (by omega)))
  clear s3 hw3
  cases r
  · go_wp2_with fail
    refine (pick_c w.heap.size A n c X (0 + 140 + 2) 200 199 w3 hn (by omega) (by omega) (by omega) HA.out S3.out (HX.out.below B3.out (Nat.le_refl _))).mono ?_
    rintro e w4 ⟨y, rfl, y0, y1, s4, hw4⟩
    have z4 := hw4.size
    have B4 := Lib.hid (B3.out.trans (hw4.below (B := w.heap.size) (by omega) (Nat.le_refl _)))
    have R4 := Lib.hid (R3.out.wrote hw4 (.inr (by omega)))
    clear s4 hw4
    go_wp2
    go_ret2
    exact ⟨P, l, d, M, Y, G, y, rfl, by omega, by omega, hl9, hld, hdm, HM.out, R4.out.wide (by omega) (by omega), B4.out⟩
  · go_wp2_with fail
    refine (among_c w.heap.size A n c X (0 + 140 + 2) w3.heap.size 4 4 (fun j => ([-1, 0, 100000, 100001] : List Int).getD j 0) _ hn (by omega) HA.out (S3.out.of_block (Go.Deep.blk_alloc_lt _ _ _ S3.out.lt) (by simp)) ((HX.out.below B3.out (Nat.le_refl _)).below (K := w3.heap.size) (by go_grown) (by have := B3.out.size; omega)) (by omega) (by omega) (by omega) (by simp) (ints_lit [-1, 0, 100000, 100001] _ _)).mono ?_
    rintro e w4 ⟨j, hj, rfl, s4, hw4⟩
    obtain ⟨y, hy, y0, y1⟩ : ∃ y, (fun j => ([-1, 0, 100000, 100001] : List Int).getD j 0) j = y ∧ -1 ≤ y ∧ y ≤ 100001 := ⟨_, rfl, by
      have h5 : j = 0 ∨ j = 1 ∨ j = 2 ∨ j = 3 := by omega
      rcases h5 with rfl | rfl | rfl | rfl <;> decide, by
      have h5 : j = 0 ∨ j = 1 ∨ j = 2 ∨ j = 3 := by omega
      rcases h5 with rfl | rfl | rfl | rfl <;> decide⟩
    rw [hy]
    have z4 := hw4.size
    simp at z4
    have B4 := Lib.hid ((B3.out.alloc (by omega) _).trans (hw4.below (B := w.heap.size) (by simp; omega) (Nat.le_refl _)))
    have R4 := Lib.hid ((R3.out.below (K := w3.heap.size) (Below.alloc (Below.refl _ _) (Nat.le_refl _) _) (by omega)).wrote hw4 (.inr (by omega)))
    clear s4 hw4 hy
    go_wp2
    go_ret2
    exact ⟨P, l, d, M, Y, G, y, rfl, y0, y1, hl9, hld, hdm, HM.out, R4.out.wide (by omega) (by omega), B4.out⟩
end Go.Proofs.Ytcpaenmhnoagdab.src
