/-
  What the law on twills draws: two twills that are nearly equal. No condition of a statement lies here.
-/
import Derived.Test.YtopiecbldnhihaaDoorUc
import Derived.Test.YtopiecbldnhihaaDoorClone
import Derived.BigQuiet
import Derived.Deep.RegionHeld3
import Derived.Deep.AppendLies
import Derived.Deep.RegionLaw
namespace Go.Proofs.YtopiecbldnhihaaDoor.twl
open Go.ChangeShapes Go.WideShapes Go.ChangeAt Go.RowKit Go.Deep Go.Proofs.YtopiecbldnhihaaDoor.mem Go.Proofs.YtopiecbldnhihaaDoor.rod Go.Proofs.YtopiecbldnhihaaDoor.nums Go.Proofs.YtopiecbldnhihaaDoor.shp Go.Proofs.YtopiecbldnhihaaDoor.src
set_option linter.unusedVariables false
set_option maxRecDepth 100000

/-- numbers as cells -/
def iL (Y : Nat → Int) (m : Nat) : List Int := (List.range m).map Y
theorem iL_len (Y : Nat → Int) (m : Nat) : (iL Y m).length = m := by simp [iL]
theorem iL_cells (Y : Nat → Int) (m : Nat) : (iL Y m).map (Value.int .i64) = cellsOf (intV Y) (m * 1) := by unfold iL cellsOf; rw [Nat.mul_one, List.map_map]; rfl
set_option maxHeartbeats 2000000 in
theorem own2_s (b o n c : Nat) (X : Nat → Int) (w : World) (hn : n ≤ 1048576) (hb : b < w.heap.size) (h : Ints w b o (n * 1) X) :
    Calls Tryd.prog 49 #[.slice (some ⟨b, o, none⟩) n c] w fun e w' => ∃ Q k, e = .returned (.slice Q n k) ∧ w'.ownsRow w.heap.size 2 1 (.slice Q n k) (iL X n).length ((iL X n).map (Value.int .i64)) ∧ Below w.heap.size w w' := by
  have H := Lib.hid h
  clear h
  obtain ⟨i0, hi0, hz0, hz1, hz2⟩ := info_parts info_num
  go_enter Tryd.func49, Tryd.ntmps49
  go_wp2_with (at_builtin; refine wpList_append_own _ rfl _ _ 24 rfl w.heap.size 2 i0 (.int .i64 0) 1 8 Tryd.underlying24 hi0 hz0 hz1 hz2 rfl (by decide) _ _ _ rfl (owns_none0 w w.heap.size 1 2 (Nat.le_refl _)) ⟨b, o, none⟩ n c (cellsOf (intV X) (n * 1)) rfl (cellsOf_len _ _) ?c1 ?c2 ?c3 ?c4 ?c5 ?_)
  case c1 =>
    intro j u hj
    obtain ⟨h1, rfl⟩ := cellsOf_at hj
    rw [addr_at]
    exact (Below.cell (B := w.heap.size) (p := ⟨b, o + j, none⟩) (by go_grown) hb).trans (H.out j h1)
  case c2 => intro u hu; obtain ⟨j, hj⟩ := List.getElem?_of_mem hu; obtain ⟨_, rfl⟩ := cellsOf_at hj; rfl
  case c3 => unfold maxLen; omega
  case c4 => omega
  case c5 => simp
  intro v' w1 hown1 hgrow1 _
  try simp only [Nat.zero_add, List.nil_append] at hown1
  have g1 : Below w.heap.size w w1 := Below.grown (by go_grown) hgrow1 (by simp) (fun g hg => by simp [Value.ownBlock] at hg; omega)
  have HO := Lib.hid (show w1.ownsRow w.heap.size 2 1 v' (iL X n).length ((iL X n).map (Value.int .i64)) from by rw [iL_cells, iL_len, Nat.mul_one]; exact hown1)
  obtain ⟨Q, k, rfl, _, _, _⟩ := row_of_owns HO.out
  have e := iL_len X n
  clear hown1 hgrow1
  go_wp2
  go_ret
  exact ⟨Q, k, by rw [e]; rfl, by rw [e] at HO; rw [e]; exact HO.out, g1⟩

/-- two twills: the answers' blocks r, r + 1, the twills' blocks t, u; the second one's list may grow -/
structure SD (w wr : World) (b lo hi : Nat) (A : Option Addr) (n c : Nat) (K : Int) (t u : Nat) (P : Option Addr) (m d : Nat) (Y : Nat → Int) (st : Int) (v : Value) (l : List Int) (su : Int) : Prop where
  wb : w.heap.size + 1 < b
  blo : b < lo
  lot : lo ≤ t
  tu : t ≠ u
  ub : hi ≤ u
  lohi : lo ≤ hi
  hiz : hi ≤ wr.heap.size
  res : TwBlk wr w.heap.size (.slice none 0 0) 0
  res2 : TwBlk wr (w.heap.size + 1) (.slice none 0 0) 0
  tw : TwBlk wr t (.slice P m d) st
  tw2 : TwBlk wr u v su
  row : Row wr lo hi P m 1 2 Y
  own : wr.ownsRow hi 2 1 v l.length (l.map (Value.int .i64))
  len : m ≤ 12
  len2 : l.length ≤ 13
  src : Src wr b A n c K
  below : Below w.heap.size w wr
section
variable {w wr w' : World} {b lo hi n c t u m d : Nat} {A P : Option Addr} {K K' st su : Int} {Y : Nat → Int} {v : Value} {l : List Int}
theorem SD.wrote (h : SD w wr b lo hi A n c K t u P m d Y st v l su) (hw : WroteIn wr w' b (b + 1)) (hs : Src w' b A n c K') : SD w w' b lo hi A n c K' t u P m d Y st v l su := by
  have h1 := h.wb
  have h2 := h.blo
  have h3 := h.lot
  have h4 := h.lohi
  have h5 := h.ub
  have h6 := h.hiz
  have h7 := hw.size
  exact { h with
    hiz := by omega
    res := h.res.of_block (hw.block _ h.res.lt (by omega))
    res2 := h.res2.of_block (hw.block _ h.res2.lt (by omega))
    tw := h.tw.of_block (hw.block t h.tw.lt (by omega))
    tw2 := h.tw2.of_block (hw.block u h.tw2.lt (by omega))
    row := fun hm => by
      obtain ⟨g, e, a1, a2, ho⟩ := h.row hm
      exact ⟨g, e, a1, a2, own_wrote ho hw (by omega)⟩
    own := owns_wrote1 h.own hw (by omega)
    src := hs
    below := h.below.trans (hw.below h.below.size (by omega)) }
theorem SD.apart (h : SD w wr b lo hi A n c K t u P m d Y st v l su) : w.heap.size ≠ u ∧ w.heap.size ≠ t ∧ w.heap.size + 1 ≠ u ∧ w.heap.size + 1 ≠ t ∧ u ≠ w.heap.size ∧ t ≠ w.heap.size ∧ u ≠ w.heap.size + 1 ∧ t ≠ w.heap.size + 1 := by
  have h1 := h.wb
  have h2 := h.blo
  have h3 := h.lot
  have h4 := h.lohi
  have h5 := h.ub
  refine ⟨?_, ?_, ?_, ?_, ?_, ?_, ?_, ?_⟩ <;> omega
theorem SD.step (h : SD w wr b lo hi A n c K t u P m d Y st v l su) (x : Int) : SD w (wr.setCell ⟨u, 1, none⟩ (.int .i64 x)) b lo hi A n c K t u P m d Y st v l x := by
  have h1 := h.wb
  have h2 := h.blo
  have h4 := h.lohi
  have h5 := h.ub
  have h6 := h.tu
  exact { h with
    hiz := by simpa using h.hiz
    res := h.res.other (a := ⟨u, 1, none⟩) (by show w.heap.size ≠ u; omega) _
    res2 := h.res2.other (a := ⟨u, 1, none⟩) (by show w.heap.size + 1 ≠ u; omega) _
    tw := h.tw.other (a := ⟨u, 1, none⟩) h6 _
    tw2 := h.tw2.put1 x
    row := fun hm => by
      obtain ⟨g, e, a1, a2, ho⟩ := h.row hm
      exact ⟨g, e, a1, a2, ho.setOther (a := ⟨u, 1, none⟩) (row_ne ho h.tw2) _⟩
    own := owns_set h.own (a := ⟨u, 1, none⟩) (h.tw2.ne h.own) _
    src := h.src.set (a := ⟨u, 1, none⟩) (by show b ≠ u; omega) _
    below := Below.setCell h.below (p := ⟨u, 1, none⟩) (by show w.heap.size ≤ u; omega) _ }
theorem SD.app (h : SD w wr b lo hi A n c K t u P m d Y st v l su) {v' : Value} (x : Int) (hl : l.length ≤ 12) (own' : w'.ownsRow hi 2 1 v' (l ++ [x]).length ((l ++ [x]).map (Value.int .i64))) (q : ∀ k, k < wr.heap.size → v.ownBlock ≠ some k → w'.heap[k]? = wr.heap[k]?) (hz : wr.heap.size ≤ w'.heap.size) (hb : Below w.heap.size w w') :
    SD w (w'.setCell ⟨u, 0, none⟩ v') b lo hi A n c K t u P m d Y st v' (l ++ [x]) su := by
  have h1 := h.wb
  have h2 := h.blo
  have h4 := h.lohi
  have h5 := h.ub
  have h6 := h.tu
  have h7 := h.hiz
  have r1 := h.res.of_block (q _ h.res.lt (h.res.ne h.own))
  have r2 := h.res2.of_block (q _ h.res2.lt (h.res2.ne h.own))
  have t1 := h.tw.of_block (q _ h.tw.lt (h.tw.ne h.own))
  have t2 := h.tw2.of_block (q _ h.tw2.lt (h.tw2.ne h.own))
  exact ⟨h1, h2, h.lot, h6, h5, h4, by simp; omega, r1.other (a := ⟨u, 0, none⟩) (by show w.heap.size ≠ u; omega) _, r2.other (a := ⟨u, 0, none⟩) (by show w.heap.size + 1 ≠ u; omega) _, t1.other (a := ⟨u, 0, none⟩) h6 _, t2.put _,
    (fun hm => by
      obtain ⟨g, e, a1, a2, ho⟩ := h.row hm
      have ho' := ho.of_block (w' := w') (q g ho.lt (fun e => by have := owns_ge h.own g e; omega))
      exact ⟨g, e, a1, a2, ho'.setOther (a := ⟨u, 0, none⟩) (row_ne ho' t2) _⟩), owns_set own' (t2.ne own') _, h.len, by rw [List.length_append]; simp; omega, (h.src.of_block (q b h.src.lt (fun e => by have := owns_ge h.own b e; omega)) hz).set (a := ⟨u, 0, none⟩) (by show b ≠ u; omega) _, Below.setCell hb (p := ⟨u, 0, none⟩) (by show w.heap.size ≤ u; omega) _⟩
end
/-- the answers: two twills in memory -/
def TwoTw (w w' : World) (P : Option Addr) (m : Nat) (Y : Nat → Int) (Q : Option Addr) (k : Nat) (Z : Nat → Int) : Prop := m ≤ 12 ∧ k ≤ 13 ∧ Sl w' P m 1 Y ∧ Sl w' Q k 1 Z ∧ Below w.heap.size w w'
theorem row_sl2 {wr w' : World} {lo hi m : Nat} {P : Option Addr} {Y : Nat → Int} (h : Row wr lo hi P m 1 2 Y) (hb : ∀ g, lo ≤ g → mem.Own wr g 2 (m * 1) Y → mem.Own w' g 2 (m * 1) Y) : Sl w' P m 1 Y := fun hm => by
  obtain ⟨g, e, a1, a2, ho⟩ := h hm
  have ho' := hb g a1 ho
  exact ⟨g, 0, e, ho'.lt, ho'.ints⟩
theorem SD.fin {w wr : World} {b lo hi n c t u m d : Nat} {A P Q : Option Addr} {K st su : Int} {Y : Nat → Int} {l : List Int} {k N : Nat} (hN : N = l.length) (h : SD w wr b lo hi A n c K t u P m d Y st (.slice Q N k) l su) (x y : Value) (z z' : Value) :
    TwoTw w ((((wr.setCell ⟨w.heap.size, 0, none⟩ x).setCell ⟨w.heap.size, 1, none⟩ y).setCell ⟨w.heap.size + 1, 0, none⟩ z).setCell ⟨w.heap.size + 1, 1, none⟩ z') P m Y Q N (fun j => l.getD j 0) := by
  subst hN
  obtain ⟨Q', k', e, _, _, hrow⟩ := row_of_owns h.own
  injection e with e1 e2 e3
  subst e1
  have keep : ∀ g (mm : Nat) (X : Nat → Int), mem.Own wr g 2 mm X → mem.Own ((((wr.setCell ⟨w.heap.size, 0, none⟩ x).setCell ⟨w.heap.size, 1, none⟩ y).setCell ⟨w.heap.size + 1, 0, none⟩ z).setCell ⟨w.heap.size + 1, 1, none⟩ z') g 2 mm X := fun g mm X ho => by
    have q1 := row_ne ho h.res
    have q2 := row_ne ho h.res2
    exact (((ho.setOther (a := ⟨w.heap.size, 0, none⟩) q1 _).setOther (a := ⟨w.heap.size, 1, none⟩) q1 _).setOther (a := ⟨w.heap.size + 1, 0, none⟩) q2 _).setOther (a := ⟨w.heap.size + 1, 1, none⟩) q2 _
  exact ⟨h.len, h.len2, row_sl2 h.row fun g _ ho => keep g _ _ ho, row_sl2 hrow fun g _ ho => keep g _ _ ho, Below.setCell (Below.setCell (Below.setCell (Below.setCell h.below (p := ⟨w.heap.size, 0, none⟩) (Nat.le_refl _) _) (p := ⟨w.heap.size, 1, none⟩) (Nat.le_refl _) _) (p := ⟨w.heap.size + 1, 0, none⟩) (Nat.le_succ _) _) (p := ⟨w.heap.size + 1, 1, none⟩) (Nat.le_succ _) _⟩

theorem TwoTw.drew {w w' : World} {P Q : Option Addr} {m k : Nat} {Y Z : Nat → Int} (h : TwoTw w w' P m Y Q k Z) : TwoTw w w'.drew P m Y Q k Z := ⟨h.1, h.2.1, h.2.2.1, h.2.2.2.1, h.2.2.2.2.drew⟩
set_option maxHeartbeats 8000000 in
theorem drawSame_c (A : Option Addr) (n c : Nat) (X : Nat → Int) (w : World) (hn : n ≤ 4096) (hx : Sb w A n X) :
    Calls Tryd.prog 15 #[.slice A n c] w fun e w' => ∃ (P : Option Addr) (m d : Nat) (Y : Nat → Int) (st : Int) (Q : Option Addr) (k h : Nat) (Z : Nat → Int) (su : Int), e = .returned (.tuple #[.agg #[.slice P m d, .int .i64 st], .agg #[.slice Q k h, .int .i64 su]]) ∧ TwoTw w w' P m Y Q k Z := by
  have HX := Lib.hid hx
  have HL := Lib.hid (hx.low (Nat.le_refl w.heap.size))
  obtain ⟨i0, hi0, hz0, hz1, hz2⟩ := info_parts info_num
  obtain ⟨W0, hW0⟩ : ∃ W0, W0 = (w.alloc (.cells #[.slice none 0 0, .int .i64 0] 26)).alloc (.cells #[.slice none 0 0, .int .i64 0] 26) := ⟨_, rfl⟩
  have R0 := Lib.hid (show TwBlk W0 w.heap.size (.slice none 0 0) 0 ∧ TwBlk W0 (w.heap.size + 1) (.slice none 0 0) 0 ∧ Below w.heap.size w W0 from by
    rw [hW0]
    refine ⟨(Go.Deep.blk_alloc_lt _ _ _ (by simp)).trans (Go.Deep.blk_alloc_new _ _), ?_, ((Below.refl _ _).alloc (Nat.le_refl _) _).alloc (by simp) _⟩
    have h2 := Go.Deep.blk_alloc_new (w.alloc (.cells #[.slice none 0 0, .int .i64 0] 26)) (.cells #[.slice none 0 0, .int .i64 0] 26)
    rw [World.size_alloc] at h2
    exact h2)
  have z0 : W0.heap.size = w.heap.size + 2 := by rw [hW0]; simp
  have Z0 := Lib.hid z0
  have HX0 := Lib.hid (hx.below R0.out.2.2 (Nat.le_refl _))
  clear hx
  go_enter Tryd.func15, Tryd.ntmps15
  go_wp2_with fail
  rw [← hW0]
  clear hW0
  refine (from_c A n c _).mono ?_
  rintro e w1 ⟨rfl, s1, hb1⟩
  rw [z0]
  rw [z0] at s1
  have z1 := hb1.size
  have lt1 := s1.lt
  have R1 := Lib.hid (show TwBlk w1 w.heap.size (.slice none 0 0) 0 ∧ TwBlk w1 (w.heap.size + 1) (.slice none 0 0) 0 from ⟨R0.out.1.of_block (hb1.block w.heap.size (by omega)), R0.out.2.1.of_block (hb1.block (w.heap.size + 1) (by omega))⟩)
  have HX1 := Lib.hid (HX0.out.below hb1 (Nat.le_refl _))
  have HB1 := Lib.hid (show Below w.heap.size w w1 from R0.out.2.2.trans (hb1.mono (by omega)))
  have HA1 := Lib.hid (fun (h : 0 < n) x o e => Nat.lt_trans (HL.out h x o e) (show w.heap.size < w.heap.size + 2 by omega))
  have S1 := Lib.hid s1
  clear s1 hb1 R0 HX0 z0
  go_wp2_with fail
  refine (draw_c (w.heap.size + 2) A n c X 0 w1 (by omega) (by omega) HA1.out S1.out HX1.out).mono ?_
  rintro e w2 ⟨P, m, d, Y, st, rfl, ⟨g, rfl, hg1, hg2⟩, hm12, hmd, hdm, hrow, s2, k2⟩
  have z2 := k2.size
  obtain ⟨W3, hW3⟩ : ∃ W3, W3 = w2.alloc (.cells #[.slice (some ⟨g, 0, none⟩) m d, .int .i64 st] 26) := ⟨_, rfl⟩
  obtain ⟨t, ht⟩ : ∃ t, t = w2.heap.size := ⟨_, rfl⟩
  have z3 : W3.heap.size = t + 1 := by rw [hW3, ht]; simp
  have Z3 := Lib.hid z3
  have BB := Lib.hid (show Below w2.heap.size w2 W3 from by rw [hW3]; go_grown)
  have T3 := Lib.hid (show TwBlk W3 t (.slice (some ⟨g, 0, none⟩) m d) st ∧ TwBlk W3 w.heap.size (.slice none 0 0) 0 ∧ TwBlk W3 (w.heap.size + 1) (.slice none 0 0) 0 from
    ⟨by rw [hW3, ht]; exact Go.Deep.blk_alloc_new _ _, (R1.out.1.of_block (k2.block _ (by omega) (by omega))).of_block (BB.out.block _ (by omega)), (R1.out.2.of_block (k2.block _ (by omega) (by omega))).of_block (BB.out.block _ (by omega))⟩)
  have ROW := Lib.hid (show Row W3 w1.heap.size w2.heap.size (some ⟨g, 0, none⟩) m 1 2 Y from hrow.below BB.out (Nat.le_refl _))
  have S3 := Lib.hid (show Src W3 (w.heap.size + 2) A n c 30 from (s2.below BB.out (by omega)).mono (by omega))
  have B3 := Lib.hid (show Below w.heap.size w W3 from (HB1.out.trans ((k2.mono (M := w.heap.size) (by omega)).below (by omega))).trans (BB.out.mono (by omega)))
  have OWNK := Lib.hid (fun (W : World) (hW : Below W3.heap.size W3 W) => own2_s g 0 m d Y W (by omega) (by have := hW.size; omega) (show Ints W g 0 (m * 1) Y from by
    by_cases h0 : 0 < m
    · obtain ⟨g', e, a1, a2, ho⟩ := ROW.out h0
      cases e
      exact (ho.ints).below hW (by omega)
    · intro j hj; omega))
  have KEYSD := Lib.hid (fun (wc : World) (u : Nat) (Q : Option Addr) (k : Nat) (hb : Below W3.heap.size W3 wc) (htw : TwBlk wc u (.slice Q m k) st) (ho : wc.ownsRow (t + 1) 2 1 (.slice Q m k) (iL Y m).length ((iL Y m).map (Value.int .i64))) (hu : t + 1 ≤ u) =>
    (show SD w wc (w.heap.size + 2) w1.heap.size (t + 1) A n c 30 t u (some ⟨g, 0, none⟩) m d Y st (.slice Q m k) (iL Y m) st from
      ⟨by omega, by omega, by omega, by omega, by omega, by omega, by have := hb.size; omega, T3.out.2.1.of_block (hb.block _ (by omega)), T3.out.2.2.of_block (hb.block _ (by omega)), T3.out.1.of_block (hb.block _ (by omega)), htw,
        (fun h0 => by obtain ⟨g', e, a1, a2, ho'⟩ := ROW.out h0; exact ⟨g', e, a1, by omega, ho'.below hb (by omega)⟩), ho, hm12, by rw [iL_len]; omega, S3.out.below hb (by omega), B3.out.trans (hb.mono B3.out.size)⟩))
  clear hrow s2 k2 R1 HX1
  go_wp2_with fail
  rw [← hW3, ← ht]
  clear hW3
  have c0 := T3.out.1.cell0
  have c1 := T3.out.1.cell1
  have htl := T3.out.1.lt
  go_upto_region 3 with fail
  go_cut [6] from 11 to 16 (fun p wc => ∃ (u : Nat) (Q : Option Addr) (k : Nat), p = .pointer (some ⟨u, 0, none⟩) ∧ Hid (SD w wc (w.heap.size + 2) w1.heap.size (t + 1) A n c 30 t u (some ⟨g, 0, none⟩) m d Y st (.slice Q m k) (iL Y m) st))
  case first =>
    have cA : ∀ X, (W3.alloc X).cell? ⟨t, 0, none⟩ = some (.slice (some ⟨g, 0, none⟩) m d) := fun X => ((Below.alloc (Below.refl W3.heap.size W3) (Nat.le_refl _) X).cell (p := ⟨t, 0, none⟩) htl).trans c0
    have cB : ∀ X, (W3.alloc X).cell? ⟨t, 1, none⟩ = some (.int .i64 st) := fun X => ((Below.alloc (Below.refl W3.heap.size W3) (Nat.le_refl _) X).cell (p := ⟨t, 1, none⟩) htl).trans c1
    clear z3 ht
    go_region_law (first
      | (go_simp; go_at_call 49; refine (OWNK.out _ (by go_grown)).mono ?_; rintro e w4 ⟨Q, kk, rfl, ho4, hb4⟩; obtain ⟨hc4, hf4⟩ := bcell hb4; have z4 := hb4.size; simp at z4
         have hB4 : Below W3.heap.size W3 w4 := Below.trans (by go_grown) (hb4.mono (by simp))
         have c0 := (hB4.cell (p := ⟨t, 0, none⟩) htl).trans T3.out.1.cell0
         have c1 := (hB4.cell (p := ⟨t, 1, none⟩) htl).trans T3.out.1.cell1
         have cD : ∀ X, (w4.alloc X).cell? ⟨t, 1, none⟩ = some (.int .i64 st) := fun X => ((Below.alloc (Below.refl w4.heap.size w4) (Nat.le_refl _) X).cell (p := ⟨t, 1, none⟩) (Nat.lt_of_lt_of_le htl hB4.size)).trans c1
         have HO4 := Lib.hid ho4
         have HX4 := Lib.hid hb4
         have HB4 := Lib.hid hB4
         clear ho4 hb4 hB4))
    all_goals
      go_wp2_with fail
      go_meet
      first
        | exact ⟨w4.heap.size, Q, kk, rfl, KEYSD.out _ _ _ _ (HB4.out.alloc HB4.out.size _) (Go.Deep.blk_alloc_new _ _) (owns_low (by have := Z3.out; show t + 1 ≤ W3.heap.size; omega) (HO4.out.alloc _)) (by have := Z3.out; have := HB4.out.size; omega)⟩
        | (have U4 : TwBlk w4 W3.heap.size (.slice none 0 0) 0 := (HX4.out.block W3.heap.size (by simp)).trans (Go.Deep.blk_alloc_new W3 _)
           have O4 : w4.ownsRow (t + 1) 2 1 (.slice Q m kk) (iL Y m).length ((iL Y m).map (Value.int .i64)) := owns_low (by have := Z3.out; simp; omega) HO4.out
           exact ⟨W3.heap.size, Q, kk, rfl, KEYSD.out _ _ _ _ (Below.setCell (Below.setCell HB4.out (p := ⟨W3.heap.size, 0, none⟩) (Nat.le_refl _) _) (p := ⟨W3.heap.size, 1, none⟩) (Nat.le_refl _) _) (TwBlk.put1 (U4.put _) _) (owns_set (owns_set O4 (a := ⟨W3.heap.size, 0, none⟩) (U4.ne O4) _) (a := ⟨W3.heap.size, 1, none⟩) (U4.ne O4) _) (by have := Z3.out; omega)⟩)
  case rest =>
    rename World => w5
    obtain ⟨u, Q, k, rfl, D5⟩ := hcut
    have HXX := Lib.hid (fun (W : World) (h : Below w.heap.size w W) => HX.out.below h (Nat.le_refl _))
    have KEY := Lib.hid (fun (J k h : Int) (wr : World) (h1 : J ≤ 900000000) (h2 : k - 1 ≤ h) (h3 : 0 ≤ h) (h4 : Src wr (w.heap.size + 2) A n c J) (h5 : Below w.heap.size w wr) => pick_c (w.heap.size + 2) A n c X J k h wr (by omega) h1 h2 h3 HA1.out h4 (HXX.out wr h5))
    clear c0 c1 T3 ROW S3 B3 BB OWNK KEYSD ht z3
    go_wp2_with fail
    refine (KEY.out 30 4 3 _ (by omega) (by omega) (by omega) D5.out.src D5.out.below).mono ?_
    rintro e w6 ⟨q, rfl, q0, q1, s6, hw6⟩
    have D6 := Lib.hid (D5.out.wrote hw6 s6)
    clear s6 hw6 D5
    have hlen6 := D6.out.len2
    have e12 : (iL Y m).length ≤ 12 := by rw [iL_len]; omega
    have hq : q = 0 ∨ q = 1 ∨ 2 ≤ q := by omega
    have hLM : ∃ (l2 : List Int), l2 = iL Y m := ⟨_, rfl⟩
    obtain ⟨l2, hl2⟩ := hLM
    have hml : m = l2.length := by rw [hl2, iL_len]
    rw [← hl2] at D6 e12
    subst hml
    clear hl2
    rcases hq with rfl | rfl | hq
    · have d1 := D6.out.tw2.cell1
      have df := D6.out.tw2.frozen 1
      obtain ⟨z, hz⟩ : ∃ z, IntKind.i64.wrap (st + 1) = z := ⟨_, rfl⟩
      have D7 := Lib.hid (D6.out.step z)
      have r0 := D7.out.res.cell0
      have r1 := D7.out.res.cell1
      have rf0 := D7.out.res.frozen 0
      have rf1 := D7.out.res.frozen 1
      have s0 := D7.out.res2.cell0
      have s1 := D7.out.res2.cell1
      have sf0 := D7.out.res2.frozen 0
      have sf1 := D7.out.res2.frozen 1
      have c0 := D7.out.tw.cell0
      have c1 := D7.out.tw.cell1
      have e0 := D7.out.tw2.cell0
      have e1 := D7.out.tw2.cell1
      have hne : w.heap.size ≠ w.heap.size + 1 := by omega
      obtain ⟨n1, n2, n3, n4, _, _, _, _⟩ := D7.out.apart
      go_wp2_with fail
      go_region
      all_goals
        go_wp2
        refine bodyPost_ret (v := .tuple #[.agg #[.slice (some ⟨g, 0, none⟩) l2.length d, .int .i64 st], .agg #[.slice Q l2.length k, .int .i64 z]]) (by simp [results, Tryd.results15, go_sem, r0, r1, s0, s1]) rfl ?_
        exact ⟨_, l2.length, d, Y, st, Q, _, k, _, z, rfl, TwoTw.drew (SD.fin rfl D7.out _ _ _ _)⟩
    · have hl1 : l2.length + 1 ≤ maxLen := by unfold maxLen; omega
      have hl4 : (l2.length + 1) * 8 ≤ 140737488355328 := by omega
      have d0 := D6.out.tw2.cell0
      have z6 := D6.out.hiz
      have zb6 := D6.out.lohi
      have OW := Lib.hid D6.out.own
      go_wp2_with (at_builtin; refine wpList_append_own _ rfl _ _ 24 rfl (t + 1) 2 i0 (.int .i64 0) 1 8 Tryd.underlying24 hi0 hz0 hz1 hz2 rfl (by decide) _ _ _ rfl (OW.out.alloc _) ⟨w6.heap.size, 0, none⟩ 1 1 [.int .i64 1] rfl rfl ?c1 ?c2 hl1 hl4 ?c5 ?_)
      case c1 => intro j u hj; rcases j with _ | j <;> simp at hj; subst hj; go_simp
      case c2 => intro u hu; simp at hu; subst hu; rfl
      case c5 => simp; omega
      intro v' w7 hown7 hgrow7 _
      have hown8 : w7.ownsRow (t + 1) 2 1 v' (l2 ++ [1]).length ((l2 ++ [1]).map (Value.int .i64)) := by simpa using hown7
      obtain ⟨Q2, k2, rfl, _, _, _⟩ := row_of_owns hown8
      have q7 : ∀ k', k' < w6.heap.size → (Value.slice Q l2.length k).ownBlock ≠ some k' → w7.heap[k']? = w6.heap[k']? := fun k' hk hne => (hgrow7.block k' (by simp; omega) (fun e => hne e.symm)).trans (Go.Deep.blk_alloc_lt _ _ _ hk)
      have z7 := hgrow7.size
      simp at z7
      have B7 : Below w.heap.size w w7 := Below.grown (B := w.heap.size) (D6.out.below.alloc D6.out.below.size _) hgrow7 (by have := D6.out.below.size; simp; omega) (fun j hj => by have := owns_ge D6.out.own j hj; have := D6.out.blo; have := D6.out.wb; omega)
      have T7 := D6.out.tw2.of_block (q7 _ D6.out.tw2.lt (D6.out.tw2.ne D6.out.own))
      have d7 := T7.cell0
      have df := T7.frozen 0
      have D7 := Lib.hid (D6.out.app 1 (by omega) hown8 q7 (by omega) B7)
      have hlx : (l2 ++ [1]).length = l2.length + 1 := by simp
      rw [hlx] at D7
      clear hown7 hown8 hgrow7 q7 T7 OW
      have r0 := D7.out.res.cell0
      have r1 := D7.out.res.cell1
      have rf0 := D7.out.res.frozen 0
      have rf1 := D7.out.res.frozen 1
      have s0 := D7.out.res2.cell0
      have s1 := D7.out.res2.cell1
      have sf0 := D7.out.res2.frozen 0
      have sf1 := D7.out.res2.frozen 1
      have c0 := D7.out.tw.cell0
      have c1 := D7.out.tw.cell1
      have e0 := D7.out.tw2.cell0
      have e1 := D7.out.tw2.cell1
      have hne : w.heap.size ≠ w.heap.size + 1 := by omega
      obtain ⟨n1, n2, n3, n4, _, _, _, _⟩ := D7.out.apart
      go_wp2_with fail
      go_region
      all_goals
        go_wp2
        refine bodyPost_ret (v := .tuple #[.agg #[.slice (some ⟨g, 0, none⟩) l2.length d, .int .i64 st], .agg #[.slice Q2 (l2.length + 1) k2, .int .i64 st]]) (by simp [results, Tryd.results15, go_sem, r0, r1, s0, s1]) rfl ?_
        exact ⟨_, l2.length, d, Y, st, Q2, _, k2, _, st, rfl, TwoTw.drew (SD.fin hlx.symm D7.out _ _ _ _)⟩
    · have x0 : (q == 0) = false := by simp; omega
      have x1 : (q == 1) = false := by simp; omega
      have D7 := D6
      have r0 := D7.out.res.cell0
      have r1 := D7.out.res.cell1
      have rf0 := D7.out.res.frozen 0
      have rf1 := D7.out.res.frozen 1
      have s0 := D7.out.res2.cell0
      have s1 := D7.out.res2.cell1
      have sf0 := D7.out.res2.frozen 0
      have sf1 := D7.out.res2.frozen 1
      have c0 := D7.out.tw.cell0
      have c1 := D7.out.tw.cell1
      have e0 := D7.out.tw2.cell0
      have e1 := D7.out.tw2.cell1
      have hne : w.heap.size ≠ w.heap.size + 1 := by omega
      obtain ⟨n1, n2, n3, n4, _, _, _, _⟩ := D7.out.apart
      go_wp2_with fail
      go_region
      all_goals
        go_wp2
        refine bodyPost_ret (v := .tuple #[.agg #[.slice (some ⟨g, 0, none⟩) l2.length d, .int .i64 st], .agg #[.slice Q l2.length k, .int .i64 st]]) (by simp [results, Tryd.results15, go_sem, r0, r1, s0, s1]) rfl ?_
        exact ⟨_, l2.length, d, Y, st, Q, _, k, _, st, rfl, TwoTw.drew (SD.fin rfl D7.out _ _ _ _)⟩

end Go.Proofs.YtopiecbldnhihaaDoor.twl
