/-
  What the law on twills draws: a twill and two numbers, a twill. No condition of a statement lies here.
-/
import Derived.Test.YtopiecbldnhihaaDoorUb
import Derived.BigQuiet
import Derived.Deep.RegionHeld3
import Derived.Deep.AppendLies
import Derived.Deep.RegionLaw
namespace Go.Proofs.YtopiecbldnhihaaDoor.twl
open Go.ChangeShapes Go.WideShapes Go.ChangeAt Go.RowKit Go.Deep Go.Proofs.YtopiecbldnhihaaDoor.mem Go.Proofs.YtopiecbldnhihaaDoor.rod Go.Proofs.YtopiecbldnhihaaDoor.nums Go.Proofs.YtopiecbldnhihaaDoor.shp Go.Proofs.YtopiecbldnhihaaDoor.src
set_option linter.unusedVariables false
set_option maxRecDepth 100000

/-- a twill has been drawn: the answer's block r, the twill's block t, the source's block b; the twill's list lies from lo on -/
structure FD (w wr : World) (b lo : Nat) (A : Option Addr) (n c : Nat) (K : Int) (r t : Nat) (P : Option Addr) (m d : Nat) (Y : Nat → Int) (st : Int) : Prop where
  rlo : w.heap.size ≤ r
  rb : b ≠ r
  tb : b ≠ t
  blo : b < lo
  wb : w.heap.size ≤ b
  res : TwBlk wr r (.slice none 0 0) 0
  tw : TwBlk wr t (.slice P m d) st
  row : Row wr lo wr.heap.size P m 1 2 Y
  ptr : ∃ g, P = some ⟨g, 0, none⟩ ∧ lo ≤ g ∧ g < wr.heap.size
  len : m ≤ 12
  md : m ≤ d
  mx : d ≤ maxLen
  src : Src wr b A n c K
  below : Below w.heap.size w wr
section
variable {w wr w' : World} {b lo n c r t m d : Nat} {A P : Option Addr} {K K' st : Int} {Y : Nat → Int}
theorem FD.alloc (h : FD w wr b lo A n c K r t P m d Y st) (o : Obj) : FD w (wr.alloc o) b lo A n c K r t P m d Y st :=
  { h with
    res := h.res.of_block (Go.Deep.blk_alloc_lt _ _ _ h.res.lt)
    tw := h.tw.of_block (Go.Deep.blk_alloc_lt _ _ _ h.tw.lt)
    row := fun hm => by
      obtain ⟨g, e, h1, h2, ho⟩ := h.row hm
      exact ⟨g, e, h1, by simp; omega, ho.alloc o⟩
    ptr := by obtain ⟨g, e, h1, h2⟩ := h.ptr; exact ⟨g, e, h1, by simp; omega⟩
    src := h.src.below (B := wr.heap.size) (by go_grown) h.src.lt
    below := h.below.alloc h.below.size o }
theorem FD.drew (h : FD w wr b lo A n c K r t P m d Y st) : FD w wr.drew b lo A n c K r t P m d Y st :=
  { h with
    res := h.res
    tw := h.tw
    row := h.row
    src := ⟨h.src.code, h.src.rest, h.src.soft, h.src.lt⟩
    below := h.below.drew }
theorem FD.wrote (h : FD w wr b lo A n c K r t P m d Y st) (hw : WroteIn wr w' b (b + 1)) (hs : Src w' b A n c K') : FD w w' b lo A n c K' r t P m d Y st :=
  { h with
    res := h.res.of_block (hw.block r h.res.lt (by have := h.rb; omega))
    tw := h.tw.of_block (hw.block t h.tw.lt (by have := h.tb; omega))
    row := fun hm => by
      obtain ⟨g, e, h1, h2, ho⟩ := h.row hm
      have := hw.size
      have := h.blo
      exact ⟨g, e, h1, by omega, own_wrote ho hw (by omega)⟩
    ptr := by obtain ⟨g, e, h1, h2⟩ := h.ptr; have := hw.size; exact ⟨g, e, h1, by omega⟩
    src := hs
    below := h.below.trans (hw.below h.below.size h.wb) }
theorem FD.mono (h : FD w wr b lo A n c K r t P m d Y st) (hK : K ≤ K') : FD w wr b lo A n c K' r t P m d Y st := { h with src := h.src.mono hK }
end
/-- the answer is a twill of the call's own -/
def TwNew (w w' : World) (P : Option Addr) (m d : Nat) (Y : Nat → Int) : Prop := (∃ g, P = some ⟨g, 0, none⟩ ∧ g < w'.heap.size) ∧ m ≤ 12 ∧ m ≤ d ∧ d ≤ maxLen ∧ Row w' w.heap.size w'.heap.size P m 1 2 Y ∧ Below w.heap.size w w'
theorem FD.fin {w wr : World} {b lo n c r t m d : Nat} {A P : Option Addr} {K st : Int} {Y : Nat → Int} (h : FD w wr b lo A n c K r t P m d Y st) : TwNew w ((wr.setCell ⟨r, 0, none⟩ (.slice P m d)).setCell ⟨r, 1, none⟩ (.int .i64 st)) P m d Y := by
  refine ⟨by obtain ⟨g, e, h1, h2⟩ := h.ptr; exact ⟨g, e, by simpa using h2⟩, h.len, h.md, h.mx, fun hm => ?_, Below.setCell (Below.setCell h.below (p := ⟨r, 0, none⟩) h.rlo _) (p := ⟨r, 1, none⟩) h.rlo _⟩
  obtain ⟨g, e, h1, h2, ho⟩ := h.row hm
  have hne := row_ne ho h.res
  have := h.blo
  have := h.wb
  exact ⟨g, e, by omega, by simpa using h2, (ho.setOther (a := ⟨r, 0, none⟩) hne _).setOther (a := ⟨r, 1, none⟩) hne _⟩

set_option maxHeartbeats 8000000 in
theorem drawFace_c (A : Option Addr) (n c : Nat) (X : Nat → Int) (w : World) (hn : n ≤ 4096) (hx : Sb w A n X) :
    Calls Tryd.prog 5 #[.slice A n c] w fun e w' => ∃ (P : Option Addr) (m d : Nat) (Y : Nat → Int) (st a b : Int), e = .returned (.tuple #[.agg #[.slice P m d, .int .i64 st], .int .i64 a, .int .i64 b]) ∧ TwNew w w' P m d Y := by
  have HX := Lib.hid hx
  have HL := Lib.hid (hx.low (Nat.le_refl w.heap.size))
  have HX0 := Lib.hid (hx.below (w' := w.alloc (.cells #[.slice none 0 0, .int .i64 0] 26)) (K := w.heap.size) (by go_grown) (Nat.le_refl _))
  have R0 := Lib.hid (show TwBlk (w.alloc (.cells #[.slice none 0 0, .int .i64 0] 26)) w.heap.size (.slice none 0 0) 0 from Go.Deep.blk_alloc_new _ _)
  clear hx
  go_enter Tryd.func5, Tryd.ntmps5
  go_wp2_with fail
  refine (from_c A n c _).mono ?_
  rintro e w1 ⟨rfl, s1, hb1⟩
  have z1 := hb1.size
  have lt1 := s1.lt
  have R1 := Lib.hid (R0.out.of_block (hb1.block w.heap.size (by simp)))
  have HX1 := Lib.hid (HX0.out.below hb1 (Nat.le_refl _))
  have HB1 := Lib.hid (show Below w.heap.size w w1 from Below.trans (by go_grown) (hb1.mono (by simp)))
  simp only [World.size_alloc] at *
  have HA1 := Lib.hid (fun (h : 0 < n) x o e => Nat.lt_succ_of_lt (HL.out h x o e))
  have S1 := Lib.hid s1
  clear s1 hb1 R0 HX0
  go_wp2_with fail
  refine (draw_c (w.heap.size + 1) A n c X 0 w1 (by omega) (by omega) HA1.out S1.out HX1.out).mono ?_
  rintro e w2 ⟨P, m, d, Y, st, rfl, ptr, hm12, hmd, hdm, hrow, s2, k2⟩
  have z2 := k2.size
  have D3 := Lib.hid (show FD w (w2.alloc (.cells #[.slice P m d, .int .i64 st] 26)) (w.heap.size + 1) w1.heap.size A n c 30 w.heap.size w2.heap.size P m d Y st from
    ⟨Nat.le_refl _, by omega, by omega, by omega, by omega, (R1.out.of_block (k2.block w.heap.size (by omega) (by omega))).of_block (Go.Deep.blk_alloc_lt _ _ _ (by omega)), Go.Deep.blk_alloc_new _ _,
      (fun h0 => by obtain ⟨g, e, h1, h2, ho⟩ := hrow h0; exact ⟨g, e, h1, by simp; omega, ho.alloc _⟩), (by obtain ⟨g, e, h1, h2⟩ := ptr; exact ⟨g, e, h1, by simp; omega⟩), hm12, hmd, hdm, (s2.below (B := w2.heap.size) (by go_grown) s2.lt).mono (by omega), (HB1.out.trans ((k2.mono (M := w.heap.size) (by omega)).below (by omega))).alloc (by omega) _⟩)
  have S1 := Lib.hid trivial
  have HXX := Lib.hid (fun (W : World) (h : Below w.heap.size w W) => HX.out.below h (Nat.le_refl _))
  have KEY := Lib.hid (fun (J k h : Int) (wr : World) (h1 : J ≤ 900000000) (h2 : k - 1 ≤ h) (h3 : 0 ≤ h) (h4 : Src wr (w.heap.size + 1) A n c J) (h5 : Below w.heap.size w wr) => pick_c (w.heap.size + 1) A n c X J k h wr (by omega) h1 h2 h3 HA1.out h4 (HXX.out wr h5))
  have ONE := Lib.hid (fun (J k h : Int) (wr : World) (h1 : J ≤ 900000000) (h2 : k - 1 ≤ h) (h3 : 0 ≤ h) (h4 : Src wr (w.heap.size + 1) A n c J) (h5 : Below w.heap.size w wr) => one_c (w.heap.size + 1) A n c X J k h wr (by omega) h1 h2 h3 HA1.out h4 (HXX.out wr h5))
  have AM := Lib.hid (fun (J : Int) (wr : World) (g l d : Nat) (Z : Nat → Int) (h1 : J ≤ 900000000) (h4 : Src wr (w.heap.size + 1) A n c J) (h5 : Below w.heap.size w wr) (l1 : 1 ≤ l) (l2 : l ≤ 10) (hg : w.heap.size + 1 ≠ g) (hgl : g < wr.heap.size) (hz : Ints wr g 0 l Z) => among_c (w.heap.size + 1) A n c X J g l d Z wr (by omega) h1 HA1.out h4 (HXX.out wr h5) l1 l2 hg hgl hz)
  obtain ⟨W3, hW3⟩ : ∃ W3, W3 = w2.alloc (.cells #[.slice P m d, .int .i64 st] 26) := ⟨_, rfl⟩
  obtain ⟨t, ht⟩ : ∃ t, t = w2.heap.size := ⟨_, rfl⟩
  rw [← hW3, ← ht] at D3
  have z3 : t < W3.heap.size := by rw [hW3, ht]; simp
  clear hrow s2 k2 ptr R1 HX1
  go_wp2_with fail
  rw [← hW3, ← ht]
  have htw : w.heap.size + 1 < t := by omega
  have htr : w.heap.size ≠ t := by omega
  clear hW3 ht
  refine (KEY.out 30 14 13 _ (by omega) (by omega) (by omega) D3.out.src D3.out.below).mono ?_
  rintro e w4 ⟨v4, rfl, v40, v41, s4, hw4⟩
  have D4 := Lib.hid (D3.out.wrote hw4 s4)
  have z4 := hw4.size
  clear s4 hw4 D3
  go_wp2_with fail
  refine (ONE.out _ 10 9 _ (by omega) (by omega) (by omega) D4.out.src D4.out.below).mono ?_
  rintro e w5 ⟨q5, rfl, s5, hw5⟩
  have D5 := Lib.hid (D4.out.wrote hw5 s5)
  have z5 := hw5.size
  clear s5 hw5 D4
  go_upto_if 16 with fail
  go_cut [7] from 17 to 19 (fun v wc => ∃ a : Int, v = .int .i64 a ∧ Hid (FD w wc (w.heap.size + 1) w1.heap.size A n c 40 w.heap.size t P m d Y st))
  case first =>
    cases q5
    · go_wp2_with fail
      go_meet
      case rel => exact ⟨_, rfl, D5.out.mono (by omega)⟩
    · have HD := Lib.hid (fun Y => D5.out.alloc Y)
      have t5 := D5.out.tw.lt
      go_wp2_with fail
      refine (AM.out _ _ w5.heap.size 5 5 (fun j => ([-1, 0, 1, 40, 41] : List Int).getD j 0) (by omega) (HD.out _).src (HD.out _).below (by omega) (by omega) (by omega) (by simp) (ints_lit ([-1, 0, 1, 40, 41] : List Int) w5 _)).mono ?_
      rintro e w6 ⟨j, hj, rfl, s6, hw6⟩
      obtain ⟨z, hz⟩ : ∃ z, (fun j => ([-1, 0, 1, 40, 41] : List Int).getD j 0) j = z := ⟨_, rfl⟩
      rw [hz]
      clear hz
      have D6 := Lib.hid ((HD.out _).wrote hw6 s6)
      clear s6 hw6 HD
      go_wp2_with fail
      go_meet
      case rel => exact ⟨_, rfl, D6.out.mono (by omega)⟩
  case rest =>
    rename World => w7
    obtain ⟨a, rfl, D7⟩ := hcut
    have t7 := D7.out.tw.lt
    clear D5
    go_wp2_with fail
    refine (ONE.out _ 10 9 _ (by omega) (by omega) (by omega) D7.out.src D7.out.below).mono ?_
    rintro e w8 ⟨q8, rfl, s8, hw8⟩
    have D8 := Lib.hid (D7.out.wrote hw8 s8)
    have z8 := hw8.size
    clear s8 hw8 D7
    have r0 := D8.out.res.cell0
    have r1 := D8.out.res.cell1
    have rf0 := D8.out.res.frozen 0
    have rf1 := D8.out.res.frozen 1
    have c0 := D8.out.tw.cell0
    have c1 := D8.out.tw.cell1
    cases q8
    · go_wp2_with fail
      go_region_law (first
        | (go_simp; go_at_call 26; refine (KEY.out 42 14 13 _ (by omega) (by omega) (by omega) D8.out.drew.src D8.out.drew.below).mono ?_; rintro e w9 ⟨v9, rfl, v90, v91, s9, hw9⟩
           have D9 := Lib.hid (D8.out.drew.wrote hw9 s9)
           have r0 := D9.out.res.cell0
           have r1 := D9.out.res.cell1
           have rf0 := D9.out.res.frozen 0
           have rf1 := D9.out.res.frozen 1
           have c0 := D9.out.tw.cell0
           have c1 := D9.out.tw.cell1
           clear s9 hw9))
      all_goals
        go_wp2
        refine bodyPost_ret (v := .tuple #[.agg #[.slice P m d, .int .i64 st], .int .i64 _, .int .i64 _]) (by simp [results, Tryd.results5, go_sem, r0, r1]; exact ⟨rfl, rfl⟩) rfl ?_
        exact ⟨P, m, d, Y, st, _, _, rfl, D9.out.fin⟩
    · have HDd := Lib.hid (fun Y => D8.out.drew.alloc Y)
      have cA := fun Y => (D8.out.alloc Y).tw.cell0
      have cB := fun Y => (D8.out.alloc Y).tw.cell1
      go_wp2_with fail
      go_region_law (first
        | (go_simp; go_at_call 28; refine (AM.out 42 _ w8.heap.size 5 5 (fun j => ([-1, 0, 1, 40, 41] : List Int).getD j 0) (by omega) (HDd.out _).src (HDd.out _).below (by omega) (by omega) (by omega) (by simp) (ints_lit ([-1, 0, 1, 40, 41] : List Int) w8.drew _)).mono ?_; rintro e w9 ⟨j, hj, rfl, s9, hw9⟩
           obtain ⟨z, hz⟩ : ∃ z, (fun j => ([-1, 0, 1, 40, 41] : List Int).getD j 0) j = z := ⟨_, rfl⟩
           rw [hz]
           clear hz
           have D9 := Lib.hid ((HDd.out _).wrote hw9 s9)
           have r0 := D9.out.res.cell0
           have r1 := D9.out.res.cell1
           have rf0 := D9.out.res.frozen 0
           have rf1 := D9.out.res.frozen 1
           have c0 := D9.out.tw.cell0
           have c1 := D9.out.tw.cell1
           clear s9 hw9))
      all_goals
        go_wp2
        refine bodyPost_ret (v := .tuple #[.agg #[.slice P m d, .int .i64 st], .int .i64 _, .int .i64 _]) (by simp [results, Tryd.results5, go_sem, r0, r1]; exact ⟨rfl, rfl⟩) rfl ?_
        exact ⟨P, m, d, Y, st, _, _, rfl, D9.out.fin⟩

set_option maxHeartbeats 8000000 in
theorem drawBack_c (A : Option Addr) (n c : Nat) (X : Nat → Int) (w : World) (hn : n ≤ 4096) (hx : Sb w A n X) :
    Calls Tryd.prog 10 #[.slice A n c] w fun e w' => ∃ (P : Option Addr) (m d : Nat) (Y : Nat → Int) (st : Int), e = .returned (.agg #[.slice P m d, .int .i64 st]) ∧ TwNew w w' P m d Y := by
  have HX := Lib.hid hx
  have HL := Lib.hid (hx.low (Nat.le_refl w.heap.size))
  have HX0 := Lib.hid (hx.below (w' := w.alloc (.cells #[.slice none 0 0, .int .i64 0] 26)) (K := w.heap.size) (by go_grown) (Nat.le_refl _))
  have R0 := Lib.hid (show TwBlk (w.alloc (.cells #[.slice none 0 0, .int .i64 0] 26)) w.heap.size (.slice none 0 0) 0 from Go.Deep.blk_alloc_new _ _)
  clear hx
  go_enter Tryd.func10, Tryd.ntmps10
  go_wp2_with fail
  refine (from_c A n c _).mono ?_
  rintro e w1 ⟨rfl, s1, hb1⟩
  have z1 := hb1.size
  have lt1 := s1.lt
  have R1 := Lib.hid (R0.out.of_block (hb1.block w.heap.size (by simp)))
  have HX1 := Lib.hid (HX0.out.below hb1 (Nat.le_refl _))
  have HB1 := Lib.hid (show Below w.heap.size w w1 from Below.trans (by go_grown) (hb1.mono (by simp)))
  simp only [World.size_alloc] at *
  have HA1 := Lib.hid (fun (h : 0 < n) x o e => Nat.lt_succ_of_lt (HL.out h x o e))
  have S1 := Lib.hid s1
  clear s1 hb1 R0 HX0
  go_wp2_with fail
  refine (draw_c (w.heap.size + 1) A n c X 0 w1 (by omega) (by omega) HA1.out S1.out HX1.out).mono ?_
  rintro e w2 ⟨P, m, d, Y, st, rfl, ptr, hm12, hmd, hdm, hrow, s2, k2⟩
  have z2 := k2.size
  have R2 := R1.out.of_block (k2.block w.heap.size (by omega) (by omega))
  have r0 := R2.cell0
  have r1 := R2.cell1
  have rf0 := R2.frozen 0
  have rf1 := R2.frozen 1
  have HT := Lib.hid (show TwNew w ((w2.setCell ⟨w.heap.size, 0, none⟩ (.slice P m d)).setCell ⟨w.heap.size, 1, none⟩ (.int .i64 st)) P m d Y from by
    refine ⟨by obtain ⟨g, e, h1, h2⟩ := ptr; exact ⟨g, e, by simpa using h2⟩, hm12, hmd, hdm, fun hm => ?_, Below.setCell (Below.setCell (HB1.out.trans ((k2.mono (M := w.heap.size) (by omega)).below (by omega))) (p := ⟨w.heap.size, 0, none⟩) (Nat.le_refl _) _) (p := ⟨w.heap.size, 1, none⟩) (Nat.le_refl _) _⟩
    obtain ⟨g, e, h1, h2, ho⟩ := hrow hm
    have hne := row_ne ho R2
    exact ⟨g, e, by omega, by simpa using h2, (ho.setOther (a := ⟨w.heap.size, 0, none⟩) hne _).setOther (a := ⟨w.heap.size, 1, none⟩) hne _⟩)
  clear hrow s2 k2 ptr R1 R2 HX1 HX HL HA1
  go_wp2
  refine bodyPost_ret (v := .agg #[.slice P m d, .int .i64 st]) (by simp [results, Tryd.results10, go_sem, r0, r1]) rfl ?_
  exact ⟨P, m, d, Y, st, rfl, HT.out⟩

end Go.Proofs.YtopiecbldnhihaaDoor.twl
