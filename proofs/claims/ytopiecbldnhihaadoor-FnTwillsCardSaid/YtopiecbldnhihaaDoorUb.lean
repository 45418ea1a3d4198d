/-
  A twill that is drawn from bytes. No condition of a statement lies here.
-/
import Derived.Test.YtopiecbldnhihaaDoorUa
import Derived.BigQuiet
import Derived.Deep.RegionHeld3
import Derived.Deep.AppendLies
import Derived.Deep.RegionLaw
namespace Go.Proofs.YtopiecbldnhihaaDoor.twl
open Go.ChangeShapes Go.WideShapes Go.ChangeAt Go.RowKit Go.Deep Go.Proofs.YtopiecbldnhihaaDoor.mem Go.Proofs.YtopiecbldnhihaaDoor.rod Go.Proofs.YtopiecbldnhihaaDoor.nums Go.Proofs.YtopiecbldnhihaaDoor.shp Go.Proofs.YtopiecbldnhihaaDoor.src
set_option linter.unusedVariables false
set_option maxRecDepth 100000

theorem row_ne {w : World} {g n r : Nat} {X : Nat → Int} {v : Value} {st : Int} (h : mem.Own w g 2 n X) (k : TwBlk w r v st) : g ≠ r := by
  rintro rfl
  obtain ⟨c, hb, _⟩ := h
  unfold TwBlk at k
  rw [k] at hb
  injection hb with hb
  injection hb with _ hb _
  exact absurd hb (by decide)
/-- ahead of the return: the answer's block r, the twill's block t -/
structure Drn (w wr : World) (b : Nat) (A : Option Addr) (n c : Nat) (K : Int) (r t : Nat) (P : Option Addr) (m d : Nat) (Y : Nat → Int) (st : Int) : Prop where
  rlo : w.heap.size ≤ r
  rb : b ≠ r
  res : TwBlk wr r (.slice none 0 0) 0
  tw : TwBlk wr t (.slice P m d) st
  ptr : ∃ g, P = some ⟨g, 0, none⟩ ∧ w.heap.size ≤ g ∧ g < wr.heap.size
  row : Row wr w.heap.size wr.heap.size P m 1 2 Y
  len : m ≤ 12
  md : m ≤ d
  mx : d ≤ maxLen
  src : Src wr b A n c K
  kept : Kept w.heap.size b w wr
/-- the answer is a twill of the call's own, and the source lies on -/
def DrawnT (w : World) (b : Nat) (A : Option Addr) (n c : Nat) (K : Int) (e : Ending) (w' : World) : Prop :=
  ∃ (P : Option Addr) (m d : Nat) (Y : Nat → Int) (st : Int), e = .returned (.agg #[.slice P m d, .int .i64 st]) ∧ (∃ g, P = some ⟨g, 0, none⟩ ∧ w.heap.size ≤ g ∧ g < w'.heap.size) ∧ m ≤ 12 ∧ m ≤ d ∧ d ≤ maxLen ∧ Row w' w.heap.size w'.heap.size P m 1 2 Y ∧ Src w' b A n c K ∧ Kept w.heap.size b w w'
theorem Drn.fin {w wr : World} {b n c r t m d : Nat} {A P : Option Addr} {K st : Int} {Y : Nat → Int} (h : Drn w wr b A n c K r t P m d Y st) : DrawnT w b A n c K (.returned (.agg #[.slice P m d, .int .i64 st])) ((wr.setCell ⟨r, 0, none⟩ (.slice P m d)).setCell ⟨r, 1, none⟩ (.int .i64 st)) := by
  refine ⟨P, m, d, Y, st, rfl, (by obtain ⟨g, e, h1, h2⟩ := h.ptr; exact ⟨g, e, h1, by simpa using h2⟩), h.len, h.md, h.mx, fun hm => ?_, (h.src.set (a := ⟨r, 0, none⟩) h.rb _).set (a := ⟨r, 1, none⟩) h.rb _, Kept.set (Kept.set h.kept (a := ⟨r, 0, none⟩) h.rlo _) (a := ⟨r, 1, none⟩) h.rlo _⟩
  obtain ⟨g, e, h1, h2, ho⟩ := h.row hm
  have hne := row_ne ho h.res
  exact ⟨g, e, h1, by simpa using h2, (ho.setOther (a := ⟨r, 0, none⟩) hne _).setOther (a := ⟨r, 1, none⟩) hne _⟩
section
variable {w wr w' : World} {b n c r t m d : Nat} {A P : Option Addr} {K K' st : Int} {Y : Nat → Int}
theorem Drn.alloc (h : Drn w wr b A n c K r t P m d Y st) (o : Obj) : Drn w (wr.alloc o) b A n c K r t P m d Y st :=
  ⟨h.rlo, h.rb, h.res.of_block (Go.Deep.blk_alloc_lt _ _ _ h.res.lt), h.tw.of_block (Go.Deep.blk_alloc_lt _ _ _ h.tw.lt), (by obtain ⟨g, e, h1, h2⟩ := h.ptr; exact ⟨g, e, h1, by simp; omega⟩), fun hm => by
    obtain ⟨g, e, h1, h2, ho⟩ := h.row hm
    exact ⟨g, e, h1, by simp; omega, ho.alloc o⟩, h.len, h.md, h.mx, h.src.below (B := wr.heap.size) (by go_grown) h.src.lt, h.kept.alloc (Nat.le_refl _) o⟩
theorem Drn.wrote (h : Drn w wr b A n c K r t P m d Y st) (hb : b < w.heap.size) (htb : b ≠ t) (hw : WroteIn wr w' b (b + 1)) (hs : Src w' b A n c K') : Drn w w' b A n c K' r t P m d Y st :=
  ⟨h.rlo, h.rb, h.res.of_block (hw.block r h.res.lt (by have := h.rlo; omega)), h.tw.of_block (hw.block t h.tw.lt (by omega)), (by obtain ⟨g, e, h1, h2⟩ := h.ptr; have := hw.size; exact ⟨g, e, h1, by omega⟩), fun hm => by
    obtain ⟨g, e, h1, h2, ho⟩ := h.row hm
    have := hw.size
    exact ⟨g, e, h1, by omega, own_wrote ho hw (by omega)⟩, h.len, h.md, h.mx, hs, h.kept.wrote hw (Nat.le_refl _)⟩
theorem TwBlk.put1 {v : Value} (h : TwBlk wr t v st) (u : Int) : TwBlk (wr.setCell ⟨t, 1, none⟩ (.int .i64 u)) t v u := by
  unfold TwBlk at h ⊢
  simp [World.setCell, Array.getElem?_modify, h]
theorem owns_low {B B' n size : Nat} {E : TypeId} {v : Value} {xs : List Value} (hB : B ≤ B') (h : wr.ownsRow B' E size v n xs) : wr.ownsRow B E size v n xs := ⟨h.1, h.2.imp id fun ⟨g, cap, cur, e, hg, r⟩ => ⟨g, cap, cur, e, by omega, r⟩⟩
theorem Drn.drew (h : Drn w wr b A n c K r t P m d Y st) : Drn w wr.drew b A n c K r t P m d Y st := ⟨h.rlo, h.rb, h.res, h.tw, h.ptr, h.row, h.len, h.md, h.mx, ⟨h.src.code, h.src.rest, h.src.soft, h.src.lt⟩, ⟨h.kept.os, h.kept.tape, h.kept.output, h.kept.size, h.kept.block⟩⟩
theorem Drn.mk2 (rlo : w.heap.size ≤ r) (rb : b ≠ r) (hrt : r ≠ t) (hbt : b ≠ t) (ht : w.heap.size ≤ t) (res : TwBlk wr r (.slice none 0 0) 0) {v : Value} (tw : TwBlk wr t v st) {P' : Option Addr} {m' d' : Nat} {Y' : Nat → Int} (ptr' : ∃ g, P' = some ⟨g, 0, none⟩ ∧ w.heap.size ≤ g ∧ g < wr.heap.size) (row' : Row wr w.heap.size wr.heap.size P' m' 1 2 Y') (l' : m' ≤ 12) (md' : m' ≤ d') (mx' : d' ≤ maxLen) (src : Src wr b A n c K) (kept : Kept w.heap.size b w wr) :
    Drn w (wr.setCell ⟨t, 0, none⟩ (.slice P' m' d')) b A n c K r t P' m' d' Y' st :=
  ⟨rlo, rb, res.other hrt _, tw.put _, (by obtain ⟨g, e, h1, h2⟩ := ptr'; exact ⟨g, e, h1, by simpa using h2⟩), fun hm => by
    obtain ⟨g, e, h1, h2, ho⟩ := row' hm
    exact ⟨g, e, h1, by simpa using h2, ho.setOther (a := ⟨t, 0, none⟩) (row_ne ho tw) _⟩, l', md', mx', src.set (a := ⟨t, 0, none⟩) hbt _, kept.set (a := ⟨t, 0, none⟩) ht _⟩
theorem Drn.poke (h : Drn w wr b A n c K r t P m d Y st) {g : Nat} (hP : P = some ⟨g, 0, none⟩) (hg : w.heap.size ≤ g) (ho : mem.Own wr g 2 m Y) (hbg : b ≠ g) (i : Nat) (z : Int) : Drn w (wr.setCell ⟨g, i, none⟩ (.int .i64 z)) b A n c K r t P m d (fun j => if j = i then z else Y j) st := by
  have h1 := row_ne ho h.res
  have h2 := row_ne ho h.tw
  exact ⟨h.rlo, h.rb, h.res.other (a := ⟨g, i, none⟩) (by show r ≠ g; omega) _, h.tw.other (a := ⟨g, i, none⟩) (by show t ≠ g; omega) _, (by obtain ⟨g, e, h1, h2⟩ := h.ptr; exact ⟨g, e, h1, by simpa using h2⟩), fun hm => ⟨g, hP, hg, by simpa using ho.lt, by rw [Nat.mul_one]; exact ho.set i z⟩, h.len, h.md, h.mx, h.src.set (a := ⟨g, i, none⟩) hbg _, h.kept.set (a := ⟨g, i, none⟩) hg _⟩
theorem ints_lit (l : List Int) (W : World) (E : TypeId) : Ints (W.alloc (.cells (l.map (Value.int .i64)).toArray E)) W.heap.size 0 l.length (fun j => l.getD j 0) := fun i hi => by
  have hh : (W.alloc (.cells (l.map (Value.int .i64)).toArray E)).heap[W.heap.size]? = some (.cells (l.map (Value.int .i64)).toArray E) := Go.Deep.blk_alloc_new _ _
  unfold World.cell?
  rw [hh]
  simp [List.getD, hi]
theorem Drn.put (h : Drn w wr b A n c K r t P m d Y st) (hrt : r ≠ t) (hbt : b ≠ t) (ht : w.heap.size ≤ t) {P' : Option Addr} {m' d' : Nat} {Y' : Nat → Int} (ptr' : ∃ g, P' = some ⟨g, 0, none⟩ ∧ w.heap.size ≤ g ∧ g < wr.heap.size) (row' : Row wr w.heap.size wr.heap.size P' m' 1 2 Y') (l' : m' ≤ 12) (md' : m' ≤ d') (mx' : d' ≤ maxLen) :
    Drn w (wr.setCell ⟨t, 0, none⟩ (.slice P' m' d')) b A n c K r t P' m' d' Y' st :=
  ⟨h.rlo, h.rb, h.res.other hrt _, h.tw.put _, (by obtain ⟨g, e, h1, h2⟩ := ptr'; exact ⟨g, e, h1, by simpa using h2⟩), fun hm => by
    obtain ⟨g, e, h1, h2, ho⟩ := row' hm
    exact ⟨g, e, h1, by simpa using h2, ho.setOther (a := ⟨t, 0, none⟩) (row_ne ho h.tw) _⟩, l', md', mx', h.src.set (a := ⟨t, 0, none⟩) hbt _, h.kept.set (a := ⟨t, 0, none⟩) ht _⟩
theorem Drn.step (h : Drn w wr b A n c K r t P m d Y st) (hrt : r ≠ t) (hbt : b ≠ t) (ht : w.heap.size ≤ t) (u : Int) : Drn w (wr.setCell ⟨t, 1, none⟩ (.int .i64 u)) b A n c K r t P m d Y u :=
  ⟨h.rlo, h.rb, h.res.other (a := ⟨t, 1, none⟩) hrt _, h.tw.put1 u, (by obtain ⟨g, e, h1, h2⟩ := h.ptr; exact ⟨g, e, h1, by simpa using h2⟩), fun hm => by
    obtain ⟨g, e, h1, h2, ho⟩ := h.row hm
    exact ⟨g, e, h1, by simpa using h2, ho.setOther (a := ⟨t, 1, none⟩) (row_ne ho h.tw) _⟩, h.len, h.md, h.mx, h.src.set (a := ⟨t, 1, none⟩) hbt _, h.kept.set (a := ⟨t, 1, none⟩) ht _⟩
theorem Drn.mono (h : Drn w wr b A n c K r t P m d Y st) (hK : K ≤ K') : Drn w wr b A n c K' r t P m d Y st := { h with src := h.src.mono hK }
end

set_option maxHeartbeats 8000000 in
theorem draw_c (b : Nat) (A : Option Addr) (n c : Nat) (X : Nat → Int) (K : Int) (w : World) (hn : n ≤ 4096) (hK : K ≤ 700000000) (hA : 0 < n → ∀ x o, A = some ⟨x, o, none⟩ → x < b) (hs : Src w b A n c K) (hx : Sb w A n X) :
    Calls Tryd.prog 25 #[.pointer (some ⟨b, 0, none⟩)] w (DrawnT w b A n c (K + 30)) := by
  have hlt := hs.lt
  have KEY := Lib.hid (fun (J m h : Int) (wr : World) (h1 : J ≤ 900000000) (h2 : m - 1 ≤ h) (h3 : 0 ≤ h) (h4 : Src wr b A n c J) (h5 : Kept w.heap.size b w wr) => pick_c b A n c X J m h wr hn h1 h2 h3 hA h4 (hx.kept h5 hA (by omega)))
  have AM := Lib.hid (fun (J : Int) (wr : World) (g l d : Nat) (Z : Nat → Int) (h1 : J ≤ 900000000) (h4 : Src wr b A n c J) (h5 : Kept w.heap.size b w wr) (l1 : 1 ≤ l) (l2 : l ≤ 10) (hg : b ≠ g) (hgl : g < wr.heap.size) (hz : Ints wr g 0 l Z) => among_c b A n c X J g l d Z wr hn h1 hA h4 (hx.kept h5 hA (by omega)) l1 l2 hg hgl hz)
  obtain ⟨i0, hi0, hz0, hz1, hz2⟩ := info_parts info_num
  have R0 := Lib.hid (show TwBlk (w.alloc (.cells #[.slice none 0 0, .int .i64 0] 26)) w.heap.size (.slice none 0 0) 0 from Go.Deep.blk_alloc_new _ _)
  have S0 := Lib.hid (show Src (w.alloc (.cells #[.slice none 0 0, .int .i64 0] 26)) b A n c K from hs.below (B := w.heap.size) (by go_grown) hlt)
  have K0 := Lib.hid (show Kept w.heap.size b w (w.alloc (.cells #[.slice none 0 0, .int .i64 0] 26)) from (Kept.refl _ _ _).alloc (Nat.le_refl _) _)
  have NEW := Lib.hid (fun (wr : World) (h4 : Src wr b A n c K) (h5 : Kept w.heap.size b w wr) => new_c b A n c X K wr hn (by omega) hA h4 (hx.kept h5 hA (by omega)))
  clear hs hx hA
  go_enter Tryd.func25, Tryd.ntmps25
  go_wp2_with fail
  refine (NEW.out _ S0.out K0.out).mono ?_
  rintro e w1 ⟨g, d, l, st, rfl, hl2, hl6, hsm, hd1, hd2, hg0, ho1, hr1, s1, k1⟩
  have z1 := k1.size
  simp at z1 hg0
  have hgl := ho1.lt
  obtain ⟨W1, hW1⟩ : ∃ W1, W1 = w1.alloc (.cells #[.slice (some ⟨g, 0, none⟩) l.length d, .int .i64 st] 26) := ⟨_, rfl⟩
  obtain ⟨t, ht⟩ : ∃ t, t = w1.heap.size := ⟨_, rfl⟩
  have D1 := Lib.hid (show Drn w W1 b A n c (K + 20) w.heap.size t (some ⟨g, 0, none⟩) l.length d (fun j => l.getD j 0) st from by
    rw [hW1, ht]
    refine ⟨Nat.le_refl _, by omega, (R0.out.of_block (k1.block w.heap.size (by simp) (by omega))).of_block (Go.Deep.blk_alloc_lt _ _ _ (by omega)), Go.Deep.blk_alloc_new _ _, ⟨g, rfl, by omega, by simp; omega⟩, fun _ => ⟨g, rfl, by omega, by simp; omega, by rw [Nat.mul_one]; exact ho1.alloc _⟩, by omega, hd1, hd2, s1.below (B := w1.heap.size) (by go_grown) (by omega), ?_⟩
    exact Kept.alloc (show Kept w.heap.size b w w1 from ⟨k1.os, k1.tape, k1.output, by omega, fun k hk hb => (k1.block k (by simp; omega) hb).trans (Go.Deep.blk_alloc_lt _ _ _ hk)⟩) (Nat.le_refl _) _)
  have OR1 := Lib.hid (show W1.ownsRow w.heap.size 2 1 (.slice (some ⟨g, 0, none⟩) l.length d) l.length (l.map (Value.int .i64)) from by rw [hW1]; exact owns_low (by simp) (hr1.alloc _))
  have O1 := Lib.hid (show mem.Own W1 g 2 l.length (fun j => l.getD j 0) from by rw [hW1]; exact ho1.alloc _)
  have htr : w.heap.size < t := by omega
  have htb : b ≠ t := by omega
  clear s1 k1 ho1 hr1 R0 S0 K0 NEW
  go_wp2_with fail
  rw [← hW1]
  rw [← ht]
  clear hW1 ht
  refine (KEY.out (K + 20) 20 19 _ (by omega) (by omega) (by omega) D1.out.src D1.out.kept).mono ?_
  rintro e w2 ⟨q, rfl, q0, q1, s2, hw2⟩
  have z2 := hw2.size
  have hgW := O1.out.lt
  have OR2 := Lib.hid (owns_wrote1 OR1.out hw2 hlt)
  have O2 := Lib.hid (own_wrote O1.out hw2 (by omega))
  have D2 := Lib.hid (show Drn w w2 b A n c (K + 22) w.heap.size t (some ⟨g, 0, none⟩) l.length d (fun j => l.getD j 0) st from
    ⟨Nat.le_refl _, by omega, D1.out.res.of_block (hw2.block w.heap.size D1.out.res.lt (by omega)), D1.out.tw.of_block (hw2.block t D1.out.tw.lt (by omega)), ⟨g, rfl, by omega, O2.out.lt⟩, fun _ => ⟨g, rfl, by omega, O2.out.lt, by rw [Nat.mul_one]; exact O2.out⟩, by omega, hd1, hd2, s2.mono (by omega), D1.out.kept.wrote hw2 (Nat.le_refl _)⟩)
  clear s2 hw2 D1 O1
  have hrt : w.heap.size ≠ t := by omega
  have hq : q = 0 ∨ q = 1 ∨ q = 2 ∨ q = 3 ∨ q = 4 ∨ 5 ≤ q := by omega
  rcases hq with rfl | rfl | rfl | rfl | rfl | hq
  · have HDd := Lib.hid (fun Y => D2.out.drew.alloc Y)
    have HDz := Lib.hid D2.out.drew
    have b0 : (0 : Int) < (l.length : Int) := by omega
    have b0n : 0 < l.length := by omega
    have c0 := D2.out.tw.cell0
    have cA := fun Y => (D2.out.alloc Y).tw.cell0
    have hgb : b ≠ g := by omega
    have hz2 := O2.out.lt
    go_wp2_with fail
    go_region_law (first
      | (go_simp; go_at_call 28; refine (AM.out (K + 22) _ w2.heap.size 7 7 (fun j => ([-1, 0, 1, 11, 12, 13, -9223372036854775808] : List Int).getD j 0) (by omega) (HDd.out _).src (HDd.out _).kept (by omega) (by omega) (by omega) (by simp) (ints_lit [-1, 0, 1, 11, 12, 13, -9223372036854775808] w2.drew _)).mono ?_; rintro e w3 ⟨j, hj, rfl, s3, hw3⟩
         obtain ⟨z, hz⟩ : ∃ z, (fun j => ([-1, 0, 1, 11, 12, 13, -9223372036854775808] : List Int).getD j 0) j = z := ⟨_, rfl⟩
         rw [hz]
         clear hz
         have D3 := Lib.hid ((HDd.out _).wrote hlt htb hw3 s3)
         have O3 := Lib.hid (own_wrote (Own.alloc O2.out.drew _) hw3 (by omega))
         have c0 := D3.out.tw.cell0
         have p0 := O3.out.cell (j := 0) b0n
         have p1 := O3.out.frozen 0
         have hbw := hw3.size
         clear hw3 s3))
    all_goals
      have D := Lib.hid ((D3.out.poke rfl (by omega) O3.out hgb 0 z).mono (K' := K + 30) (by omega))
      have r0 := D.out.res.cell0
      have r1 := D.out.res.cell1
      have rf0 := D.out.res.frozen 0
      have rf1 := D.out.res.frozen 1
      have c0 := D.out.tw.cell0
      have c1 := D.out.tw.cell1
      have f0 := D.out.tw.frozen 0
      have f1 := D.out.tw.frozen 1
      have E0 := Lib.hid trivial
      clear D3 O3 HDd HDz D2 O2 cA
      go_wp2
      refine bodyPost_ret (v := .agg #[.slice (some ⟨g, 0, none⟩) l.length d, .int .i64 st]) (by simp [results, Tryd.results25, go_sem, r0, r1]) rfl ?_
      exact D.out.fin
  · have HW2 := Lib.hid (width_s (some ⟨g, 0, none⟩) l.length d t (fun j => l.getD j 0) w2 (by omega) (fun k hk => by have := hsm k hk; omega) (fun _ => ⟨g, 0, rfl, O2.out.lt, fun j hj => by rw [Nat.zero_add]; exact O2.out.cell (by omega)⟩) D2.out.tw.cell0)
    have hbd := sumN_bd (X := fun j => l.getD j 0) (n := l.length) (fun k hk => by have := hsm k hk; omega)
    generalize sumN (fun j => l.getD j 0) l.length = S at *
    obtain ⟨hb0, hb1⟩ := hbd
    have hS : S ≤ 100 := by omega
    have HD := Lib.hid (fun Y => D2.out.alloc Y)
    go_wp2_with (go_at_call 45; refine HW2.out.mono ?_; rintro e w' ⟨rfl, rfl⟩)
    refine (AM.out (K + 22) _ w2.heap.size 5 5 (fun j => ([-1, 0, 1, S - 1, S] : List Int).getD j 0) (by omega) (HD.out _).src (HD.out _).kept (by omega) (by omega) (by omega) (by simp) (ints_lit [-1, 0, 1, S - 1, S] w2 _)).mono ?_
    rintro e w3 ⟨j, hj, rfl, s3, hw3⟩
    obtain ⟨z, hz⟩ : ∃ z, (fun j => ([-1, 0, 1, S - 1, S] : List Int).getD j 0) j = z := ⟨_, rfl⟩
    rw [hz]
    clear hz
    have D3 := Lib.hid ((HD.out _).wrote hlt htb hw3 s3)
    have r0 := D3.out.res.cell0
    have r1 := D3.out.res.cell1
    have rf0 := D3.out.res.frozen 0
    have rf1 := D3.out.res.frozen 1
    have c0 := D3.out.tw.cell0
    have c1 := D3.out.tw.cell1
    have f0 := D3.out.tw.frozen 0
    have f1 := D3.out.tw.frozen 1
    have D := Lib.hid ((D3.out.step hrt htb (Nat.le_of_lt htr) z).mono (K' := K + 30) (by omega))
    clear D3 HD D2 O2 hw3 s3 HW2
    go_wp2
    refine bodyPost_ret (v := .agg #[.slice (some ⟨g, 0, none⟩) l.length d, .int .i64 z]) (by simp [results, Tryd.results25, go_sem, r0, r1]) rfl ?_
    exact D.out.fin
  · have hl1 : l.length + 1 ≤ maxLen := by unfold maxLen; omega
    have hl2 : (l.length + 1) * 8 ≤ 140737488355328 := by omega
    have HD := Lib.hid (fun Y => D2.out.alloc Y)
    have r0 := fun Y => (HD.out Y).res.cell0
    have r1 := fun Y => (HD.out Y).res.cell1
    have rf0 := fun Y => (HD.out Y).res.frozen 0
    have rf1 := fun Y => (HD.out Y).res.frozen 1
    have c0 := fun Y => (HD.out Y).tw.cell0
    have c1 := fun Y => (HD.out Y).tw.cell1
    have f0 := fun Y => (HD.out Y).tw.frozen 0
    have f1 := fun Y => (HD.out Y).tw.frozen 1
    have c00 := D2.out.tw.cell0
    go_wp2_with (at_builtin; go_loud (refine wpList_append_own _ rfl _ _ 24 rfl w.heap.size 2 i0 (.int .i64 0) 1 8 Tryd.underlying24 hi0 hz0 hz1 hz2 rfl (by decide) _ _ _ rfl (OR2.out.alloc _) ⟨w2.heap.size, 0, none⟩ 1 1 [.int .i64 1] rfl rfl ?c1 ?c2 hl1 hl2 ?c5 ?_))
    case c1 => intro j u hj; rcases j with _ | j <;> simp at hj; subst hj; go_simp
    case c2 => intro u hu; simp at hu; subst hu; rfl
    case c5 => simp; omega
    intro v' w3 hown3 hgrow3 _
    have hown4 : w3.ownsRow w.heap.size 2 1 v' (l ++ [1]).length ((l ++ [1]).map (Value.int .i64)) := by simpa using hown3
    obtain ⟨A4, c4, rfl, hc1, hc2, hrow4⟩ := row_of_owns hown4
    have q3 : ∀ k, k < w2.heap.size → k ≠ g → w3.heap[k]? = w2.heap[k]? := fun k hk hne => (hgrow3.block k (by simp; omega) (fun e => hne (by simpa [Value.ownBlock] using e))).trans (Go.Deep.blk_alloc_lt _ _ _ hk)
    have z3 := hgrow3.size
    simp at z3
    have hgr : g ≠ w.heap.size := row_ne O2.out D2.out.res
    have hgt : g ≠ t := row_ne O2.out D2.out.tw
    have T3 := D2.out.tw.of_block (q3 t D2.out.tw.lt (by omega))
    have R3 := D2.out.res.of_block (q3 w.heap.size D2.out.res.lt (by omega))
    have S3 := (D2.out.src.of_block (q3 b D2.out.src.lt (by omega)) (by omega)).mono (K' := K + 30) (by omega)
    have K3 := (D2.out.kept.alloc (Nat.le_refl _) _).grown (Nat.le_refl _) hgrow3 (owns_ge OR2.out)
    have D := Lib.hid (Drn.mk2 (w := w) (r := w.heap.size) (Nat.le_refl _) (by omega) hrt htb (Nat.le_of_lt htr) R3 T3 (by obtain ⟨x, e, h1, h2, _⟩ := hrow4 (by simp); exact ⟨x, e, h1, h2⟩) hrow4 (by simp; omega) hc1 hc2 S3 K3)
    have r0 := R3.cell0
    have r1 := R3.cell1
    have rf0 := R3.frozen 0
    have rf1 := R3.frozen 1
    have c0 := T3.cell0
    have c1 := T3.cell1
    have f0 := T3.frozen 0
    have f1 := T3.frozen 1
    have hlen1 : (l ++ [1]).length = l.length + 1 := by simp
    rw [hlen1] at D
    clear HD D2 O2 OR2 hown3 hown4 hgrow3 q3 R3 T3 S3 K3 hrow4
    go_wp2
    refine bodyPost_ret (v := .agg #[.slice A4 (l.length + 1) c4, .int .i64 st]) (by simp [results, Tryd.results25, go_sem, r0, r1]) rfl ?_
    exact D.out.fin
  · have HD := Lib.hid (fun Y => (D2.out.alloc Y).mono (K' := K + 30) (by omega))
    have r0 := fun Y => (HD.out Y).res.cell0
    have r1 := fun Y => (HD.out Y).res.cell1
    have rf0 := fun Y => (HD.out Y).res.frozen 0
    have rf1 := fun Y => (HD.out Y).res.frozen 1
    have c0 := fun Y => (HD.out Y).tw.cell0
    have c1 := fun Y => (HD.out Y).tw.cell1
    have f0 := fun Y => (HD.out Y).tw.frozen 0
    have f1 := fun Y => (HD.out Y).tw.frozen 1
    have D := Lib.hid ((HD.out (.cells #[] 2)).put hrt htb (Nat.le_of_lt htr) (P' := some ⟨w2.heap.size, 0, none⟩) (m' := 0) (d' := 0) (Y' := fun _ => 0) ⟨w2.heap.size, rfl, by omega, by simp⟩ Row.none_ (by omega) (Nat.le_refl _) (by unfold maxLen; omega))
    clear HD D2 O2
    go_wp2
    refine bodyPost_ret (v := .agg #[.slice (some ⟨w2.heap.size, 0, none⟩) 0 0, .int .i64 st]) (by simp [results, Tryd.results25, go_sem, r0, r1]) rfl ?_
    exact D.out.fin
  · have HD := Lib.hid (fun Y => (D2.out.alloc Y).mono (K' := K + 30) (by omega))
    have r0 := fun Y => (HD.out Y).res.cell0
    have r1 := fun Y => (HD.out Y).res.cell1
    have rf0 := fun Y => (HD.out Y).res.frozen 0
    have rf1 := fun Y => (HD.out Y).res.frozen 1
    have c0 := fun Y => (HD.out Y).tw.cell0
    have c1 := fun Y => (HD.out Y).tw.cell1
    have f0 := fun Y => (HD.out Y).tw.frozen 0
    have f1 := fun Y => (HD.out Y).tw.frozen 1
    have D := Lib.hid ((HD.out (.cells #[.int .i64 1, .int .i64 1, .int .i64 1, .int .i64 1, .int .i64 1, .int .i64 1, .int .i64 1, .int .i64 1, .int .i64 1, .int .i64 1, .int .i64 1, .int .i64 1] 2)).put hrt htb (Nat.le_of_lt htr) (P' := some ⟨w2.heap.size, 0, none⟩) (m' := 12) (d' := 12) (Y' := fun _ => 1) ⟨w2.heap.size, rfl, by omega, by simp⟩ (fun _ => ⟨w2.heap.size, rfl, by omega, by simp, own_new w2 _ _ 12 _ (fun i hi => by
      have h12 : i = 0 ∨ i = 1 ∨ i = 2 ∨ i = 3 ∨ i = 4 ∨ i = 5 ∨ i = 6 ∨ i = 7 ∨ i = 8 ∨ i = 9 ∨ i = 10 ∨ i = 11 := by omega
      rcases h12 with rfl | rfl | rfl | rfl | rfl | rfl | rfl | rfl | rfl | rfl | rfl | rfl <;> rfl) (by simp)⟩) (by omega) (Nat.le_refl _) (by unfold maxLen; omega))
    clear HD D2 O2
    go_wp2
    refine bodyPost_ret (v := .agg #[.slice (some ⟨w2.heap.size, 0, none⟩) 12 12, .int .i64 st]) (by simp [results, Tryd.results25, go_sem, r0, r1]) rfl ?_
    exact D.out.fin
  · have e0 : (q == 0) = false := by simp; omega
    have e1 : (q == 1) = false := by simp; omega
    have e2 : (q == 2) = false := by simp; omega
    have e3 : (q == 3) = false := by simp; omega
    have e4 : (q == 4) = false := by simp; omega
    have D := Lib.hid (show Drn w w2 b A n c (K + 30) w.heap.size t (some ⟨g, 0, none⟩) l.length d (fun j => l.getD j 0) st from { D2.out with src := D2.out.src.mono (by omega) })
    clear D2 O2
    have r0 := D.out.res.cell0
    have r1 := D.out.res.cell1
    have rf0 := D.out.res.frozen 0
    have rf1 := D.out.res.frozen 1
    have c0 := D.out.tw.cell0
    have c1 := D.out.tw.cell1
    go_wp2
    refine bodyPost_ret (v := .agg #[.slice (some ⟨g, 0, none⟩) l.length d, .int .i64 st]) (by simp [results, Tryd.results25, go_sem, r0, r1]) rfl ?_
    exact D.out.fin

end Go.Proofs.YtopiecbldnhihaaDoor.twl
