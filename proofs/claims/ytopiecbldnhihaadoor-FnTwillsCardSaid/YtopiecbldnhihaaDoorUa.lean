/-
  A new twill that is drawn from bytes. No condition of a statement lies here.
-/
import Derived.Test.YtopiecbldnhihaaDoorQj
import Derived.Test.YtopiecbldnhihaaDoorKept
import Derived.BigQuiet
import Derived.Deep.RegionHeld3
import Derived.Deep.AppendLies
import Derived.Deep.RegionLaw
namespace Go.Proofs.YtopiecbldnhihaaDoor.twl
open Go.ChangeShapes Go.WideShapes Go.ChangeAt Go.RowKit Go.Deep Go.Proofs.YtopiecbldnhihaaDoor.mem Go.Proofs.YtopiecbldnhihaaDoor.rod Go.Proofs.YtopiecbldnhihaaDoor.nums Go.Proofs.YtopiecbldnhihaaDoor.shp Go.Proofs.YtopiecbldnhihaaDoor.src
set_option linter.unusedVariables false
set_option maxRecDepth 100000

/-- small parts -/
def Sm (l : List Int) : Prop := ∀ j, j < l.length → 1 ≤ l.getD j 0 ∧ l.getD j 0 ≤ 3
theorem Sm.app {l m : List Int} (h : Sm l) (k : Sm m) : Sm (l ++ m) := fun j hj => by
  rw [List.length_append] at hj
  simp only [List.getD]
  by_cases e : j < l.length
  · rw [List.getElem?_append_left e]; exact h j e
  · rw [List.getElem?_append_right (by omega)]
    have := k (j - l.length) (by omega)
    simpa [List.getD] using this
theorem sm_two {x y : Int} (x0 : 1 ≤ x) (x1 : x ≤ 3) (y0 : 1 ≤ y) (y1 : y ≤ 3) : Sm [x, y] := fun j hj => by
  rcases j with _ | _ | j
  · simpa using ⟨x0, x1⟩
  · simpa using ⟨y0, y1⟩
  · simp at hj; omega
/-- between the steps: the answer's block r, the twill's block t -/
structure New (w wr : World) (b : Nat) (A : Option Addr) (n c : Nat) (K : Int) (r t : Nat) (v : Value) (l : List Int) : Prop where
  res : TwBlk wr r (.slice none 0 0) 0
  tw : TwBlk wr t v 0
  own : wr.ownsRow w.heap.size 2 1 v l.length (l.map (Value.int .i64))
  len : 2 ≤ l.length
  sm : Sm l
  src : Src wr b A n c K
  kept : Kept w.heap.size b w wr
section
variable {w wr w' : World} {b n c r t : Nat} {A : Option Addr} {K K' : Int} {v : Value} {l : List Int}
theorem New.wrote (h : New w wr b A n c K r t v l) (hb : b < w.heap.size) (hr : w.heap.size ≤ r) (ht : w.heap.size ≤ t) (hw : WroteIn wr w' b (b + 1)) (hs : Src w' b A n c K') : New w w' b A n c K' r t v l :=
  ⟨h.res.of_block (hw.block r h.res.lt (by omega)), h.tw.of_block (hw.block t h.tw.lt (by omega)), owns_wrote1 h.own hw hb, h.len, h.sm, hs, h.kept.wrote hw (Nat.le_refl _)⟩
theorem New.drew (h : New w wr b A n c K r t v l) : New w wr.drew b A n c K r t v l := ⟨h.res, h.tw, h.own, h.len, h.sm, ⟨h.src.code, h.src.rest, h.src.soft, h.src.lt⟩, ⟨h.kept.os, h.kept.tape, h.kept.output, h.kept.size, h.kept.block⟩⟩
theorem New.app (h : New w wr b A n c K r t v l) (hb : b < w.heap.size) (hr : w.heap.size ≤ r) (ht : w.heap.size ≤ t) (hrt : r ≠ t) {v' : Value} {m : List Int} (hm : Sm m) (own' : w'.ownsRow w.heap.size 2 1 v' (l ++ m).length ((l ++ m).map (Value.int .i64)))
    (q : ∀ k, k < wr.heap.size → v.ownBlock ≠ some k → w'.heap[k]? = wr.heap[k]?) (hz : wr.heap.size ≤ w'.heap.size) (hk : Kept w.heap.size b w w') : New w (w'.setCell ⟨t, 0, none⟩ v') b A n c K r t v' (l ++ m) := by
  have r' : TwBlk w' r (.slice none 0 0) 0 := h.res.of_block (q r h.res.lt (h.res.ne h.own))
  have t' : TwBlk w' t v 0 := h.tw.of_block (q t h.tw.lt (h.tw.ne h.own))
  refine ⟨r'.other hrt _, t'.put _, owns_set own' (t'.ne own') _, by have := h.len; rw [List.length_append]; omega, h.sm.app hm, ?_, hk.set ht _⟩
  exact (h.src.of_block (q b (by have := h.kept.size; omega) (fun e => by have := owns_ge h.own b e; omega)) hz).set (by show b ≠ t; omega) _
theorem Kept.drew' {N b : Nat} {w w' : World} (h : Kept N b w w') : Kept N b w w'.drew := ⟨h.os, h.tape, h.output, h.size, h.block⟩
theorem maxS (a b : Int) (w : World) : Calls Tryd.prog 47 #[.int .i64 a, .int .i64 b] w fun e w' => e = .returned (.int .i64 (if a > b then a else b)) ∧ w = w' := by
  by_cases h : a > b
  · rw [if_pos h]
    have h' : b < a := h
    go_enter Tryd.func47, Tryd.ntmps47
    go_wp2
    go_ret
    exact ⟨rfl, rfl⟩
  · rw [if_neg h]
    have h' : ¬ b < a := h
    go_enter Tryd.func47, Tryd.ntmps47
    go_wp2
    go_ret
    exact ⟨rfl, rfl⟩
end

set_option maxHeartbeats 8000000 in
theorem new_c (b : Nat) (A : Option Addr) (n c : Nat) (X : Nat → Int) (K : Int) (w : World) (hn : n ≤ 4096) (hK : K ≤ 800000000) (hA : 0 < n → ∀ x o, A = some ⟨x, o, none⟩ → x < b) (hs : Src w b A n c K) (hx : Sb w A n X) :
    Calls Tryd.prog 58 #[.pointer (some ⟨b, 0, none⟩)] w fun e w' => ∃ (g d : Nat) (l : List Int) (st : Int), e = .returned (.agg #[.slice (some ⟨g, 0, none⟩) l.length d, .int .i64 st]) ∧ 2 ≤ l.length ∧ l.length ≤ 6 ∧ Sm l ∧ l.length ≤ d ∧ d ≤ maxLen ∧ w.heap.size ≤ g ∧ mem.Own w' g 2 l.length (fun j => l.getD j 0) ∧ w'.ownsRow w.heap.size 2 1 (.slice (some ⟨g, 0, none⟩) l.length d) l.length (l.map (Value.int .i64)) ∧ Src w' b A n c (K + 20) ∧ Kept w.heap.size b w w' := by
  have hlt := hs.lt
  have KEY := Lib.hid (fun (J m h : Int) (wr : World) (h1 : J ≤ 900000000) (h2 : m - 1 ≤ h) (h3 : 0 ≤ h) (h4 : Src wr b A n c J) (h5 : Kept w.heap.size b w wr) => pick_c b A n c X J m h wr hn h1 h2 h3 hA h4 (hx.kept h5 hA (by omega)))
  have ONE := Lib.hid (fun (J m h : Int) (wr : World) (h1 : J ≤ 900000000) (h2 : m - 1 ≤ h) (h3 : 0 ≤ h) (h4 : Src wr b A n c J) (h5 : Kept w.heap.size b w wr) => one_c b A n c X J m h wr hn h1 h2 h3 hA h4 (hx.kept h5 hA (by omega)))
  obtain ⟨i0, hi0, hz0, hz1, hz2⟩ := info_parts info_num
  have R0 := Lib.hid (show TwBlk (w.alloc (.cells #[.slice none 0 0, .int .i64 0] 26)) w.heap.size (.slice none 0 0) 0 from Go.Deep.blk_alloc_new _ _)
  have S0 := Lib.hid (show Src (w.alloc (.cells #[.slice none 0 0, .int .i64 0] 26)) b A n c K from hs.below (B := w.heap.size) (by go_grown) hlt)
  have K0 := Lib.hid (show Kept w.heap.size b w (w.alloc (.cells #[.slice none 0 0, .int .i64 0] 26)) from (Kept.refl _ _ _).alloc (Nat.le_refl _) _)
  clear hs hx hA
  go_enter Tryd.func58, Tryd.ntmps58
  go_wp2_with fail
  refine (KEY.out K 3 2 _ (by omega) (by omega) (by omega) S0.out K0.out).mono ?_
  rintro e w1 ⟨x, rfl, x0, x1, s1, hw1⟩
  have z1 := hw1.size
  simp at z1
  have R1 := Lib.hid (R0.out.of_block (hw1.block w.heap.size (by simp) (by omega)))
  have S1 := Lib.hid s1
  have K1 := Lib.hid (K0.out.wrote hw1 (Nat.le_refl _))
  clear s1 hw1 R0 S0 K0
  go_wp2_with fail
  refine (KEY.out (K + 2) 3 2 _ (by omega) (by omega) (by omega) S1.out K1.out).mono ?_
  rintro e w2 ⟨y, rfl, y0, y1, s2, hw2⟩
  have z2 := hw2.size
  obtain ⟨W3, hW3⟩ : ∃ W3, W3 = (w2.alloc (.cells #[.int .i64 (1 + x), .int .i64 (1 + y)] 2)).alloc (.cells #[.slice (some ⟨w2.heap.size, 0, none⟩) 2 2, .int .i64 0] 26) := ⟨_, rfl⟩
  have N3 := Lib.hid (show New w W3 b A n c (K + 4) w.heap.size (w2.heap.size + 1) (.slice (some ⟨w2.heap.size, 0, none⟩) 2 2) [1 + x, 1 + y] from by
    rw [hW3]
    refine ⟨(R1.out.of_block (hw2.block w.heap.size (by omega) (by omega))).of_block ((Go.Deep.blk_alloc_lt _ _ _ (by simp; omega)).trans (Go.Deep.blk_alloc_lt _ _ _ (by omega))), ?_, ?_, Nat.le_refl _, sm_two (by omega) (by omega) (by omega) (by omega), ?_, ?_⟩
    · have h2 := Go.Deep.blk_alloc_new (w2.alloc (.cells #[.int .i64 (1 + x), .int .i64 (1 + y)] 2)) (.cells #[.slice (some ⟨w2.heap.size, 0, none⟩) 2 2, .int .i64 0] 26)
      rw [World.size_alloc] at h2
      exact h2
    · exact World.ownsRow.alloc (w := w2.alloc (.cells #[.int .i64 (1 + x), .int .i64 (1 + y)] 2)) ⟨by simp, .inr ⟨w2.heap.size, 2, #[.int .i64 (1 + x), .int .i64 (1 + y)], rfl, by omega, Go.Deep.blk_alloc_new _ _, Nat.le_refl _, by unfold maxLen; omega, by simp, by simp⟩⟩ _
    · refine Src.mono (K := K + 2 + 2) ?_ (by omega)
      exact s2.below (B := w2.heap.size) (by go_grown) (by omega)
    · exact (((K1.out.wrote hw2 (Nat.le_refl _)).alloc (Nat.le_refl _) _).alloc (Nat.le_refl _) _))
  have z3 : w2.heap.size + 1 < W3.heap.size := by rw [hW3]; simp
  clear s2 hw2 R1 S1 K1
  go_wp2_with fail
  rw [← hW3]
  clear hW3
  generalize ht : w2.heap.size + 1 = t at *
  have htr : w.heap.size ≤ t := by omega
  have hne : w.heap.size ≠ t := by omega
  clear ht
  generalize (Value.slice (some ⟨w2.heap.size, 0, none⟩) 2 2) = v at *
  refine (ONE.out (K + 4) 3 2 _ (by omega) (by omega) (by omega) N3.out.src N3.out.kept).mono ?_
  rintro e w4 ⟨q4, rfl, s4, hw4⟩
  have z4 := hw4.size
  have N4 := Lib.hid (N3.out.wrote hlt (Nat.le_refl _) htr hw4 s4)
  clear s4 hw4 N3
  have L4 := Lib.hid (show [1 + x, 1 + y].length ≤ 2 from Nat.le_refl _)
  generalize hl0 : [1 + x, 1 + y] = l at *
  clear hl0
  go_upto_if 13 with fail
  go_cut [] from 14 to 24 (fun wc => ∃ (K' : Int) (v' : Value) (l' : List Int), K' ≤ K + 10 ∧ l'.length ≤ 4 ∧ Hid (New w wc b A n c K' w.heap.size t v' l'))
  case first =>
    cases q4
    · go_wp2_with fail
      go_meet
      case rel => exact ⟨_, _, _, by omega, by have := L4.out; omega, N4.out⟩
    · have hlen := L4.out
      have hl1 : l.length + 2 ≤ maxLen := by unfold maxLen; omega
      have hl2 : (l.length + 2) * 8 ≤ 140737488355328 := by omega
      have c0 := N4.out.tw.cell0
      have f0 := N4.out.tw.frozen 0
      go_wp2_with fail
      go_region_law (first
        | (refine step_append_lies _ (by rfl) _ _ _ (by rfl) w.heap.size 2 i0 _ 1 8 Tryd.underlying24 hi0 hz0 hz1 hz2 rfl (by omega) _ l.length (l.map (Value.int .i64)) (by rfl) (N6.out.own.alloc _) ⟨w6.heap.size, 0, none⟩ 2 2 [.int .i64 (IntKind.i64.wrap (1 + x5)), .int .i64 (IntKind.i64.wrap (1 + y6))] (by rfl) (by rfl) (World.news_of_block (cs := #[.int .i64 (IntKind.i64.wrap (1 + x5)), .int .i64 (IntKind.i64.wrap (1 + y6))]) (t := 2) (fr := (0, 0)) (heap_alloc_new w6 _)) (by simp [Value.oneCell']) (by omega) hl1 hl2 (by simp; omega) (w6.heap.size + 1) (by simp) ?_; intro gg cap w7 hown7 hgrow7 hat7 hlt7
           have q7 : ∀ k, k < w6.heap.size → v.ownBlock ≠ some k → w7.heap[k]? = w6.heap[k]? := fun k hk hne => (hgrow7.block k (by simp; omega) (fun e => hne e.symm)).trans (Go.Deep.blk_alloc_lt _ _ _ hk)
           have T7 := N6.out.tw.of_block (q7 t N6.out.tw.lt (N6.out.tw.ne N6.out.own))
           have c0 := T7.cell0
           have f0 := T7.frozen 0
           have N7 := Lib.hid (N6.out.app hlt (Nat.le_refl _) htr hne (m := [IntKind.i64.wrap (1 + x5), IntKind.i64.wrap (1 + y6)]) (sm_two (by rw [IntKind.wrap_i64]; omega) (by rw [IntKind.wrap_i64]; omega) (by rw [IntKind.wrap_i64]; omega) (by rw [IntKind.wrap_i64]; omega)) (by simpa using hown7) q7 (by have := hgrow7.size; simp at this; omega) ((N6.out.kept.alloc (Nat.le_refl _) _).grown (Nat.le_refl _) hgrow7 (owns_ge N6.out.own)))
           clear hown7 hgrow7 hat7 hlt7 q7 T7)
        | (have _t := HC1; go_simp; go_at_call 26; refine (KEY.out _ 3 2 _ (by omega) (by omega) (by omega) N5.out.src N5.out.kept).mono ?_; rintro e w6 ⟨y6, rfl, y60, y61, s6, hw6⟩
           have z6 := hw6.size
           have N6 := Lib.hid (N5.out.wrote hlt (Nat.le_refl _) htr hw6 s6)
           have c0 := N6.out.tw.cell0
           have f0 := N6.out.tw.frozen 0
           have cA : ∀ Y, (w6.alloc Y).cell? ⟨t, 0, none⟩ = some v := fun Y => ((Below.alloc (Below.refl w6.heap.size w6) (Nat.le_refl _) Y).cell (p := ⟨t, 0, none⟩) N6.out.tw.lt).trans c0
           clear s6 hw6)
        | (go_simp; go_at_call 26; refine (KEY.out _ 3 2 _ (by omega) (by omega) (by omega) N4.out.drew.src N4.out.drew.kept).mono ?_; rintro e w5 ⟨x5, rfl, x50, x51, s5, hw5⟩
           have z5 : w4.heap.size ≤ w5.heap.size := hw5.size
           have N5 := Lib.hid (N4.out.drew.wrote hlt (Nat.le_refl _) htr hw5 s5)
           have HC1 := Lib.hid trivial
           have c0 := N5.out.tw.cell0
           have f0 := N5.out.tw.frozen 0
           clear s5 hw5))
      all_goals
        go_wp2_with fail
        go_meet
        case rel => exact ⟨_, _, _, by omega, by simp; omega, N7.out⟩
  case rest =>
    rename World => w5
    obtain ⟨K5, v5, l5, hK5, hl5, N5⟩ := hcut
    clear N4 L4
    have zz5 := N5.out.kept.size
    have t5 := N5.out.tw.lt
    go_wp2_with fail
    refine (ONE.out K5 6 5 _ (by omega) (by omega) (by omega) N5.out.src N5.out.kept).mono ?_
    rintro e w6 ⟨q6, rfl, s6, hw6⟩
    have z6 := hw6.size
    have N6 := Lib.hid (N5.out.wrote hlt (Nat.le_refl _) htr hw6 s6)
    clear s6 hw6 N5
    go_upto_if 26 with fail
    go_cut [] from 27 to 39 (fun wc => ∃ (v' : Value) (l' : List Int), l'.length ≤ 6 ∧ Hid (New w wc b A n c (K5 + 2) w.heap.size t v' l'))
    case first =>
      cases q6
      · go_wp2_with fail
        go_meet
        case rel => exact ⟨_, _, by omega, N6.out⟩
      · have hl1 : l5.length + 2 ≤ maxLen := by unfold maxLen; omega
        have hl2 : (l5.length + 2) * 8 ≤ 140737488355328 := by omega
        have c0 := N6.out.tw.cell0
        have f0 := N6.out.tw.frozen 0
        obtain ⟨A6, c6, hv6, hc61, hc62, hrow6⟩ := row_of_owns N6.out.own
        have hlen6 := N6.out.len
        obtain ⟨g6, rfl, hg6, hg6l, ho6⟩ := hrow6 (by omega)
        have d0 := ho6.cell (j := 0) (by omega)
        have d1 := ho6.cell (j := 1) (by omega)
        obtain ⟨x0, x1⟩ := N6.out.sm 0 (by omega)
        obtain ⟨y0, y1⟩ := N6.out.sm 1 (by omega)
        generalize l5.getD 0 0 = x at *
        generalize l5.getD 1 0 = y at *
        subst hv6
        have cA : ∀ Y, (w6.alloc Y).cell? ⟨t, 0, none⟩ = some (.slice (some ⟨g6, 0, none⟩) l5.length c6) := fun Y => ((Below.alloc (Below.refl w6.heap.size w6) (Nat.le_refl _) Y).cell (p := ⟨t, 0, none⟩) N6.out.tw.lt).trans c0
        have dA : ∀ Y, (w6.alloc Y).cell? ⟨g6, 0, none⟩ = some (.int .i64 x) := fun Y => ((Below.alloc (Below.refl w6.heap.size w6) (Nat.le_refl _) Y).cell (p := ⟨g6, 0, none⟩) hg6l).trans d0
        have dB : ∀ Y, (w6.alloc Y).cell? ⟨g6, 1, none⟩ = some (.int .i64 y) := fun Y => ((Below.alloc (Below.refl w6.heap.size w6) (Nat.le_refl _) Y).cell (p := ⟨g6, 1, none⟩) hg6l).trans d1
        have b0 : (0 : Int) < (l5.length : Int) := by omega
        have b1 : (1 : Int) < (l5.length : Int) := by omega
        have b0n : 0 < l5.length := by omega
        have b1n : 1 < l5.length := by omega
        clear hrow6 ho6
        go_wp2_with fail
        go_region_law (first
          | (refine step_append_lies _ (by rfl) _ _ _ (by rfl) w.heap.size 2 i0 _ 1 8 Tryd.underlying24 hi0 hz0 hz1 hz2 rfl (by omega) _ l5.length (l5.map (Value.int .i64)) (by rfl) (N6.out.drew.own.alloc _) ⟨w6.heap.size, 0, none⟩ 2 2 [.int .i64 x, .int .i64 y] (by rfl) (by rfl) (World.news_of_block (cs := #[.int .i64 x, .int .i64 y]) (t := 2) (fr := (0, 0)) (heap_alloc_new w6 _)) (by simp [Value.oneCell']) (by omega) hl1 hl2 (by simp; omega) (w6.heap.size + 1) (by simp) ?_; intro gg cap w7 hown7 hgrow7 hat7 hlt7
             have q7 : ∀ k, k < w6.heap.size → (Value.slice (some ⟨g6, 0, none⟩) l5.length c6).ownBlock ≠ some k → w7.heap[k]? = w6.heap[k]? := fun k hk hne => (hgrow7.block k (by simp; omega) (fun e => hne e.symm)).trans (Go.Deep.blk_alloc_lt _ _ _ hk)
             have T7 := N6.out.tw.of_block (q7 t N6.out.tw.lt (N6.out.tw.ne N6.out.own))
             have c0 := T7.cell0
             have f0 := T7.frozen 0
             have N7 := Lib.hid (N6.out.app hlt (Nat.le_refl _) htr hne (m := [x, y]) (sm_two x0 x1 y0 y1) (by simpa using hown7) q7 (by have := hgrow7.size; simp at this; omega) ((N6.out.drew.kept.alloc (Nat.le_refl _) _).grown (Nat.le_refl _) hgrow7 (owns_ge N6.out.own)))
             clear hown7 hgrow7 hat7 hlt7 q7 T7))
        all_goals
          go_wp2_with fail
          go_meet
          case rel => exact ⟨_, _, by simp; omega, N7.out⟩
    case rest =>
      rename World => w8
      obtain ⟨v8, l8, hl8, N8⟩ := hcut
      clear N6
      have c0 := N8.out.tw.cell0
      have c1 := N8.out.tw.cell1
      have f1 := N8.out.tw.frozen 1
      have t8 := N8.out.tw.lt
      have hlen8 := N8.out.len
      have zz8 := N8.out.kept.size
      obtain ⟨A8, c8, hv8, hc81, hc82, hrow8⟩ := row_of_owns N8.out.own
      obtain ⟨g8, rfl, hg8, hg8l, ho8⟩ := hrow8 (by omega)
      rw [Nat.mul_one] at ho8
      subst hv8
      have HW8 := Lib.hid (width_s (some ⟨g8, 0, none⟩) l8.length c8 t (fun j => l8.getD j 0) w8 (by omega) (fun k hk => by have := N8.out.sm k hk; omega) (fun _ => ⟨g8, 0, rfl, hg8l, fun j hj => by rw [Nat.zero_add]; exact ho8.cell (by omega)⟩) c0)
      have hbd := sumN_bd (X := fun j => l8.getD j 0) (n := l8.length) (fun k hk => by have := N8.out.sm k hk; omega)
      clear hrow8 ho8
      generalize sumN (fun j => l8.getD j 0) l8.length = S at *
      obtain ⟨hb0, hb1⟩ := hbd
      have hS : S ≤ 100 := by omega
      go_wp2_with fail
      refine HW8.out.mono ?_
      rintro e w' ⟨rfl, rfl⟩
      go_wp2_with fail
      refine (maxS _ _ _).mono ?_
      rintro e w' ⟨rfl, rfl⟩
      obtain ⟨M, hM⟩ : ∃ M, (if (1 : Int) > S - 1 then 1 else S - 1) = M := ⟨_, rfl⟩
      have hM1 : M ≤ 100 := by rw [← hM]; split <;> omega
      rw [hM]
      clear hM HW8
      go_wp2_with fail
      refine (KEY.out (K5 + 2) M 99 _ (by omega) (by omega) (by omega) N8.out.src N8.out.kept).mono ?_
      rintro e w9 ⟨p, rfl, p0, p1, s9, hw9⟩
      have N9 := Lib.hid (N8.out.wrote hlt (Nat.le_refl _) htr hw9 s9)
      clear s9 hw9 c0 c1 f1 N8
      have c0 := N9.out.tw.cell0
      have c1 := N9.out.tw.cell1
      have f1 := N9.out.tw.frozen 1
      have r0 := N9.out.res.cell0
      have r1 := N9.out.res.cell1
      have rf0 := N9.out.res.frozen 0
      have rf1 := N9.out.res.frozen 1
      have hbt : b ≠ t := by omega
      have hbr : b ≠ w.heap.size := by omega
      go_wp2
      refine bodyPost_ret (v := .agg #[.slice (some ⟨g8, 0, none⟩) l8.length c8, .int .i64 (1 + p)]) (by simp [results, Tryd.results58, go_sem, r0, r1]) rfl ?_
      have of := owns_set (owns_set (owns_set N9.out.own (a := ⟨t, 1, none⟩) (N9.out.tw.ne N9.out.own) (.int .i64 (1 + p))) (a := ⟨w.heap.size, 0, none⟩) (N9.out.res.ne N9.out.own) (.slice (some ⟨g8, 0, none⟩) l8.length c8)) (a := ⟨w.heap.size, 1, none⟩) (N9.out.res.ne N9.out.own) (.int .i64 (1 + p))
      obtain ⟨A', c', e', _, _, hrow'⟩ := row_of_owns of
      cases e'
      obtain ⟨g', eg, _, _, hown'⟩ := hrow' (by omega)
      cases eg
      refine ⟨g8, c8, l8, 1 + p, rfl, N9.out.len, hl8, N9.out.sm, hc81, hc82, hg8, hown'.le (by omega), of, (((N9.out.src.mono (by omega)).set (a := ⟨t, 1, none⟩) hbt _).set (a := ⟨w.heap.size, 0, none⟩) hbr _).set (a := ⟨w.heap.size, 1, none⟩) hbr _, ?_⟩
      exact Kept.set (Kept.set (Kept.set N9.out.kept (a := ⟨t, 1, none⟩) htr _) (a := ⟨w.heap.size, 0, none⟩) (Nat.le_refl _) _) (a := ⟨w.heap.size, 1, none⟩) (Nat.le_refl _) _

end Go.Proofs.YtopiecbldnhihaaDoor.twl
