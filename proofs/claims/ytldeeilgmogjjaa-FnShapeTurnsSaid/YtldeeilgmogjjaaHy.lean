/-
  A shape that is drawn from bytes. No condition of a statement lies here.
-/
import Derived.Test.YtldeeilgmogjjaaHx
import Derived.Test.YtldeeilgmogjjaaSrcB
import Derived.Test.YtldeeilgmogjjaaSrcAtB
import Derived.Test.YtldeeilgmogjjaaOpen
import Derived.Test.YtldeeilgmogjjaaNums
import Derived.Test.YtldeeilgmogjjaaIn
namespace Go.Proofs.Ytldeeilgmogjjaa.shp
open Go.ChangeShapes Go.WideShapes Go.ChangeAt Go.RowKit Go.Proofs.Ytldeeilgmogjjaa.mem Go.Proofs.Ytldeeilgmogjjaa.rod Go.Proofs.Ytldeeilgmogjjaa.nums Go.Proofs.Ytldeeilgmogjjaa.src
set_option linter.unusedVariables false
set_option maxRecDepth 100000

/-- the answer is a shape in a new row -/
def ShapeNew (w : World) (l : List Int) (e : Ending) (w' : World) : Prop :=
  ∃ A c, e = .returned (.slice A l.length c) ∧ l.length ≤ c ∧ c ≤ maxLen ∧ Row w' w.heap.size w'.heap.size A l.length 1 2 (fun j => l.getD j 0)
def LevB (l : List Int) : Prop := 0 < l.length ∧ l.length ≤ 7 ∧ ∀ j, j < l.length → 1 ≤ l.getD j 0 ∧ l.getD j 0 ≤ 5000
theorem LevB.shp {l : List Int} (h : LevB l) : shpB l.length (fun j => l.getD j 0) = true := shpB_yes h.1 (by have := h.2.1; omega) (allIn_of fun k hk => h.2.2 k hk)
theorem lev_snoc {l : List Int} {x : Int} (h : ∀ j, j < l.length → 1 ≤ l.getD j 0 ∧ l.getD j 0 ≤ 5000) (h1 : 1 ≤ x) (h2 : x ≤ 5000) : ∀ j, j < (l ++ [x]).length → 1 ≤ (l ++ [x]).getD j 0 ∧ (l ++ [x]).getD j 0 ≤ 5000 := fun j hj => by
  simp only [List.getD]
  by_cases e : j < l.length
  · rw [List.getElem?_append_left e]
    exact h j e
  · have hj' : j < l.length + 1 := by simpa using hj
    obtain rfl : j = l.length := by omega
    rw [List.getElem?_append_right (Nat.le_refl _)]
    simp
    exact ⟨h1, h2⟩

set_option maxHeartbeats 4000000 in
set_option maxRecDepth 100000 in
theorem draw_c (b : Nat) (A : Option Addr) (n c : Nat) (X : Nat → Int) (w : World) (hn : n ≤ 4096) (hA : 0 < n → ∀ x o, A = some ⟨x, o, none⟩ → x < b) (hs : Src w b A n c 0) (hx : Sb w A n X) :
    Calls Try.prog 13 #[.pointer (some ⟨b, 0, none⟩)] w fun e w' => ∃ l, LevB l ∧ ShapeNew w l e w' ∧ WroteIn w w' b (b + 1) := by
  have HA := Lib.hid hA
  have HX := Lib.hid hx
  have hbl := hs.lt
  have hS0 := Lib.hid (hs.below (w' := w.alloc (Obj.cells #[] 2)) (B := w.heap.size) (by go_grown) hbl)
  have hX0 := Lib.hid (hx.below (w' := w.alloc (Obj.cells #[] 2)) (K := w.heap.size) (by go_grown) (Nat.le_refl _))
  obtain ⟨i0, hi0, hz0, hz1, hz2⟩ := info_parts info_num
  clear hA hs hx
  go_enter Try.func13, Try.ntmps13
  go_wp2_with fail
  refine (pick_c b A n c X 0 50 49 _ hn (by omega) (by omega) (by omega) HA.out hS0.out hX0.out).mono ?_
  rintro e w1 ⟨v1, rfl, v10, v11, s1, hw1⟩
  have z1 := hw1.size
  simp at z1
  have X1 := hX0.out.wrote hw1 (N := b) HA.out (Nat.le_refl _)
  have S1 := Lib.hid s1
  have HX1 := Lib.hid X1
  have W1 := Lib.hid ((wrote_new (b := b) (show Below w.heap.size w (w.alloc (Obj.cells #[] 2)) by go_grown)).then hw1)
  have O1 := Lib.hid (owns_keep (owns_empty w w.heap.size 2 (Nat.le_refl _)) (w' := w1) (fun g hg => hw1.block g (by simp [Value.ownBlock] at hg; simp; omega) (by simp [Value.ownBlock] at hg; omega)))
  clear s1 hw1 X1
  go_wp2_with fail
  refine (pick_c b A n c X (0 + 2) 7 6 _ hn (by omega) (by omega) (by omega) HA.out S1.out HX1.out).mono ?_
  rintro e w2 ⟨v2, rfl, v20, v21, s2, hw2⟩
  have z2 := hw2.size
  have HX2 := Lib.hid (HX1.out.wrote hw2 (N := b) HA.out (Nat.le_refl _))
  have S2 := Lib.hid s2
  have O2 := Lib.hid (owns_keep O1.out (w' := w2) (fun g hg => hw2.block g (owns_lt O1.out g hg) (by have := owns_block O1.out g hg; omega)))
  have W2 := Lib.hid (W1.out.then hw2)
  obtain ⟨N, hN⟩ : ∃ N : Nat, v2 = N := ⟨v2.toNat, by omega⟩
  subst hN
  have hN6 : N ≤ 6 := by omega
  clear s2 hw2
  go_wp2_with fail
  go_loopw [3, 4, 5] (fun u at_ t wr => ∃ (j : Nat) (a : Int) (l : List Int), j ≤ N + 1 ∧ t = .int .i64 ((N : Int) + 1 - j) ∧ at_ = .int .i64 a ∧ 20 ≤ a ∧ a ≤ 1180 + 180 * j ∧ Hid (l.length = j ∧ ∀ k, k < l.length → 1 ≤ l.getD k 0 ∧ l.getD k 0 ≤ 5000) ∧ Hid (wr.ownsRow w.heap.size 2 1 u l.length (l.map (Value.int .i64))) ∧ Hid (Src wr b A n c (4 + 2 * j)) ∧ Hid (Sb wr A n X) ∧ WroteIn w wr b (b + 1)) (fun _ _ t _ => (intOf t).toNat)
  case atStart => exact ⟨0, 200 + 20 * v1, [], by omega, by congr 1; omega, rfl, by omega, by omega, ⟨rfl, fun k hk => absurd hk (by simp)⟩, O2.out, S2.out.mono (by omega), HX2.out, W2.out⟩
  case round =>
    obtain ⟨j, a, l, hj, rfl, rfl, ha0, ha1, HLB, HO, HSr, HXr, hw⟩ := hrel
    have HW := Lib.hid hw
    have zr := hw.size
    clear hw
    by_cases hlt : j < N + 1
    · have hlt' : (0 : Int) < (N : Int) + 1 - j := by omega
      have hlen := Nat.le_of_eq HLB.out.1
      have hl1 : l.length + 1 ≤ maxLen := by unfold maxLen; omega
      have hl2 : (l.length + 1) * 8 ≤ 140737488355328 := by omega
      have HLL := Lib.hid hlen
      clear hlen
      go_wp2_with (at_builtin; refine wpList_append_own _ rfl _ _ 24 rfl w.heap.size 2 i0 (.int .i64 0) 1 8 Try.underlying24 hi0 hz0 hz1 hz2 rfl (by decide) _ _ _ rfl (HO.out.alloc _) ⟨wr.heap.size, 0, none⟩ 1 1 [.int .i64 a] rfl rfl ?c1 ?c2 hl1 hl2 ?c5 ?_)
      case c1 => intro j u hj; rcases j with _ | j <;> simp at hj; subst hj; go_simp
      case c2 => intro u hu; simp at hu; subst hu; rfl
      case c5 => simp <;> omega
      intro u4 w4 hown4 hgrow4 _
      have gA : Below wr.heap.size wr (wr.alloc (Obj.cells #[.int .i64 a] 2)) := by go_grown
      have g4 : Below w.heap.size wr w4 := Below.grown (B := w.heap.size) (gA.mono zr) hgrow4 (by simp; omega) (owns_block HO.out)
      have z4 := g4.size
      have W4 := Lib.hid (grown_far (WroteIn.below' HW.out gA) (owns_block HO.out) hgrow4)
      have S4 := Lib.hid (HSr.out.below g4 hbl)
      have X4 := Lib.hid (show Sb w4 A n X from fun h => by
        obtain ⟨x, o, e, h1, h2⟩ := HXr.out h
        have hxb := HA.out h x o e
        exact ⟨x, o, e, by omega, fun k hk => ⟨(g4.cell (p := ⟨x, o + k, none⟩) (show x < w.heap.size by omega)).trans (h2 k hk).1, (h2 k hk).2⟩⟩)
      have O4 := Lib.hid (owns_snoc hown4)
      clear hown4 hgrow4 gA g4
      go_wp2_with fail
      refine (pick_c b A n c X (4 + 2 * j) 31 30 _ hn (by omega) (by omega) (by omega) HA.out S4.out X4.out).mono ?_
      rintro e w5 ⟨v5, rfl, v50, v51, s5, hw5⟩
      have z5 := hw5.size
      have S5 := Lib.hid s5
      have X5 := Lib.hid (X4.out.wrote hw5 (N := b) HA.out (Nat.le_refl _))
      have O5 := Lib.hid (owns_keep O4.out (w' := w5) (fun g hg => hw5.block g (owns_lt O4.out g hg) (by have := owns_block O4.out g hg; omega)))
      have W5 := Lib.hid (W4.out.then hw5)
      clear s5 hw5
      obtain ⟨a', ha'⟩ : ∃ a', mxI 20 (a + 10 * v5 - 120) = a' := ⟨_, rfl⟩
      have ha2 : 20 ≤ a' ∧ a' ≤ 1180 + 180 * (j + 1) := by
        have : mxI 20 (a + 10 * v5 - 120) = if a + 10 * v5 - 120 < 20 then 20 else a + 10 * v5 - 120 := rfl
        rw [this] at ha'
        split at ha' <;> omega
      obtain ⟨ha20, ha21⟩ := ha2
      have HA' := Lib.hid ha'
      clear ha'
      go_wp2_with (go_at_call 26; refine (max_s _ _ _).mono ?_; rintro e w' ⟨rfl, rfl⟩; rw [HA'.out])
      go_roundw
      case rel => exact ⟨j + 1, a', l ++ [a], by omega, by congr 1; omega, rfl, ha20, by omega, ⟨by have := HLB.out.1; simp; omega, lev_snoc HLB.out.2 (by omega) (by omega)⟩, O5.out, S5.out.mono (by omega), X5.out, W5.out⟩
      case measure => first | (simp [intOf]; done) | (simp [intOf]; omega)
    · obtain rfl : j = N + 1 := by omega
      have hnlt : ¬ (0 : Int) < (N : Int) + 1 - ((N + 1 : Nat) : Int) := by omega
      obtain ⟨A', c', rfl, hc1, hc2, hrow⟩ := row_of_owns HO.out
      have HRW := Lib.hid hrow
      have HLV := Lib.hid (show LevB l from ⟨by have := HLB.out.1; omega, by have := HLB.out.1; omega, HLB.out.2⟩)
      clear hrow
      go_wp2
      go_ret
      exact ⟨l, HLV.out, ⟨A', c', rfl, hc1, hc2, HRW.out⟩, HW.out⟩

set_option maxHeartbeats 1000000 in
theorem shape_c (A : Option Addr) (n c : Nat) (X : Nat → Int) (w : World) (hn : n ≤ 3000) (hx : Sb w A n X) :
    Calls Try.prog 5 #[.slice A n c] w fun e w' => ∃ l, LevB l ∧ ShapeNew w l e w' ∧ Below w.heap.size w w' := by
  have HX := Lib.hid hx
  clear hx
  go_enter Try.func5, Try.ntmps5
  go_wp2_with fail
  refine (from_c A n c _).mono ?_
  rintro e w1 ⟨rfl, s1, hb1⟩
  have z1 := hb1.size
  have S1 := Lib.hid s1
  have HB1 := Lib.hid hb1
  clear s1 hb1
  go_wp2_with fail
  refine (draw_c w.heap.size A n c X _ (by omega) (HX.out.low (Nat.le_refl _)) S1.out (HX.out.below HB1.out (Nat.le_refl _))).mono ?_
  rintro e w2 ⟨l, hl, ⟨A', c', rfl, h1, h2, h3⟩, hw2⟩
  have HL := Lib.hid hl
  have H3 := Lib.hid h3
  have HB2 := Lib.hid (HB1.out.trans (hw2.below z1 (Nat.le_refl _)))
  clear hl h3 hw2
  go_wp2
  go_ret
  exact ⟨l, HL.out, ⟨A', c', rfl, h1, h2, H3.out.wide z1 (Nat.le_refl _)⟩, HB2.out⟩

end Go.Proofs.Ytldeeilgmogjjaa.shp
