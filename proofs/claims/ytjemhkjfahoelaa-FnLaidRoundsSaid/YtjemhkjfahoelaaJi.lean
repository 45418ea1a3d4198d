/-
  Rods that are drawn from bytes, and the law's own sum. No condition of a statement lies here.
-/
import Derived.Test.YtjemhkjfahoelaaJh
import Derived.Test.YtjemhkjfahoelaaSrcB
import Derived.Test.YtjemhkjfahoelaaSrcAtB
namespace Go.Proofs.Ytjemhkjfahoelaa.jns
open Go.ChangeShapes Go.WideShapes Go.ChangeAt Go.RowKit Go.Proofs.Ytjemhkjfahoelaa.mem Go.Proofs.Ytjemhkjfahoelaa.rod Go.Proofs.Ytjemhkjfahoelaa.nums Go.Proofs.Ytjemhkjfahoelaa.src
set_option linter.unusedVariables false
set_option maxRecDepth 100000

theorem owns_wrote {w w' : World} {b n size : Nat} {E : TypeId} {v : Value} {xs : List Value} (h : w.ownsRow (b + 1) E size v n xs) (hw : WroteIn w w' b (b + 1)) : w'.ownsRow (b + 1) E size v n xs :=
  owns_keep h fun g hg => hw.block g (owns_lt h g hg) (by have := owns_block h g hg; omega)

set_option maxHeartbeats 1000000 in
theorem sumL (A : Option Addr) (n c : Nat) (X : Nat → Int) (w : World) (R : Rds n X) (hr : Sl w A n 1 X) :
    Calls Try.prog 29 #[.slice A n c] w fun e w' => e = .returned (.int .i64 (ps X n)) ∧ w = w' := by
  have HR := Lib.hid hr
  clear hr
  have hn := R.le
  go_enter Try.func29, Try.ntmps29
  go_wp2_with fail
  go_loop [3, 4] (fun s t => ∃ k : Nat, k ≤ n ∧ t = .int .i64 k ∧ s = .int .i64 (ps X k)) (fun s t => n - (intOf t).toNat)
  case atStart => exact ⟨0, by omega, rfl, rfl⟩
  case round =>
    obtain ⟨k, hk, rfl, rfl⟩ := hrel
    by_cases hlt : k < n
    · have hlt' : (k : Int) < (n : Int) := by omega
      obtain ⟨b, o, rfl, hb, hX⟩ := HR.out (by omega)
      have h0 := hX k (by omega)
      have x0 := R.at_ k hlt
      have p0 := ps_top R hk
      have HN := Lib.hid (show ps X (k + 1) = ps X k + X k from rfl)
      clear hX
      obtain ⟨x1, x2⟩ := x0
      obtain ⟨p1, p2⟩ := p0
      generalize hP : ps X k = p at *
      go_wp2
      go_round
      case rel => exact ⟨k + 1, by omega, by go_num, by rw [HN.out]⟩
      case measure => simp [intOf]; omega
    · obtain rfl : k = n := by omega
      go_wp2
      go_ret
      exact ⟨rfl, rfl⟩

/-- so many numbers are from 1 to 16 -/
def SixB (l : List Int) : Prop := ∀ j, j < l.length → 1 ≤ l.getD j 0 ∧ l.getD j 0 ≤ 200
theorem six_snoc {l : List Int} {x : Int} (h : SixB l) (h1 : 1 ≤ x) (h2 : x ≤ 200) : SixB (l ++ [x]) := fun j hj => by
  simp only [List.getD]
  by_cases e : j < l.length
  · rw [List.getElem?_append_left e]
    exact h j e
  · have hj' : j < l.length + 1 := by simpa using hj
    obtain rfl : j = l.length := by omega
    rw [List.getElem?_append_right (Nat.le_refl _)]
    simp
    exact ⟨h1, h2⟩

set_option maxHeartbeats 4000000 in
theorem laid_c (A : Option Addr) (n c : Nat) (X : Nat → Int) (w : World) (hn : n ≤ 3000) (hx : Sb w A n X) :
    Calls Try.prog 27 #[.slice A n c] w fun e w' => ∃ (N : Nat) (Y : Nat → Int) (A' : Option Addr) (c' : Nat), e = .returned (.slice A' N c') ∧ Rds N Y ∧ N ≤ c' ∧ Row w' w.heap.size w'.heap.size A' N 1 2 Y ∧ Below w.heap.size w w' := by
  have HX := Lib.hid hx
  have HL := Lib.hid (hx.low (Nat.le_refl _))
  clear hx
  obtain ⟨i0, hi0, hz0, hz1, hz2⟩ := info_parts info_num
  go_enter Try.func27, Try.ntmps27
  go_wp2_with fail
  refine (from_c A n c _).mono ?_
  rintro e w1 ⟨rfl, s1, hb1⟩
  have z1 := hb1.size
  have lt1 := s1.lt
  have S1 := Lib.hid (s1.below (w' := w1.alloc (Obj.cells #[] 2)) (B := w1.heap.size) (by go_grown) lt1)
  have X1 := Lib.hid ((HX.out.below hb1 (Nat.le_refl _)).below (w' := w1.alloc (Obj.cells #[] 2)) (K := w1.heap.size) (by go_grown) (Nat.le_refl _))
  have HB1 := Lib.hid hb1
  clear s1 hb1
  go_wp2_with fail
  refine (pick_c w.heap.size A n c X 0 7 6 _ (by omega) (by omega) (by omega) (by omega) HL.out S1.out X1.out).mono ?_
  rintro e w2 ⟨v1, rfl, v10, v11, s2, hw2⟩
  have z2 := hw2.size
  simp at z2
  have O2 := Lib.hid (owns_wrote (owns_empty w1 (w.heap.size + 1) 2 (by omega)) hw2)
  have X2 := Lib.hid (X1.out.wrote hw2 (N := w.heap.size) HL.out (Nat.le_refl _))
  have S2 := Lib.hid s2
  have W2 := Lib.hid (Below.trans (B := w.heap.size) (Below.alloc (Below.refl _ w1) z1 (Obj.cells #[] 2)) (hw2.below (by first | (simp; done) | (simp; omega)) (Nat.le_refl _)))
  clear s2 hw2
  obtain ⟨N, hN⟩ : ∃ N : Nat, v1 = N := ⟨v1.toNat, by omega⟩
  subst hN
  have hN6 : N ≤ 6 := by omega
  go_wp2_with fail
  go_loopw [4, 5] (fun u t wr => ∃ (j : Nat) (l : List Int), j ≤ N ∧ t = .int .i64 ((N : Int) - j) ∧ Hid (l.length = j ∧ SixB l) ∧ Hid (wr.ownsRow (w.heap.size + 1) 2 1 u l.length (l.map (Value.int .i64))) ∧ Hid (Src wr w.heap.size A n c (2 + 2 * j)) ∧ Hid (Sb wr A n X) ∧ Below w.heap.size w1 wr) (fun _ t _ => (intOf t).toNat)
  case atStart => exact ⟨0, [], by omega, by first | (congr 1; done) | (congr 1; omega), ⟨rfl, fun k hk => absurd hk (by simp)⟩, O2.out, S2.out.mono (by omega), X2.out, W2.out⟩
  case round =>
    obtain ⟨j, l, hj, rfl, HLB, HO, HSr, HXr, hw⟩ := hrel
    have HW := Lib.hid hw
    have zr := hw.size
    clear hw
    by_cases hlt : j < N
    · have hlt' : (0 : Int) < (N : Int) - j := by omega
      have hlen := Nat.le_of_eq HLB.out.1
      have hl1 : l.length + 1 ≤ maxLen := by unfold maxLen; omega
      have hl2 : (l.length + 1) * 8 ≤ 140737488355328 := by omega
      clear hlen
      go_wp2_with fail
      refine (pick_c w.heap.size A n c X (2 + 2 * j) 16 15 _ (by omega) (by omega) (by omega) (by omega) HL.out HSr.out HXr.out).mono ?_
      rintro e w5 ⟨v5, rfl, v50, v51, s5, hw5⟩
      have z5 := hw5.size
      have lt5 := s5.lt
      have S5 := Lib.hid s5
      have X5 := Lib.hid (HXr.out.wrote hw5 (N := w.heap.size) HL.out (Nat.le_refl _))
      have O5 := Lib.hid (owns_wrote HO.out hw5)
      have W5 := Lib.hid (HW.out.trans (hw5.below (by omega) (Nat.le_refl _)))
      clear s5 hw5
      go_wp2_with (at_builtin; refine wpList_append_own _ rfl _ _ 22 rfl (w.heap.size + 1) 2 i0 (.int .i64 0) 1 8 Try.underlying22 hi0 hz0 hz1 hz2 rfl (by decide) _ _ _ rfl (O5.out.alloc _) ⟨w5.heap.size, 0, none⟩ 1 1 [.int .i64 (1 + v5)] rfl rfl ?c1 ?c2 hl1 hl2 ?c5 ?_)
      case c1 => intro j u hj; rcases j with _ | j <;> simp at hj; subst hj; go_simp
      case c2 => intro u hu; simp at hu; subst hu; rfl
      case c5 => simp <;> omega
      intro u4 w4 hown4 hgrow4 _
      have gA : Below w5.heap.size w5 (w5.alloc (Obj.cells #[.int .i64 (1 + v5)] 2)) := by go_grown
      have g4 : Below (w.heap.size + 1) w5 w4 := Below.grown (B := w.heap.size + 1) (gA.mono (by omega)) hgrow4 (by simp; omega) (owns_block O5.out)
      have z4 := g4.size
      have W4 := Lib.hid (W5.out.trans (below_low g4))
      have S4 := Lib.hid (S5.out.below g4 (by omega))
      have X4 := Lib.hid (show Sb w4 A n X from fun h => by
        obtain ⟨x, o, e, h1, h2⟩ := X5.out h
        have hxb := HL.out h x o e
        exact ⟨x, o, e, by omega, fun k hk => ⟨(g4.cell (p := ⟨x, o + k, none⟩) (show x < w.heap.size + 1 by omega)).trans (h2 k hk).1, (h2 k hk).2⟩⟩)
      have O4 := Lib.hid (owns_snoc hown4)
      clear hown4 hgrow4 gA g4
      go_wp2
      go_roundw
      case rel => exact ⟨j + 1, l ++ [1 + v5], by omega, by congr 1; omega, ⟨by have := HLB.out.1; simp; omega, six_snoc HLB.out.2 (by omega) (by omega)⟩, O4.out, S4.out.mono (by omega), X4.out, W4.out⟩
      case measure => first | (simp [intOf]; done) | (simp [intOf]; omega)
    · obtain rfl : j = N := by omega
      have hnlt : ¬ (0 : Int) < (j : Int) - (j : Int) := by omega
      obtain ⟨A', c', rfl, hc1, hc2, hrow⟩ := row_of_owns HO.out
      have HRW := Lib.hid (hrow.wide (lo' := w.heap.size) (by omega) (Nat.le_refl _))
      have HG := Lib.hid (HB1.out.trans HW.out)
      have HR := Lib.hid (show Rds l.length (fun k => l.getD k 0) from ⟨by have := HLB.out.1; omega, HLB.out.2⟩)
      clear hrow
      go_wp2
      go_ret
      exact ⟨l.length, _, A', c', rfl, HR.out, hc1, HRW.out, HG.out⟩

end Go.Proofs.Ytjemhkjfahoelaa.jns
