/-
  Contracts: what the laws on weaves draw: one of some texts; a stroke.
-/
import Derived.Test.YtlepgkmpbhlajaaGreatDoorKeptB
import Derived.Test.YtlepgkmpbhlajaaGreatDoorWs
namespace Go.Proofs.YtlepgkmpbhlajaaGreatDoor.src
open Go.ChangeShapes Go.WideShapes Go.ChangeAt Go.RowKit Go.Proofs.YtlepgkmpbhlajaaGreatDoor.mem Go.Proofs.YtlepgkmpbhlajaaGreatDoor.rod Go.Proofs.YtlepgkmpbhlajaaGreatDoor.wk Go.Proofs.YtlepgkmpbhlajaaGreatDoor.wv
set_option linter.unusedVariables false

/-- the answer is one of some texts, and the source lies on -/
def DrawnT (w : World) (b : Nat) (A : Option Addr) (n c : Nat) (K : Int) (l : Nat) (Z : Nat → ByteArray) (e : Ending) (w' : World) : Prop :=
  ∃ j : Nat, j < l ∧ e = .returned (.string (Z j)) ∧ Src w' b A n c K ∧ WroteIn w w' b (b + 1)
set_option maxHeartbeats 1000000 in
theorem text_c (b : Nat) (A : Option Addr) (n c : Nat) (X : Nat → Int) (K : Int) (g l d : Nat) (Z : Nat → ByteArray) (w : World) (hn : n ≤ 4096) (hK : K ≤ 900000000) (hA : 0 < n → ∀ x o, A = some ⟨x, o, none⟩ → x < b) (hs : Src w b A n c K) (hx : Sb w A n X) (l1 : 1 ≤ l) (l2 : l ≤ 10) (hg : b ≠ g) (hgl : g < w.heap.size) (hz : ∀ j, j < l → w.cell? ⟨g, j, none⟩ = some (.string (Z j))) :
    Calls Tryz.prog 20 #[.pointer (some ⟨b, 0, none⟩), .slice (some ⟨g, 0, none⟩) l d] w (DrawnT w b A n c (K + 2) l Z) := by
  have HP := Lib.hid (pick_c b A n c X K l ((l : Int) - 1) w hn hK (by omega) (by omega) hA hs hx)
  have HZ := Lib.hid hz
  clear hs hx hA hz
  go_enter Tryz.func20, Tryz.ntmps20
  go_wp2_with fail
  refine HP.out.mono ?_
  rintro e w1 ⟨v, rfl, v0, v1, s1, hw1⟩
  obtain ⟨j, rfl⟩ : ∃ j : Nat, v = j := ⟨v.toNat, by omega⟩
  have hjl : j < l := by omega
  have hji : (j : Int) < (l : Int) := by omega
  have z0 : w1.cell? ⟨g, j, none⟩ = some (.string (Z j)) := by
    rw [← HZ.out j hjl]
    unfold World.cell?
    rw [hw1.block g hgl (by omega)]
  have S1 := Lib.hid s1
  clear s1
  go_wp2
  go_ret
  exact ⟨j, hjl, rfl, S1.out, hw1⟩

/-- the texts of which one is drawn -/
def strokeT (j : Nat) : ByteArray := if j = 0 then ⟨#[70, 66]⟩ else if j = 1 then ⟨#[70, 70, 66]⟩ else if j = 2 then ⟨#[70, 66, 66]⟩ else if j = 3 then ⟨#[70, 70, 66, 66]⟩ else ⟨#[70, 70, 70, 66]⟩
theorem strokeT_ok (j : Nat) : strokeB (strokeT j) = true := by
  unfold strokeT
  split
  · decide
  split
  · decide
  split
  · decide
  split
  · decide
  · decide
theorem strokeL_ok {l : List UInt8} (h1 : 1 ≤ l.length) (h2 : l.length ≤ 12) (h : ∀ x ∈ l, x = 70 ∨ x = 66) : strokeB ⟨l.toArray⟩ = true := by
  have hz : (⟨l.toArray⟩ : ByteArray).size = l.length := by show l.toArray.size = _; simp
  unfold strokeB
  rw [hz, Bool.and_eq_true]
  refine ⟨(okTo_iff _ _).2 fun i hi => ?_, inB_yes (by omega) (by omega)⟩
  have hi' : i < (⟨l.toArray⟩ : ByteArray).size := by rw [hz]; exact hi
  have e : byteAt ⟨l.toArray⟩ i = ((l[i]'hi).toNat : Int) := by rw [byteAt_eq hi']; rfl
  unfold fb
  rw [e]
  rcases h _ (List.getElem_mem hi) with h | h <;> rw [h] <;> rfl

set_option maxHeartbeats 4000000 in
theorem stroke_d (b : Nat) (A : Option Addr) (n c : Nat) (X : Nat → Int) (K : Int) (w : World) (hn : n ≤ 4096) (hK : K ≤ 700000000) (hA : 0 < n → ∀ x o, A = some ⟨x, o, none⟩ → x < b) (hs : Src w b A n c K) (hx : Sb w A n X) :
    Calls Tryz.prog 10 #[.pointer (some ⟨b, 0, none⟩)] w fun e w' => ∃ S, e = .returned (.string S) ∧ Hid (strokeB S = true) ∧ Kept w.heap.size b w w' := by
  obtain ⟨i0, hi0, hz0, hz1, hz2⟩ := info_parts info_u8
  have HX := Lib.hid hx
  have HA := Lib.hid hA
  have hlt := hs.lt
  have HO := Lib.hid (one_c b A n c X K 3 2 w hn (by omega) (by omega) (by omega) hA hs hx)
  clear hs hx hA
  go_enter Tryz.func10, Tryz.ntmps10
  go_wp2_with fail
  refine HO.out.mono ?_
  rintro e w1 ⟨v, rfl, s1, hw1⟩
  have K1 := Lib.hid ((Kept.refl w.heap.size b w).wrote hw1 (Nat.le_refl _))
  have X1 := Lib.hid (HX.out.wrote hw1 HA.out (Nat.le_refl _))
  have S1 := Lib.hid s1
  have z1 := hw1.size
  clear s1 HO hw1
  cases v
  · go_wp2_with fail
    have q2 := Lib.hid (S1.out.below ((Below.refl _ w1).alloc (Nat.le_refl _) (Obj.cells #[] 5)) S1.out.lt)
    have y2 := Lib.hid (X1.out.below ((Below.refl _ w1).alloc (Nat.le_refl _) (Obj.cells #[] 5)) (Nat.le_refl _))
    refine (pick_c b A n c X (K + 2) 7 6 _ hn (by omega) (by omega) (by omega) HA.out q2.out y2.out).mono ?_
    rintro e w2 ⟨v, rfl, v0, v1, s2, hw2⟩
    obtain ⟨k0, rfl⟩ : ∃ k : Nat, v = (k : Int) := ⟨v.toNat, by omega⟩
    have K2 := Lib.hid ((K1.out.alloc (Nat.le_refl _) (Obj.cells #[] 5)).wrote hw2 (Nat.le_refl _))
    have S2 := Lib.hid s2
    have X2 := Lib.hid (HX.out.kept K2.out HA.out (by omega))
    have O2 := Lib.hid (owns_wrote1 (ownsB_empty w1 w.heap.size 5 (by omega)) hw2 hlt)
    clear s2 hw2 q2 y2 S1 X1 K1
    go_wp2_with fail
    go_loopw [4, 3] (fun i v wr => ∃ (k : Nat) (l : List UInt8), i = .int .i64 (k : Int) ∧ 1 ≤ k + l.length ∧ k + l.length ≤ 7 ∧ Hid (∀ x ∈ l, x = 70 ∨ x = 66) ∧ Hid (wr.ownsRow w.heap.size 5 1 v l.length (l.map bv)) ∧ Hid (Src wr b A n c (K + 4 + 2 * (l.length : Int))) ∧ Kept w.heap.size b w wr ∧ Hid (Sb wr A n X)) (fun i _ _ => (intOf i).toNat)
    case atStart => exact ⟨1 + k0, [], by go_num, by simp, by simp; omega, Lib.hid (fun x hx => absurd hx (by simp)), O2, Lib.hid (S2.out.mono (by simp; omega)), K2.out, X2⟩
    case round =>
      obtain ⟨k, l, rfl, h1, h7, hl, hown, hs, hk, hX⟩ := hrel
      have HK := Lib.hid hk
      have hzz := hk.size
      clear hk K2 S2 X2 O2
      cases k with
      | succ k =>
        have hlt' : (0 : Int) < ((k + 1 : Nat) : Int) := by omega
        have hl1 : l.length + 1 ≤ maxLen := by unfold maxLen; omega
        have hl2 : (l.length + 1) * 1 ≤ 140737488355328 := by omega
        go_wp2_with fail
        refine (pick_c b A n c X _ 2 1 _ hn (by omega) (by omega) (by omega) HA.out hs.out hX.out).mono ?_
        rintro e w2 ⟨v, rfl, v0, v1, s2, hw2⟩
        have K2 := Lib.hid (HK.out.wrote hw2 (Nat.le_refl _))
        have zz2 := hw2.size
        have S2 := Lib.hid s2
        have hown2 := Lib.hid (owns_wrote1 hown.out hw2 hlt)
        clear s2 hw2
        obtain rfl | rfl : v = 0 ∨ v = 1 := by omega
        · skip
          go_wp2_with (at_builtin; refine wpList_append_own _ rfl _ _ 22 rfl w.heap.size 5 i0 (.int .u8 0) 1 1 Tryz.underlying22 hi0 hz0 hz1 hz2 rfl (by decide) _ _ _ rfl (hown2.out.alloc _) ⟨w2.heap.size, 0, none⟩ 1 1 [bv 70] rfl rfl ?c1 ?c2 hl1 hl2 ?c5 ?_)
          case c1 => intro j u hj; rcases j with _ | j <;> simp at hj; subst hj; go_simp; rfl
          case c2 => intro u hu; simp at hu; subst hu; rfl
          case c5 => simp; omega
          intro v' w3 hown3 hgrow3 _
          have K3 : Kept w.heap.size b w w3 := (K2.out.alloc (Nat.le_refl _) _).grown (Nat.le_refl _) hgrow3 (owns_ge hown2.out)
          have S3 := Lib.hid (S2.out.of_block (w' := w3) ((hgrow3.block b (by have := S2.out.lt; simp; omega) (fun e => by have := owns_ge hown2.out b e.symm; omega)).trans (Go.Deep.blk_alloc_lt _ _ _ S2.out.lt)) (by have := hgrow3.size; simp at this; omega))
          have X3 := Lib.hid (HX.out.kept K3 HA.out (by omega))
          have HO := Lib.hid (ownsB_snoc hown3)
          clear hown3 hgrow3
          go_wp2
          go_roundw
          case rel => exact ⟨k, l ++ [70], by go_num, by simp; omega, by simp; omega, Lib.hid (fun x hx => by rcases List.mem_append.1 hx with h | h; exact hl.out x h; simp at h; simp [h]), by rw [List.length_append]; exact HO.out, Lib.hid (S3.out.mono (by simp; omega)), K3, X3⟩
          case measure => simp [intOf]
        · skip
          go_wp2_with (at_builtin; refine wpList_append_own _ rfl _ _ 22 rfl w.heap.size 5 i0 (.int .u8 0) 1 1 Tryz.underlying22 hi0 hz0 hz1 hz2 rfl (by decide) _ _ _ rfl (hown2.out.alloc _) ⟨w2.heap.size, 0, none⟩ 1 1 [bv 66] rfl rfl ?c1 ?c2 hl1 hl2 ?c5 ?_)
          case c1 => intro j u hj; rcases j with _ | j <;> simp at hj; subst hj; go_simp; rfl
          case c2 => intro u hu; simp at hu; subst hu; rfl
          case c5 => simp; omega
          intro v' w3 hown3 hgrow3 _
          have K3 : Kept w.heap.size b w w3 := (K2.out.alloc (Nat.le_refl _) _).grown (Nat.le_refl _) hgrow3 (owns_ge hown2.out)
          have S3 := Lib.hid (S2.out.of_block (w' := w3) ((hgrow3.block b (by have := S2.out.lt; simp; omega) (fun e => by have := owns_ge hown2.out b e.symm; omega)).trans (Go.Deep.blk_alloc_lt _ _ _ S2.out.lt)) (by have := hgrow3.size; simp at this; omega))
          have X3 := Lib.hid (HX.out.kept K3 HA.out (by omega))
          have HO := Lib.hid (ownsB_snoc hown3)
          clear hown3 hgrow3
          go_wp2
          go_roundw
          case rel => exact ⟨k, l ++ [66], by go_num, by simp; omega, by simp; omega, Lib.hid (fun x hx => by rcases List.mem_append.1 hx with h | h; exact hl.out x h; simp at h; simp [h]), by rw [List.length_append]; exact HO.out, Lib.hid (S3.out.mono (by simp; omega)), K3, X3⟩
          case measure => simp [intOf]
      | zero =>
        have hcv : (convert 22 9 u3).run Tryz.prog wr = .ok (.string ⟨l.toArray⟩) wr := str_of_owns (P := Tryz.prog) 22 9 5 Tryz.underlying22 Tryz.underlying5 Tryz.underlying9 l hown.out
        have HS := Lib.hid (strokeL_ok (l := l) (by omega) (by omega) hl.out)
        generalize (⟨l.toArray⟩ : ByteArray) = S at *
        go_wp2
        go_ret
        exact ⟨S, rfl, HS, HK.out⟩
  · go_wp2_with fail
    have q2 := Lib.hid (S1.out.below ((Below.refl _ w1).alloc (Nat.le_refl _) (Obj.cells #[Value.string { data := #[70, 66] }, Value.string { data := #[70, 70, 66] }, Value.string { data := #[70, 66, 66] }, Value.string { data := #[70, 70, 66, 66] }, Value.string { data := #[70, 70, 70, 66] }] 9)) S1.out.lt)
    have y2 := Lib.hid (X1.out.below ((Below.refl _ w1).alloc (Nat.le_refl _) (Obj.cells #[Value.string { data := #[70, 66] }, Value.string { data := #[70, 70, 66] }, Value.string { data := #[70, 66, 66] }, Value.string { data := #[70, 70, 66, 66] }, Value.string { data := #[70, 70, 70, 66] }] 9)) (Nat.le_refl _))
    refine (text_c b A n c X (K + 2) w1.heap.size 5 5 strokeT _ hn (by omega) HA.out q2.out y2.out (by omega) (by omega) (by have := z1; omega) (by simp) ?_).mono ?_
    · intro j hj
      rcases j with _ | _ | _ | _ | _ | j
      · go_simp; rfl
      · go_simp; rfl
      · go_simp; rfl
      · go_simp; rfl
      · go_simp; rfl
      · omega
    rintro e w2 ⟨j, hj, rfl, s2, hw2⟩
    have K2 := Lib.hid ((K1.out.alloc (Nat.le_refl _) (Obj.cells #[Value.string { data := #[70, 66] }, Value.string { data := #[70, 70, 66] }, Value.string { data := #[70, 66, 66] }, Value.string { data := #[70, 70, 66, 66] }, Value.string { data := #[70, 70, 70, 66] }] 9)).wrote hw2 (Nat.le_refl _))
    have HS := Lib.hid (strokeT_ok j)
    generalize strokeT j = S at *
    clear s2 hw2
    go_wp2
    go_ret
    exact ⟨S, rfl, HS, K2.out⟩

theorem stroke_c (A : Option Addr) (n c : Nat) (X : Nat → Int) (w : World) (hn : n ≤ 4096) (hx : Sb w A n X) :
    Calls Tryz.prog 5 #[.slice A n c] w fun e w' => ∃ S, e = .returned (.string S) ∧ Hid (strokeB S = true) ∧ Below w.heap.size w w' := by
  have HX := Lib.hid hx
  have HA := Lib.hid (hx.low (Nat.le_refl w.heap.size))
  have HF := Lib.hid (from_c A n c w)
  clear hx
  go_enter Tryz.func5, Tryz.ntmps5
  go_wp2_with fail
  refine HF.out.mono ?_
  rintro e w1 ⟨rfl, s1, b1⟩
  have S1 := Lib.hid s1
  have B1 := Lib.hid b1
  clear s1 b1
  go_wp2_with fail
  refine (stroke_d w.heap.size A n c X 0 w1 hn (by omega) HA.out S1.out (HX.out.below B1.out (Nat.le_refl _))).mono ?_
  rintro e w2 ⟨S, rfl, hS, hk⟩
  have z1 := B1.out.size
  have g2 := Lib.hid (B1.out.trans ((hk.mono (M := w.heap.size) z1).below (Nat.le_refl _)))
  clear hk
  go_wp2
  go_ret
  exact ⟨S, rfl, hS, g2.out⟩
end Go.Proofs.YtlepgkmpbhlajaaGreatDoor.src
