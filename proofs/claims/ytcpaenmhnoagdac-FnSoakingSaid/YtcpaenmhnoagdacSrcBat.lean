/-
  The laws' own batches: some few short ones.
-/
import Derived.Test.YtcpaenmhnoagdacSrc
import Derived.Test.YtcpaenmhnoagdacBatM
import Derived.OwnWalk
import Derived.RangeFuncBox
namespace Go.Proofs.Ytcpaenmhnoagdac.src
open Go.ChangeShapes Go.WideShapes Go.ChangeAt Go.RowKit Go.Proofs.Ytcpaenmhnoagdac.mem Go.Proofs.Ytcpaenmhnoagdac.rod
set_option linter.unusedVariables false
theorem info_batch : (Try.prog.info? 64).map (fun i => (i.zero, i.size, i.bytes)) = some (some (.agg #[.int .i64 0, .int .i64 0, .int .i64 0, .int .i64 0]), 4, 32) := by kernel_rfl
/-- batches are few hours long, and early -/
def Small (Y : Nat → Int) (n : Nat) : Prop := ∀ i, i < n → 0 ≤ Y (i * 4) ∧ Y (i * 4) ≤ 19 ∧ 1 ≤ Y (i * 4 + 1) ∧ Y (i * 4 + 1) ≤ 14 ∧ 1 ≤ Y (i * 4 + 2) ∧ Y (i * 4 + 2) ≤ 10 ∧ 1 ≤ Y (i * 4 + 3) ∧ Y (i * 4 + 3) ≤ 7
def add4 (Y : Nat → Int) (i : Nat) (a b c d : Int) (j : Nat) : Int := if j = i * 4 then a else if j = i * 4 + 1 then b else if j = i * 4 + 2 then c else if j = i * 4 + 3 then d else Y j
theorem add4_0 (Y : Nat → Int) (i : Nat) (a b c d : Int) : add4 Y i a b c d (i * 4) = a := by unfold add4; rw [if_pos rfl]
theorem add4_1 (Y : Nat → Int) (i : Nat) (a b c d : Int) : add4 Y i a b c d (i * 4 + 1) = b := by unfold add4; rw [if_neg (by omega), if_pos rfl]
theorem add4_2 (Y : Nat → Int) (i : Nat) (a b c d : Int) : add4 Y i a b c d (i * 4 + 2) = c := by unfold add4; rw [if_neg (by omega), if_neg (by omega), if_pos rfl]
theorem add4_3 (Y : Nat → Int) (i : Nat) (a b c d : Int) : add4 Y i a b c d (i * 4 + 3) = d := by unfold add4; rw [if_neg (by omega), if_neg (by omega), if_neg (by omega), if_pos rfl]
theorem add4_o {Y : Nat → Int} {i : Nat} {a b c d : Int} {j : Nat} (h : j < i * 4) : add4 Y i a b c d j = Y j := by unfold add4; rw [if_neg (by omega), if_neg (by omega), if_neg (by omega), if_neg (by omega)]
theorem Small.add {Y : Nat → Int} {n : Nat} {a b c d : Int} (h : Small Y n) (a0 : 0 ≤ a) (a1 : a ≤ 19) (b0 : 1 ≤ b) (b1 : b ≤ 14) (c0 : 1 ≤ c) (c1 : c ≤ 10) (d0 : 1 ≤ d) (d1 : d ≤ 7) : Small (add4 Y n a b c d) (n + 1) := fun i hi => by
  by_cases e : i = n
  · subst e; rw [add4_0, add4_1, add4_2, add4_3]; omega
  · rw [add4_o (by omega), add4_o (by omega), add4_o (by omega), add4_o (by omega)]
    exact h i (by omega)
/-- cells of whole numbers -/
def iC (Y : Nat → Int) (n : Nat) : List Value := (List.range n).map fun j => .int .i64 (Y j)
theorem iC_len (Y : Nat → Int) (n : Nat) : (iC Y n).length = n := by simp [iC]
theorem iC_add (Y : Nat → Int) (i : Nat) (a b c d : Int) : iC (add4 Y i a b c d) ((i + 1) * 4) = iC Y (i * 4) ++ [.int .i64 a, .int .i64 b, .int .i64 c, .int .i64 d] := by
  unfold iC
  rw [show (i + 1) * 4 = i * 4 + 1 + 1 + 1 + 1 by omega]
  rw [List.range_succ, List.range_succ, List.range_succ, List.range_succ]
  simp only [List.map_append, List.map_cons, List.map_nil, List.append_assoc, List.cons_append, List.nil_append]
  rw [add4_0, add4_1, show i * 4 + 1 + 1 = i * 4 + 2 by omega, add4_2, show i * 4 + 2 + 1 = i * 4 + 3 by omega, add4_3]
  congr 1
  exact List.map_congr_left fun j hj => by rw [add4_o (List.mem_range.1 hj)]
theorem owns_wrote {w w' : World} {B n size lo hi : Nat} {E : TypeId} {v : Value} {xs : List Value} (h : w.ownsRow B E size v n xs) (hw : WroteIn w w' lo hi) (hd : hi ≤ B) : w'.ownsRow B E size v n xs := by
  rcases h with ⟨hl, ⟨rfl, h0⟩ | ⟨g, cap, cur, rfl, hB, hh, hrest⟩⟩
  · exact ⟨hl, .inl ⟨rfl, h0⟩⟩
  · exact ⟨hl, .inr ⟨g, cap, cur, rfl, hB, (hw.block g (Array.getElem?_eq_some_iff.1 hh).1 (by omega)).trans hh, hrest⟩⟩
theorem wrote_grown {w wr w5 : World} {lo hi : Nat} {row : Option Nat} (h : WroteIn w wr lo hi) (hg : wr.grownBy w5 row) (hr : ∀ j, row = some j → w.heap.size ≤ j) : WroteIn w w5 lo hi := by
  have := h.size
  have := hg.size
  exact ⟨hg.os.trans h.os, hg.tape.trans h.tape, hg.output.trans h.output, by omega, fun k hk hd => (hg.block k (by omega) (fun e => by have := hr k e.symm; omega)).trans (h.block k hk hd)⟩
theorem owns_ge {w : World} {B n size : Nat} {E : TypeId} {v : Value} {xs : List Value} (h : w.ownsRow B E size v n xs) : ∀ j, v.ownBlock = some j → B ≤ j := fun j e => by
  rcases h.2 with ⟨rfl, _⟩ | ⟨g, cap, cur, rfl, hB, _⟩
  · simp [Value.ownBlock] at e
  · simp [Value.ownBlock] at e; omega
theorem owns_0 (w : World) (E : TypeId) (B : Nat) (Y : Nat → Int) (hB : B ≤ w.heap.size) : (w.alloc (.cells #[] E)).ownsRow B E 4 (.slice (some ⟨w.heap.size, 0, none⟩) 0 0) 0 (iC Y 0) :=
  ⟨rfl, .inr ⟨w.heap.size, 0, #[], rfl, hB, Go.Deep.blk_alloc_new _ _, Nat.le_refl _, by unfold maxLen; omega, rfl, rfl⟩⟩
theorem sl_of_owns {w : World} {B n : Nat} {E : TypeId} {v : Value} {Y : Nat → Int} (h : w.ownsRow B E 4 v n (iC Y (n * 4))) : ∃ A c, v = .slice A n c ∧ n ≤ c ∧ c ≤ maxLen ∧ Row w B w.heap.size A n 4 E Y := by
  rcases h.2 with ⟨rfl, rfl⟩ | ⟨g, cap, cur, rfl, hB, hh, hc, hm, hs, ht⟩
  · exact ⟨none, 0, rfl, Nat.le_refl _, by unfold maxLen; omega, Row.none_⟩
  · refine ⟨_, _, rfl, hc, hm, fun hn => ⟨g, rfl, hB, (Array.getElem?_eq_some_iff.1 hh).1, cur, hh, by rw [hs]; exact Nat.mul_le_mul_right _ hc, fun i hi => ?_⟩⟩
    have e1 : cur[i]? = cur.toList[i]? := by simp
    have e2 : cur.toList[i]? = (cur.toList.take (n * 4))[i]? := by rw [List.getElem?_take_of_lt hi]
    rw [e1, e2, ht]
    unfold iC
    rw [List.getElem?_map, List.getElem?_range hi]
    rfl
def n4 (a b c d : Int) (j : Nat) : Int := if j = 0 then a else if j = 1 then b else if j = 2 then c else d
theorem own_new4 (w : World) (a b c d : Int) (E : TypeId) : mem.Own (w.alloc (.cells #[.int .i64 a, .int .i64 b, .int .i64 c, .int .i64 d] E)) w.heap.size E 4 (n4 a b c d) :=
  own_new _ _ _ _ _ (fun i hi => by match i, hi with | 0, _ => rfl | 1, _ => rfl | 2, _ => rfl | 3, _ => rfl) (by simp)
theorem own_wrote4 {w w' : World} {g n lo hi : Nat} {E : TypeId} {X : Nat → Int} (h : mem.Own w g E n X) (hw : WroteIn w w' lo hi) (hd : ¬ (lo ≤ g ∧ g < hi)) : mem.Own w' g E n X := h.of_block (hw.block g h.lt hd)
theorem Src.alloc {w : World} {b n c : Nat} {A : Option Addr} {K : Int} (h : Src w b A n c K) (o : Obj) : Src (w.alloc o) b A n c K := h.of_block (Go.Deep.blk_alloc_lt _ _ _ h.lt) (by simp)

/-- between two rounds -/
def Drawing (w wr : World) (b : Nat) (A : Option Addr) (n c : Nat) (K : Int) (k i : Nat) (v : Value) (Y : Nat → Int) : Prop :=
  i + k ≤ 5 ∧ wr.ownsRow w.heap.size 64 4 v i (iC Y (i * 4)) ∧ Small Y i ∧ Src wr b A n c (K + 2 + 8 * i) ∧ WroteIn w wr b (b + 1)

set_option maxHeartbeats 8000000 in
set_option maxRecDepth 100000 in
theorem draw_c (b : Nat) (A : Option Addr) (n c : Nat) (X : Nat → Int) (K : Int) (w : World) (hn : n ≤ 3000) (hK : K ≤ 1000) (hA : 0 < n → ∀ x o, A = some ⟨x, o, none⟩ → x < b) (hs : Src w b A n c K) (hx : Sb w A n X) :
    Calls Try.prog 99 #[.pointer (some ⟨b, 0, none⟩)] w fun e w' => ∃ v k Y, e = .returned v ∧ k ≤ 5 ∧ w'.ownsRow w.heap.size 64 4 v k (iC Y (k * 4)) ∧ Small Y k ∧ WroteIn w w' b (b + 1) := by
  have HS := Lib.hid hs
  have HX := Lib.hid hx
  have HA := Lib.hid hA
  have hlt := hs.lt
  have key : ∀ (K : Int) (m h : Int) (wr : World), K ≤ 900000000 → m - 1 ≤ h → 0 ≤ h → Src wr b A n c K → WroteIn w wr b (b + 1) → Calls Try.prog 70 #[.pointer (some ⟨b, 0, none⟩), .int .i64 m] wr (Drawn wr b A n c (K + 2) h) := fun K m h wr h1 h2 h3 h4 h5 => pick_c b A n c X K m h wr hn h1 h2 h3 hA h4 (hx.wrote h5 hA (Nat.le_refl _))
  have KEY := Lib.hid key
  obtain ⟨i0, hi0, hz0, hz1, hz2⟩ := info_parts info_batch
  clear hs hx hA key
  go_enter Try.func99, Try.ntmps99
  go_wp2_with fail
  refine (KEY.out K 6 5 _ (by omega) (by omega) (by omega) (HS.out.alloc _) (wrote_alloc (WroteIn.refl w b (b + 1)) _)).mono ?_
  rintro e w1 ⟨k0, rfl, k00, k01, s1, hw1⟩
  have O1 := Lib.hid (owns_wrote (owns_0 w 64 w.heap.size (fun _ => 0) (Nat.le_refl _)) hw1 (by omega))
  have W1 := Lib.hid (wrote_join (wrote_alloc (WroteIn.refl w b (b + 1)) _) hw1 (fun j _ _ => .inr (by omega)))
  have S1 := Lib.hid s1
  obtain ⟨k1, rfl⟩ : ∃ k1 : Nat, k0 = k1 := ⟨k0.toNat, by omega⟩
  clear s1 hw1
  go_wp2_with fail
  go_loopw [4, 3] (fun s v wr => ∃ (k i : Nat) (Y : Nat → Int), s = .int .i64 k ∧ Drawing w wr b A n c K k i v Y) (fun s _ _ => (intOf s).toNat)
  case atStart => exact ⟨k1, 0, fun _ => 0, rfl, by omega, O1.out, fun i hi => absurd hi (by omega), S1.out.mono (by omega), W1.out⟩
  case round =>
    obtain ⟨k, i, Y, rfl, hik, ho, hsm, hs, hw⟩ := hrel
    have HO := Lib.hid ho
    have HM := Lib.hid hsm
    have HC := Lib.hid hs
    have HW := Lib.hid hw
    have zw := hw.size
    clear ho hsm hs hw
    by_cases hk : 0 < k
    · have hk' : (0 : Int) < (k : Int) := by omega
      go_wp2_with fail
      refine (KEY.out _ 20 19 _ (by omega) (by omega) (by omega) HC.out HW.out).mono ?_
      rintro e w2 ⟨a, rfl, a0, a1, s2, hw2⟩
      have z2 := hw2.size
      have W2 := Lib.hid (wrote_trans HW.out hw2)
      have O2 := Lib.hid (owns_wrote HO.out hw2 (by omega))
      have S2 := Lib.hid s2
      clear s2 hw2
      go_wp2_with fail
      refine (KEY.out _ 14 13 _ (by omega) (by omega) (by omega) (S2.out.alloc _) (wrote_alloc W2.out _)).mono ?_
      rintro e w3 ⟨b3, rfl, b30, b31, s3, hw3⟩
      have z3 := hw3.size
      simp only [World.size_alloc] at z3
      have V3 := Lib.hid (wrote_trans (wrote_alloc (WroteIn.refl w2 b (b + 1)) (.cells #[.int .i64 a, .int .i64 0, .int .i64 0, .int .i64 0] 64)) hw3)
      have P3 := Lib.hid (own_wrote4 (own_new4 w2 a 0 0 0 64) hw3 (by omega))
      have S3 := Lib.hid s3
      have c1 := P3.out.cell (j := 1) (by omega)
      have f1 := P3.out.frozen 1
      have l3 : w2.heap.size < w3.heap.size := by omega
      have hne : b ≠ w2.heap.size := by omega
      clear s3 hw3
      go_wp2_with fail
      refine (KEY.out _ 10 9 _ (by omega) (by omega) (by omega) (S3.out.set (a := ⟨w2.heap.size, 1, none⟩) (by show b ≠ w2.heap.size; omega) _) (wrote_trans W2.out (wrote_new V3.out (a := ⟨w2.heap.size, 1, none⟩) (by show w2.heap.size ≤ w2.heap.size; omega) _))).mono ?_
      rintro e w4 ⟨b4, rfl, b40, b41, s4, hw4⟩
      have z4 := hw4.size
      simp at z4
      have V4 := Lib.hid (wrote_trans (wrote_new V3.out (a := ⟨w2.heap.size, 1, none⟩) (by show w2.heap.size ≤ w2.heap.size; omega) (.int .i64 (1 + b3))) hw4)
      have P4 := Lib.hid (own_wrote4 (P3.out.set 1 (1 + b3)) hw4 (by omega))
      have S4 := Lib.hid s4
      have c2 := P4.out.cell (j := 2) (by omega)
      have f2 := P4.out.frozen 2
      have l4 : w2.heap.size < w4.heap.size := by omega
      clear s4 hw4 c1 f1
      go_wp2_with fail
      refine (KEY.out _ 7 6 _ (by omega) (by omega) (by omega) (S4.out.set (a := ⟨w2.heap.size, 2, none⟩) (by show b ≠ w2.heap.size; omega) _) (wrote_trans W2.out (wrote_new V4.out (a := ⟨w2.heap.size, 2, none⟩) (by show w2.heap.size ≤ w2.heap.size; omega) _))).mono ?_
      rintro e w5 ⟨b5, rfl, b50, b51, s5, hw5⟩
      have z5 := hw5.size
      simp at z5
      have V5 := Lib.hid (wrote_trans (wrote_new V4.out (a := ⟨w2.heap.size, 2, none⟩) (by show w2.heap.size ≤ w2.heap.size; omega) (.int .i64 (1 + b4))) hw5)
      have P5 := Lib.hid (own_wrote4 (P4.out.set 2 (1 + b4)) hw5 (by omega))
      have S5 := Lib.hid s5
      have c0 : w5.cell? ⟨w2.heap.size, 0, none⟩ = some (.int .i64 a) := P5.out.cell (j := 0) (by omega)
      have c1 : w5.cell? ⟨w2.heap.size, 1, none⟩ = some (.int .i64 (1 + b3)) := P5.out.cell (j := 1) (by omega)
      have c2' : w5.cell? ⟨w2.heap.size, 2, none⟩ = some (.int .i64 (1 + b4)) := P5.out.cell (j := 2) (by omega)
      have c3 := P5.out.cell (j := 3) (by omega)
      have f3 := P5.out.frozen 3
      have l5 : w2.heap.size < w5.heap.size := by omega
      have VX := Lib.hid (wrote_new V5.out (a := ⟨w2.heap.size, 3, none⟩) (by show w2.heap.size ≤ w2.heap.size; omega) (.int .i64 (1 + b5)))
      have SX := Lib.hid (S5.out.set (a := ⟨w2.heap.size, 3, none⟩) (by show b ≠ w2.heap.size; omega) (.int .i64 (1 + b5)))
      have OX := Lib.hid (owns_wrote O2.out VX.out (by omega))
      have hl1 : i + 1 ≤ maxLen := by unfold maxLen; omega
      have hl2 : (i + 1) * 32 ≤ 140737488355328 := by omega
      clear s5 hw5 c2 f2
      go_wp2_with (at_builtin; refine wpList_append_own _ rfl _ _ 49 rfl w.heap.size 64 i0 _ 4 32 Try.underlying49 hi0 hz0 hz1 hz2 rfl (by decide) _ _ _ rfl (OX.out.alloc _) ⟨w5.heap.size, 0, none⟩ 1 1 [.int .i64 a, .int .i64 (1 + b3), .int .i64 (1 + b4), .int .i64 (1 + b5)] rfl rfl ?c1 ?c2 hl1 hl2 ?c5 ?_)
      case c1 => intro j u hj; rcases j with _ | _ | _ | _ | j <;> simp at hj <;> subst hj <;> go_simp
      case c2 => intro u hu; simp at hu; rcases hu with rfl | rfl | rfl | rfl <;> rfl
      case c5 => simp; omega
      intro v' w6 hown6 hgrow6 _
      have H6 := Lib.hid (show Drawing w w6 b A n c K (k - 1) (i + 1) v' (add4 Y i a (1 + b3) (1 + b4) (1 + b5)) from
        ⟨by omega, by rw [iC_add]; exact hown6, HM.out.add a0 a1 (by omega) (by omega) (by omega) (by omega) (by omega) (by omega), by
          have q := (SX.out.alloc (.cells #[.int .i64 a, .int .i64 (1 + b3), .int .i64 (1 + b4), .int .i64 (1 + b5)] 64)).of_block (hgrow6.block b (by simp; omega) (fun e => by have := owns_ge OX.out b e.symm; omega)) hgrow6.size
          exact q.mono (by omega), wrote_grown (wrote_alloc (wrote_trans W2.out VX.out) _) hgrow6 (owns_ge OX.out)⟩)
      clear hown6 hgrow6
      go_wp2
      go_roundw
      case rel => exact ⟨k - 1, i + 1, _, by go_num, H6.out⟩
      case measure => simp [intOf]; omega
    · obtain rfl : k = 0 := by omega
      go_wp2
      go_ret
      exact ⟨_, i, Y, rfl, by omega, HO.out, HM.out, HW.out⟩

/-- the answer is a list of such batches -/
def Drew4 (w : World) (e : Ending) (w' : World) : Prop := ∃ A k c Y, e = .returned (.slice A k c) ∧ k ≤ 5 ∧ k ≤ c ∧ c ≤ maxLen ∧ Small Y k ∧ Row w' w.heap.size w'.heap.size A k 4 64 Y ∧ Below w.heap.size w w'
theorem a2Bat_c (A : Option Addr) (n c : Nat) (X : Nat → Int) (w : World) (hn : n ≤ 3000) (hx : Sb w A n X) :
    Calls Try.prog 48 #[.slice A n c] w (Drew4 w) := by
  have HX := Lib.hid hx
  have HA := Lib.hid (hx.low (Nat.le_refl w.heap.size))
  clear hx
  go_enter Try.func48, Try.ntmps48
  go_wp2_with fail
  refine (from_c A n c _).mono ?_
  rintro e w1 ⟨rfl, s1, hb1⟩
  have S1 := Lib.hid s1
  have z1 := s1.lt
  clear s1
  go_wp2_with fail
  refine (draw_c w.heap.size A n c X 0 _ hn (by omega) HA.out S1.out (HX.out.below hb1 (Nat.le_refl _))).mono ?_
  rintro e w2 ⟨v, k, Y, rfl, hk, ho, hs, hw⟩
  obtain ⟨A', c', rfl, h1, h2, h3⟩ := sl_of_owns ho
  have HB := Lib.hid (show Drew4 w (.returned (.slice A' k c')) w2 from ⟨A', k, c', Y, rfl, hk, h1, h2, hs, h3.wide (by omega) (Nat.le_refl _), hb1.trans ((hw.below (B := w.heap.size) (by omega) (Nat.le_refl _)))⟩)
  clear ho hs hw h3
  go_wp2
  go_ret
  exact HB.out
end Go.Proofs.Ytcpaenmhnoagdac.src
