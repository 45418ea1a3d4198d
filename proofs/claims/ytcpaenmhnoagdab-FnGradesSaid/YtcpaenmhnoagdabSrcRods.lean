/-
  The laws' own rods: some valid ones.
-/
import Derived.Test.YtcpaenmhnoagdabSrcRod
import Derived.Test.YtcpaenmhnoagdabSrcBat
namespace Go.Proofs.Ytcpaenmhnoagdab.src
open Go.ChangeShapes Go.WideShapes Go.ChangeAt Go.RowKit Go.Proofs.Ytcpaenmhnoagdab.mem Go.Proofs.Ytcpaenmhnoagdab.rod
set_option linter.unusedVariables false
theorem info_rod : (Try.prog.info? 51).map (fun i => (i.zero, i.size, i.bytes)) = some (some (.agg #[.int .i64 0, .int .i64 0, .int .i64 0]), 3, 24) := by kernel_rfl
/-- rods are valid, and not long -/
def Rods3 (Y : Nat → Int) (n : Nat) : Prop := ∀ i, i < n → rodB (Y (i * 3)) (Y (i * 3 + 1)) (Y (i * 3 + 2)) = true ∧ Y (i * 3) ≤ 2050 ∧ Y (i * 3 + 1) ≤ 115
def add3 (Y : Nat → Int) (i : Nat) (a b c : Int) (j : Nat) : Int := if j = i * 3 then a else if j = i * 3 + 1 then b else if j = i * 3 + 2 then c else Y j
theorem add3_0 (Y : Nat → Int) (i : Nat) (a b c : Int) : add3 Y i a b c (i * 3) = a := by unfold add3; rw [if_pos rfl]
theorem add3_1 (Y : Nat → Int) (i : Nat) (a b c : Int) : add3 Y i a b c (i * 3 + 1) = b := by unfold add3; rw [if_neg (by omega), if_pos rfl]
theorem add3_2 (Y : Nat → Int) (i : Nat) (a b c : Int) : add3 Y i a b c (i * 3 + 2) = c := by unfold add3; rw [if_neg (by omega), if_neg (by omega), if_pos rfl]
theorem add3_o {Y : Nat → Int} {i : Nat} {a b c : Int} {j : Nat} (h : j < i * 3) : add3 Y i a b c j = Y j := by unfold add3; rw [if_neg (by omega), if_neg (by omega), if_neg (by omega)]
theorem Rods3.add {Y : Nat → Int} {n : Nat} {a b c : Int} (h : Rods3 Y n) (h1 : rodB a b c = true) (h2 : a ≤ 2050) (h3 : b ≤ 115) : Rods3 (add3 Y n a b c) (n + 1) := fun i hi => by
  by_cases e : i = n
  · subst e; rw [add3_0, add3_1, add3_2]; exact ⟨h1, h2, h3⟩
  · rw [add3_o (by omega), add3_o (by omega), add3_o (by omega)]
    exact h i (by omega)
theorem iC_add3 (Y : Nat → Int) (i : Nat) (a b c : Int) : iC (add3 Y i a b c) ((i + 1) * 3) = iC Y (i * 3) ++ [.int .i64 a, .int .i64 b, .int .i64 c] := by
  unfold iC
  rw [show (i + 1) * 3 = i * 3 + 1 + 1 + 1 by omega]
  rw [List.range_succ, List.range_succ, List.range_succ]
  simp only [List.map_append, List.map_cons, List.map_nil, List.append_assoc, List.cons_append, List.nil_append]
  rw [add3_0, add3_1, show i * 3 + 1 + 1 = i * 3 + 2 by omega, add3_2]
  congr 1
  exact List.map_congr_left fun j hj => by rw [add3_o (List.mem_range.1 hj)]
theorem owns_03 (w : World) (E : TypeId) (B : Nat) (Y : Nat → Int) (hB : B ≤ w.heap.size) : (w.alloc (.cells #[] E)).ownsRow B E 3 (.slice (some ⟨w.heap.size, 0, none⟩) 0 0) 0 (iC Y 0) :=
  ⟨rfl, .inr ⟨w.heap.size, 0, #[], rfl, hB, Go.Deep.blk_alloc_new _ _, Nat.le_refl _, by unfold maxLen; omega, rfl, rfl⟩⟩
theorem sl_of_owns3 {w : World} {B n : Nat} {E : TypeId} {v : Value} {Y : Nat → Int} (h : w.ownsRow B E 3 v n (iC Y (n * 3))) : ∃ A c, v = .slice A n c ∧ n ≤ c ∧ c ≤ maxLen ∧ Row w B w.heap.size A n 3 E Y := by
  rcases h.2 with ⟨rfl, rfl⟩ | ⟨g, cap, cur, rfl, hB, hh, hc, hm, hs, ht⟩
  · exact ⟨none, 0, rfl, Nat.le_refl _, by unfold maxLen; omega, Row.none_⟩
  · refine ⟨_, _, rfl, hc, hm, fun hn => ⟨g, rfl, hB, (Array.getElem?_eq_some_iff.1 hh).1, cur, hh, by rw [hs]; exact Nat.mul_le_mul_right _ hc, fun i hi => ?_⟩⟩
    have e1 : cur[i]? = cur.toList[i]? := by simp
    have e2 : cur.toList[i]? = (cur.toList.take (n * 3))[i]? := by rw [List.getElem?_take_of_lt hi]
    rw [e1, e2, ht]
    unfold iC
    rw [List.getElem?_map, List.getElem?_range hi]
    rfl

/-- between two rounds -/
def Drawing3 (w wr : World) (b : Nat) (A : Option Addr) (n c : Nat) (K : Int) (k i : Nat) (v : Value) (Y : Nat → Int) : Prop :=
  i + k ≤ 7 ∧ wr.ownsRow w.heap.size 51 3 v i (iC Y (i * 3)) ∧ Rods3 Y i ∧ Src wr b A n c (K + 2 + 6 * i) ∧ WroteIn w wr b (b + 1)

set_option maxHeartbeats 8000000 in
set_option maxRecDepth 100000 in
theorem draw3_c (b : Nat) (A : Option Addr) (n c : Nat) (X : Nat → Int) (K : Int) (w : World) (hn : n ≤ 3000) (hK : K ≤ 1000) (hA : 0 < n → ∀ x o, A = some ⟨x, o, none⟩ → x < b) (hs : Src w b A n c K) (hx : Sb w A n X) :
    Calls Try.prog 89 #[.pointer (some ⟨b, 0, none⟩)] w fun e w' => ∃ v k Y, e = .returned v ∧ k ≤ 7 ∧ w'.ownsRow w.heap.size 51 3 v k (iC Y (k * 3)) ∧ Rods3 Y k ∧ WroteIn w w' b (b + 1) := by
  have HS := Lib.hid hs
  have HX := Lib.hid hx
  have HA := Lib.hid hA
  have hlt := hs.lt
  have KEY := Lib.hid (fun (wr : World) (h5 : WroteIn w wr b (b + 1)) => hx.wrote h5 hA (Nat.le_refl _))
  obtain ⟨i0, hi0, hz0, hz1, hz2⟩ := info_parts info_rod
  clear hs hx hA
  go_enter Try.func89, Try.ntmps89
  go_wp2_with fail
  refine (pick_c b A n c X K 8 7 _ hn (by omega) (by omega) (by omega) HA.out (HS.out.alloc _) (KEY.out _ (wrote_alloc (WroteIn.refl w b (b + 1)) _))).mono ?_
  rintro e w1 ⟨k0, rfl, k00, k01, s1, hw1⟩
  have O1 := Lib.hid (owns_wrote (owns_03 w 51 w.heap.size (fun _ => 0) (Nat.le_refl _)) hw1 (by omega))
  have W1 := Lib.hid (wrote_join (wrote_alloc (WroteIn.refl w b (b + 1)) _) hw1 (fun j _ _ => .inr (by omega)))
  have S1 := Lib.hid s1
  obtain ⟨k1, rfl⟩ : ∃ k1 : Nat, k0 = k1 := ⟨k0.toNat, by omega⟩
  clear s1 hw1
  go_wp2_with fail
  go_loopw [4, 3] (fun s v wr => ∃ (k i : Nat) (Y : Nat → Int), s = .int .i64 k ∧ Drawing3 w wr b A n c K k i v Y) (fun s _ _ => (intOf s).toNat)
  case atStart => exact ⟨k1, 0, fun _ => 0, rfl, by omega, O1.out, fun i hi => absurd hi (by omega), S1.out.mono (by omega), W1.out⟩
  case round =>
    obtain ⟨k, i, Y, rfl, hik, ho, hsm, hs, hw⟩ := hrel
    have HO := Lib.hid ho
    have HM := Lib.hid hsm
    have HC := Lib.hid hs
    have HW := Lib.hid hw
    have zw := hw.size
    clear ho hsm hs hw
    by_cases hk : 0 < k
    · have hk' : (0 : Int) < (k : Int) := by omega
      go_wp2_with fail
      refine (newRod_c b A n c X _ _ hn (by omega) HA.out HC.out (KEY.out _ HW.out)).mono ?_
      rintro e w5 ⟨L, B, T, rfl, hr, hL, hB, s2, hw2⟩
      have z2 := hw2.size
      have W2 := Lib.hid (wrote_trans HW.out hw2)
      have O2 := Lib.hid (owns_wrote HO.out hw2 (by omega))
      have S2 := Lib.hid s2
      have hl1 : i + 1 ≤ maxLen := by unfold maxLen; omega
      have hl2 : (i + 1) * 24 ≤ 140737488355328 := by omega
      have HR := Lib.hid hr
      clear s2 hw2 hr
      go_wp2_with (at_builtin; refine wpList_append_own _ rfl _ _ 25 rfl w.heap.size 51 i0 _ 3 24 Try.underlying25 hi0 hz0 hz1 hz2 rfl (by decide) _ _ _ rfl (O2.out.alloc _) ⟨w5.heap.size, 0, none⟩ 1 1 [.int .i64 L, .int .i64 B, .int .i64 T] rfl rfl ?c1 ?c2 hl1 hl2 ?c5 ?_)
      case c1 => intro j u hj; rcases j with _ | _ | _ | j <;> simp at hj <;> subst hj <;> go_simp
      case c2 => intro u hu; simp at hu; rcases hu with rfl | rfl | rfl <;> rfl
      case c5 => simp; omega
      intro v' w6 hown6 hgrow6 _
      have H6 := Lib.hid (show Drawing3 w w6 b A n c K (k - 1) (i + 1) v' (add3 Y i L B T) from
        ⟨by omega, by rw [iC_add3]; exact hown6, HM.out.add HR.out hL hB, by
          have q := (S2.out.alloc (.cells #[.int .i64 L, .int .i64 B, .int .i64 T] 51)).of_block (hgrow6.block b (by simp; omega) (fun e => by have := owns_ge O2.out b e.symm; omega)) hgrow6.size
          exact q.mono (by omega), wrote_grown (wrote_alloc W2.out _) hgrow6 (owns_ge O2.out)⟩)
      clear hown6 hgrow6
      go_wp2
      go_roundw
      case rel => exact ⟨k - 1, i + 1, _, by go_num, H6.out⟩
      case measure => simp [intOf]; omega
    · obtain rfl : k = 0 := by omega
      go_wp2
      go_ret
      exact ⟨_, i, Y, rfl, by omega, HO.out, HM.out, HW.out⟩

/-- the answer is a list of such rods -/
def Drew3 (w : World) (e : Ending) (w' : World) : Prop := ∃ A k c Y, e = .returned (.slice A k c) ∧ k ≤ 7 ∧ k ≤ c ∧ c ≤ maxLen ∧ Rods3 Y k ∧ Row w' w.heap.size w'.heap.size A k 3 51 Y ∧ Below w.heap.size w w'
theorem a2Rods_c (A : Option Addr) (n c : Nat) (X : Nat → Int) (w : World) (hn : n ≤ 3000) (hx : Sb w A n X) :
    Calls Try.prog 34 #[.slice A n c] w (Drew3 w) := by
  have HX := Lib.hid hx
  have HA := Lib.hid (hx.low (Nat.le_refl w.heap.size))
  clear hx
  go_enter Try.func34, Try.ntmps34
  go_wp2_with fail
  refine (from_c A n c _).mono ?_
  rintro e w1 ⟨rfl, s1, hb1⟩
  have S1 := Lib.hid s1
  have z1 := s1.lt
  clear s1
  go_wp2_with fail
  refine (draw3_c w.heap.size A n c X 0 _ hn (by omega) HA.out S1.out (HX.out.below hb1 (Nat.le_refl _))).mono ?_
  rintro e w2 ⟨v, k, Y, rfl, hk, ho, hs, hw⟩
  obtain ⟨A', c', rfl, h1, h2, h3⟩ := sl_of_owns3 ho
  have HB := Lib.hid (show Drew3 w (.returned (.slice A' k c')) w2 from ⟨A', k, c', Y, rfl, hk, h1, h2, hs, h3.wide (by omega) (Nat.le_refl _), hb1.trans ((hw.below (B := w.heap.size) (by omega) (Nat.le_refl _)))⟩)
  clear ho hs hw h3
  go_wp2
  go_ret
  exact HB.out
end Go.Proofs.Ytcpaenmhnoagdab.src
