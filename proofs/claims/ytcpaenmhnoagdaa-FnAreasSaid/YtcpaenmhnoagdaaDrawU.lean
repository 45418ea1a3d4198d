/-
  The laws' own lists of bundles.
-/
import Derived.Test.YtcpaenmhnoagdaaSpoilU
import Derived.Test.YtcpaenmhnoagdaaFBunch
import Derived.OwnWalk
namespace Go.Proofs.Ytcpaenmhnoagdaa.src
open Go.ChangeShapes Go.WideShapes Go.ChangeAt Go.RowKit Go.Proofs.Ytcpaenmhnoagdaa.mem
set_option linter.unusedVariables false

def add3 (Y : Nat → Int) (i : Nat) (a b c : Int) (j : Nat) : Int := if j = i * 3 then a else if j = i * 3 + 1 then b else if j = i * 3 + 2 then c else Y j
theorem iC_add3 (Y : Nat → Int) (i : Nat) (a b c : Int) : iC (add3 Y i a b c) ((i + 1) * 3) = iC Y (i * 3) ++ [.int .i64 a, .int .i64 b, .int .i64 c] := by
  unfold iC
  rw [show (i + 1) * 3 = i * 3 + 1 + 1 + 1 by omega]
  rw [List.range_succ, List.range_succ, List.range_succ]
  simp only [List.map_append, List.map_cons, List.map_nil, List.append_assoc, List.cons_append, List.nil_append]
  rw [show add3 Y i a b c (i * 3) = a by unfold add3; rw [if_pos rfl], show add3 Y i a b c (i * 3 + 1) = b by unfold add3; rw [if_neg (by omega), if_pos rfl], show add3 Y i a b c (i * 3 + 1 + 1) = c by unfold add3; rw [if_neg (by omega), if_neg (by omega), if_pos rfl]]
  congr 1
  exact List.map_congr_left fun j hj => by
    have := List.mem_range.1 hj
    unfold add3
    rw [if_neg (by omega), if_neg (by omega), if_neg (by omega)]
theorem sl_of_owns3 {w : World} {B n : Nat} {E : TypeId} {v : Value} {Y : Nat → Int} (h : w.ownsRow B E 3 v n (iC Y (n * 3))) : ∃ A c, v = .slice A n c ∧ n ≤ c ∧ c ≤ maxLen ∧ Row w B w.heap.size A n 3 E Y := by
  rcases h.2 with ⟨rfl, rfl⟩ | ⟨g, cap, cur, rfl, hB, hh, hc, hm, hs, ht⟩
  · exact ⟨none, 0, rfl, Nat.le_refl _, by unfold maxLen; omega, Row.none_⟩
  · refine ⟨_, _, rfl, hc, hm, fun hn => ⟨g, rfl, hB, (Array.getElem?_eq_some_iff.1 hh).1, cur, hh, by rw [hs]; exact Nat.mul_le_mul_right _ hc, fun i hi => ?_⟩⟩
    have e1 : cur[i]? = cur.toList[i]? := by simp
    have e2 : cur.toList[i]? = (cur.toList.take (n * 3))[i]? := by rw [List.getElem?_take_of_lt hi]
    rw [e1, e2, ht]
    unfold iC
    rw [List.getElem?_map, List.getElem?_range hi]
    rfl
/-- between two rounds -/
def GrowU (w wr : World) (b : Nat) (A : Option Addr) (n c : Nat) (K : Int) (i : Nat) (v : Value) (Y : Nat → Int) : Prop :=
  wr.ownsRow w.heap.size 57 3 v i (iC Y (i * 3)) ∧ Src wr b A n c (K + 8 + 6 * i) ∧ Kept w.heap.size b w wr
/-- the answer is a list of bundles of the call's own, and the source lies on -/
def DrawnU (w : World) (b : Nat) (A : Option Addr) (n c : Nat) (K : Int) (e : Ending) (w' : World) : Prop :=
  ∃ (P : Option Addr) (k d : Nat) (Y : Nat → Int), e = .returned (.slice P k d) ∧ k ≤ 31 ∧ k ≤ d ∧ d ≤ maxLen ∧ Row w' w.heap.size w'.heap.size P k 3 57 Y ∧ Src w' b A n c K ∧ Kept w.heap.size b w w'

set_option maxHeartbeats 8000000 in
set_option maxRecDepth 100000 in
theorem drawU_c (b : Nat) (A : Option Addr) (n c : Nat) (X : Nat → Int) (K : Int) (w : World) (hn : n ≤ 4096) (hK : K ≤ 700000000) (hA : 0 < n → ∀ x o, A = some ⟨x, o, none⟩ → x < b) (hs : Src w b A n c K) (hx : Sb w A n X) :
    Calls Try.prog 78 #[.pointer (some ⟨b, 0, none⟩)] w (DrawnU w b A n c (K + 300)) := by
  have hlt := hs.lt
  have HA := Lib.hid hA
  have HX := Lib.hid hx
  obtain ⟨i0, hi0, hz0, hz1, hz2⟩ := info_parts rod.info_bunch
  obtain ⟨W0, hW0⟩ : ∃ W, W = w.alloc (.cells #[] 57) := ⟨_, rfl⟩
  have O0 := Lib.hid (show W0.ownsRow w.heap.size 57 3 (.slice (some ⟨w.heap.size, 0, none⟩) 0 0) 0 (iC (fun _ => 0) (0 * 3)) from by rw [hW0]; exact owns_new0 w 57 3 w.heap.size (Nat.le_refl _))
  have S0 := Lib.hid (show Src W0 b A n c K from by rw [hW0]; exact hs.below (B := w.heap.size) (by go_grown) hlt)
  have K0 := Lib.hid (show Kept w.heap.size b w W0 from by rw [hW0]; exact (Kept.refl _ _ _).alloc (Nat.le_refl _) _)
  have z0 : W0.heap.size = w.heap.size + 1 := by rw [hW0]; simp
  clear hs hx hA
  go_enter Try.func78, Try.ntmps78
  go_wp2_with fail
  rw [← hW0]
  clear hW0
  refine (pick_c b A n c X K 8 7 W0 hn (by omega) (by omega) (by omega) HA.out S0.out (HX.out.kept K0.out HA.out (by omega))).mono ?_
  rintro e w1 ⟨q, rfl, q0, q1, s1, hw1⟩
  obtain ⟨m, rfl⟩ : ∃ m : Nat, q = m := ⟨q.toNat, by omega⟩
  have hm : m ≤ 7 := by omega
  have z1 := hw1.size
  have O1 := Lib.hid (owns_wrote1 O0.out hw1 hlt)
  have S1 := Lib.hid s1
  have K1 := Lib.hid (K0.out.wrote hw1 (Nat.le_refl _))
  clear s1 hw1
  go_wp2_with fail
  refine (one_c b A n c X (K + 2) 16 15 w1 hn (by omega) (by omega) (by omega) HA.out S1.out (HX.out.kept K1.out HA.out (by omega))).mono ?_
  rintro e w2 ⟨r, rfl, s2, hw2⟩
  have z2 := hw2.size
  have O2 := Lib.hid (owns_wrote1 O1.out hw2 hlt)
  have S2 := Lib.hid s2
  have K2 := Lib.hid (K1.out.wrote hw2 (Nat.le_refl _))
  clear s2 hw2
  cases r
  · have G2 := Lib.hid (show GrowU w w2 b A n c K 0 (.slice (some ⟨w.heap.size, 0, none⟩) 0 0) (fun _ => 0) from ⟨O2.out, S2.out.mono (by omega), K2.out⟩)
    have hm31 : m ≤ 31 := by omega
    go_wp2_with fail
    go_loopw [5, 3] (fun s v wr => ∃ (k i : Nat) (Y : Nat → Int), s = .int .i64 k ∧ i + k = m ∧ GrowU w wr b A n c K i v Y) (fun s _ _ => (intOf s).toNat)
    case atStart => exact ⟨m, 0, fun _ => 0, rfl, by omega, G2.out⟩
    case round =>
      obtain ⟨k, i, Y, rfl, hik, ho, hs, hk⟩ := hrel
      have zk := hk.size
      have HO := Lib.hid ho
      have HSr := Lib.hid hs
      have HK := Lib.hid hk
      clear ho hs hk
      by_cases hk0 : 0 < k
      · have hk' : (0 : Int) < (k : Int) := by omega
        go_wp2_with fail
        refine (newU_c b A n c X (K + 8 + 6 * i) wr hn (by omega) HA.out HSr.out (HX.out.kept HK.out HA.out (by omega))).mono ?_
        rintro e w3 ⟨L, G, W, rfl, s3, k3⟩
        have z3 := k3.size
        have O3 := Lib.hid (owns_kept HO.out k3 (Nat.le_refl _) hlt)
        have S3 := Lib.hid s3
        have K3 := Lib.hid (HK.out.trans (k3.mono zk))
        have hl1 : i + 1 ≤ maxLen := by unfold maxLen; omega
        have hl2 : (i + 1) * 24 ≤ 140737488355328 := by omega
        clear s3 k3
        go_wp2_with (at_builtin; refine wpList_append_own _ rfl _ _ 25 rfl w.heap.size 57 i0 _ 3 24 Try.underlying25 hi0 hz0 hz1 hz2 rfl (by decide) _ _ _ rfl (O3.out.alloc _) ⟨w3.heap.size, 0, none⟩ 1 1 [.int .i64 L, .int .i64 G, .int .i64 W] rfl rfl ?c1 ?c2 hl1 hl2 ?c5 ?_)
        case c1 => intro j u hj; rcases j with _ | _ | _ | j <;> simp at hj <;> subst hj <;> go_simp
        case c2 => intro u hu; simp at hu; rcases hu with rfl | rfl | rfl <;> rfl
        case c5 => simp; omega
        intro v' w6 hown6 hgrow6 _
        have H6 := Lib.hid (show GrowU w w6 b A n c K (i + 1) v' (add3 Y i L G W) from
          ⟨by rw [iC_add3]; exact hown6, by
            have q := (S3.out.below (B := w3.heap.size) (show Below w3.heap.size w3 (w3.alloc (.cells #[.int .i64 L, .int .i64 G, .int .i64 W] 57)) from by go_grown) (by omega)).of_block (hgrow6.block b (by simp; omega) (fun e => by have := owns_ge O3.out b e.symm; omega)) hgrow6.size
            exact q.mono (by omega), (K3.out.alloc (Nat.le_refl _) _).grown (Nat.le_refl _) hgrow6 (owns_ge O3.out)⟩)
        clear hown6 hgrow6
        go_wp2
        go_roundw
        case rel => exact ⟨k - 1, i + 1, _, by go_num, by omega, H6.out⟩
        case measure => simp [intOf]; omega
      · obtain rfl : k = 0 := by omega
        obtain rfl : i = m := by omega
        obtain ⟨P, d, rfl, hd1, hd2, hrow⟩ := sl_of_owns3 HO.out
        have HR := Lib.hid hrow
        by_cases hi : 0 < i
        · obtain ⟨g, rfl, hgl, hgh, hown⟩ := hrow hi
          have hi' : (0 : Int) < (i : Int) := by omega
          have HW := Lib.hid hown
          clear hrow hown
          go_wp2_with fail
          refine (one_c b A n c X (K + 8 + 6 * i) 10 9 wr hn (by omega) (by omega) (by omega) HA.out HSr.out (HX.out.kept HK.out HA.out (by omega))).mono ?_
          rintro e w4 ⟨r, rfl, s4, hw4⟩
          have z4 := hw4.size
          have S4 := Lib.hid s4
          have K4 := Lib.hid (HK.out.wrote hw4 (Nat.le_refl _))
          have O4 := Lib.hid (own_wrote HW.out hw4 (by omega))
          clear s4 hw4
          cases r
          · go_wp2_with fail
            go_ret
            exact ⟨_, i, d, Y, rfl, by omega, hd1, hd2, fun _ => ⟨g, rfl, hgl, by omega, O4.out⟩, S4.out.mono (by omega), K4.out⟩
          · go_wp2_with fail
            refine (spoilU_c b g w.heap.size (i * 3) Y A n c X (K + 8 + 6 * i + 2) w4 hn (by omega) HA.out S4.out (HX.out.kept K4.out HA.out (by omega)) hgl hlt O4.out (by omega)).mono ?_
            rintro e w5 ⟨Y5, rfl, o5, s5, k5⟩
            have z5 := k5.size
            have O5 := Lib.hid o5
            have S5 := Lib.hid s5
            have K5 := Lib.hid (K4.out.trans k5)
            clear o5 s5 k5
            go_wp2
            go_ret
            exact ⟨_, i, d, Y5, rfl, by omega, hd1, hd2, fun _ => ⟨g, rfl, hgl, by omega, O5.out⟩, S5.out.mono (by omega), K5.out⟩
        · have hi' : ¬ (0 : Int) < (i : Int) := by omega
          clear hrow
          go_wp2
          go_ret
          exact ⟨_, i, d, Y, rfl, by omega, hd1, hd2, HR.out, HSr.out.mono (by omega), HK.out⟩

  · clear hm q0 q1
    go_wp2_with fail
    refine (among_c b A n c X (K + 2 + 2) w2.heap.size 4 4 (fun j => ([10, 11, 30, 31] : List Int).getD j 0) _ hn (by omega) HA.out (S2.out.of_block (Go.Deep.blk_alloc_lt _ _ _ S2.out.lt) (by simp)) ((HX.out.kept K2.out HA.out (by omega)).below (K := w2.heap.size) (by go_grown) (Nat.le_refl _)) (by omega) (by omega) (by omega) (by simp) (intsG_lit [10, 11, 30, 31] _ _)).mono ?_
    rintro e w3 ⟨j, hj, rfl, s3, hw3⟩
    obtain ⟨m2, hm, hm31⟩ : ∃ m : Nat, (fun j => ([10, 11, 30, 31] : List Int).getD j 0) j = m ∧ m ≤ 31 := by
      have h5 : j = 0 ∨ j = 1 ∨ j = 2 ∨ j = 3 := by omega
      rcases h5 with rfl | rfl | rfl | rfl
      · exact ⟨10, rfl, by omega⟩
      · exact ⟨11, rfl, by omega⟩
      · exact ⟨30, rfl, by omega⟩
      · exact ⟨31, rfl, by omega⟩
    rw [hm]
    have z3 := hw3.size
    simp at z3
    have G2 := Lib.hid (show GrowU w w3 b A n c K 0 (.slice (some ⟨w.heap.size, 0, none⟩) 0 0) (fun _ => 0) from ⟨owns_wrote1 (O2.out.alloc _) hw3 hlt, s3.mono (by omega), (K2.out.alloc (Nat.le_refl _) _).wrote hw3 (Nat.le_refl _)⟩)
    clear s3 hw3 hm hj
    go_wp2_with fail
    go_loopw [5, 3] (fun s v wr => ∃ (k i : Nat) (Y : Nat → Int), s = .int .i64 k ∧ i + k = m2 ∧ GrowU w wr b A n c K i v Y) (fun s _ _ => (intOf s).toNat)
    case atStart => exact ⟨m2, 0, fun _ => 0, rfl, by omega, G2.out⟩
    case round =>
      obtain ⟨k, i, Y, rfl, hik, ho, hs, hk⟩ := hrel
      have zk := hk.size
      have HO := Lib.hid ho
      have HSr := Lib.hid hs
      have HK := Lib.hid hk
      clear ho hs hk
      by_cases hk0 : 0 < k
      · have hk' : (0 : Int) < (k : Int) := by omega
        go_wp2_with fail
        refine (newU_c b A n c X (K + 8 + 6 * i) wr hn (by omega) HA.out HSr.out (HX.out.kept HK.out HA.out (by omega))).mono ?_
        rintro e w3 ⟨L, G, W, rfl, s3, k3⟩
        have z3 := k3.size
        have O3 := Lib.hid (owns_kept HO.out k3 (Nat.le_refl _) hlt)
        have S3 := Lib.hid s3
        have K3 := Lib.hid (HK.out.trans (k3.mono zk))
        have hl1 : i + 1 ≤ maxLen := by unfold maxLen; omega
        have hl2 : (i + 1) * 24 ≤ 140737488355328 := by omega
        clear s3 k3
        go_wp2_with (at_builtin; refine wpList_append_own _ rfl _ _ 25 rfl w.heap.size 57 i0 _ 3 24 Try.underlying25 hi0 hz0 hz1 hz2 rfl (by decide) _ _ _ rfl (O3.out.alloc _) ⟨w3.heap.size, 0, none⟩ 1 1 [.int .i64 L, .int .i64 G, .int .i64 W] rfl rfl ?c1 ?c2 hl1 hl2 ?c5 ?_)
        case c1 => intro j u hj; rcases j with _ | _ | _ | j <;> simp at hj <;> subst hj <;> go_simp
        case c2 => intro u hu; simp at hu; rcases hu with rfl | rfl | rfl <;> rfl
        case c5 => simp; omega
        intro v' w6 hown6 hgrow6 _
        have H6 := Lib.hid (show GrowU w w6 b A n c K (i + 1) v' (add3 Y i L G W) from
          ⟨by rw [iC_add3]; exact hown6, by
            have q := (S3.out.below (B := w3.heap.size) (show Below w3.heap.size w3 (w3.alloc (.cells #[.int .i64 L, .int .i64 G, .int .i64 W] 57)) from by go_grown) (by omega)).of_block (hgrow6.block b (by simp; omega) (fun e => by have := owns_ge O3.out b e.symm; omega)) hgrow6.size
            exact q.mono (by omega), (K3.out.alloc (Nat.le_refl _) _).grown (Nat.le_refl _) hgrow6 (owns_ge O3.out)⟩)
        clear hown6 hgrow6
        go_wp2
        go_roundw
        case rel => exact ⟨k - 1, i + 1, _, by go_num, by omega, H6.out⟩
        case measure => simp [intOf]; omega
      · obtain rfl : k = 0 := by omega
        obtain rfl : i = m2 := by omega
        obtain ⟨P, d, rfl, hd1, hd2, hrow⟩ := sl_of_owns3 HO.out
        have HR := Lib.hid hrow
        by_cases hi : 0 < i
        · obtain ⟨g, rfl, hgl, hgh, hown⟩ := hrow hi
          have hi' : (0 : Int) < (i : Int) := by omega
          have HW := Lib.hid hown
          clear hrow hown
          go_wp2_with fail
          refine (one_c b A n c X (K + 8 + 6 * i) 10 9 wr hn (by omega) (by omega) (by omega) HA.out HSr.out (HX.out.kept HK.out HA.out (by omega))).mono ?_
          rintro e w4 ⟨r, rfl, s4, hw4⟩
          have z4 := hw4.size
          have S4 := Lib.hid s4
          have K4 := Lib.hid (HK.out.wrote hw4 (Nat.le_refl _))
          have O4 := Lib.hid (own_wrote HW.out hw4 (by omega))
          clear s4 hw4
          cases r
          · go_wp2_with fail
            go_ret
            exact ⟨_, i, d, Y, rfl, by omega, hd1, hd2, fun _ => ⟨g, rfl, hgl, by omega, O4.out⟩, S4.out.mono (by omega), K4.out⟩
          · go_wp2_with fail
            refine (spoilU_c b g w.heap.size (i * 3) Y A n c X (K + 8 + 6 * i + 2) w4 hn (by omega) HA.out S4.out (HX.out.kept K4.out HA.out (by omega)) hgl hlt O4.out (by omega)).mono ?_
            rintro e w5 ⟨Y5, rfl, o5, s5, k5⟩
            have z5 := k5.size
            have O5 := Lib.hid o5
            have S5 := Lib.hid s5
            have K5 := Lib.hid (K4.out.trans k5)
            clear o5 s5 k5
            go_wp2
            go_ret
            exact ⟨_, i, d, Y5, rfl, by omega, hd1, hd2, fun _ => ⟨g, rfl, hgl, by omega, O5.out⟩, S5.out.mono (by omega), K5.out⟩
        · have hi' : ¬ (0 : Int) < (i : Int) := by omega
          clear hrow
          go_wp2
          go_ret
          exact ⟨_, i, d, Y, rfl, by omega, hd1, hd2, HR.out, HSr.out.mono (by omega), HK.out⟩

end Go.Proofs.Ytcpaenmhnoagdaa.src
