/-
  The model's FewestBunches.
-/
import Derived.Test.YtlepgkmpbhlajaaDoorSortU
import Derived.Test.YtlepgkmpbhlajaaDoorFewI
import Derived.Test.YtlepgkmpbhlajaaDoorPut
namespace Go.Proofs.YtlepgkmpbhlajaaDoor.rod
open Go.ChangeShapes Go.WideShapes Go.ChangeAt Go.RowKit Go.Proofs.YtlepgkmpbhlajaaDoor.mem Go.Proofs.YtlepgkmpbhlajaaDoor.nums Go.Proofs.YtlepgkmpbhlajaaDoor.stab
set_option linter.unusedVariables false

def vN (Q : Nat → Nat) (j : Nat) : Value := .int .i64 ((Q j : Nat) : Int)
theorem cells_put1 (Q : Nat → Nat) {k i : Nat} (hk : k ≤ i) :
    (cellsU (vN Q) k ++ [Value.int .i64 ((i : Nat) : Int)]) ++ cellsU (fun j => vN Q (k + j)) (i - k) = cellsU (vN (put Q k i)) (i + 1) := by
  apply List.ext_getElem?
  intro j
  have l1 : (cellsU (vN Q) k ++ [Value.int .i64 ((i : Nat) : Int)]).length = k + 1 := by rw [List.length_append, cellsU_len]; rfl
  rw [List.getElem?_append, l1, List.getElem?_append, cellsU_len, cellsU_get, cellsU_get, cellsU_get]
  by_cases c1 : j < k
  · rw [if_pos (by omega), if_pos c1, if_pos c1, if_pos (by omega)]
    unfold vN put
    rw [if_pos c1]
  · by_cases c2 : j < k + 1
    · obtain rfl : j = k := by omega
      rw [if_pos c2, if_neg c1, if_pos (by omega), Nat.sub_self]
      unfold vN put
      rw [if_neg c1, if_pos rfl]
      rfl
    · rw [if_neg c2]
      by_cases c3 : j < i + 1
      · rw [if_pos (by omega), if_pos c3]
        unfold vN put
        rw [if_neg c1, if_neg (by omega), show k + (j - (k + 1)) = j - 1 by omega]
      · rw [if_neg (by omega), if_neg c3]
theorem row_ofN {w : World} {B n : Nat} {v : Value} {Q : Nat → Nat} (h : w.ownsRow B 2 1 v n (cellsU (vN Q) n)) (hn : 0 < n) :
    ∃ g c, v = .slice (some ⟨g, 0, none⟩) n c ∧ n ≤ c ∧ c ≤ maxLen ∧ B ≤ g ∧ g < w.heap.size ∧ Own w g 2 (n * 1) (rowN Q) := by
  obtain ⟨hl, h⟩ := h
  rcases h with ⟨rfl, rfl⟩ | ⟨g, cap, cur, rfl, hB, hh, hc, hm, hs, ht⟩
  · omega
  · obtain ⟨hlt, _⟩ := Array.getElem?_eq_some_iff.1 hh
    refine ⟨g, cap, rfl, hc, hm, hB, hlt, cur, hh, by omega, fun i hi => ?_⟩
    have e1 : cur[i]? = cur.toList[i]? := by simp
    have e2 : cur.toList[i]? = (cur.toList.take (n * 1))[i]? := by rw [List.getElem?_take_of_lt hi]
    rw [e1, e2, ht, cellsU_get, if_pos (by omega)]
    rfl

set_option maxHeartbeats 2000000 in
set_option maxRecDepth 100000 in
theorem ownN_c (b o c n : Nat) (V : Nat → Value) (w : World) (hn : n ≤ 1048576) (hb : b < w.heap.size) (h : ∀ j, j < n → w.cell? ⟨b, o + j, none⟩ = some (V j)) (hV : ∀ j, (V j).oneCell' = true := by intro j; rfl) :
    Calls Tryd.prog 57 #[.slice (some ⟨b, o, none⟩) n c] w fun e w' => ∃ v, e = .returned v ∧ w'.ownsRow w.heap.size 2 1 v n (cellsU V n) ∧ Below w.heap.size w w' := by
  have H := Lib.hid h
  have HV := Lib.hid hV
  clear h hV
  obtain ⟨i0, hi0, hz0, hz1, hz2⟩ := info_parts info_num
  go_enter Tryd.func57, Tryd.ntmps57
  go_wp2_with (at_builtin; refine wpList_append_own _ rfl _ _ 32 rfl w.heap.size 2 i0 (.int .i64 0) 1 8 Tryd.underlying32 hi0 hz0 hz1 hz2 rfl (by decide) _ _ _ rfl (owns_noneU w w.heap.size 1 2 (Nat.le_refl _)) ⟨b, o, none⟩ n c (cellsU V (n * 1)) rfl (cellsU_len _ _) ?c1 ?c2 ?c3 ?c4 ?c5 ?_)
  case c1 =>
    intro j u hj
    obtain ⟨h1, rfl⟩ := cellsU_at hj
    rw [addrU_at]
    exact (Below.cell (B := w.heap.size) (p := ⟨b, o + j, none⟩) (by go_grown) hb).trans (H.out j (by omega))
  case c2 => intro u hu; obtain ⟨j, hj⟩ := List.getElem?_of_mem hu; obtain ⟨_, rfl⟩ := cellsU_at hj; exact HV.out _
  case c3 => unfold maxLen; omega
  case c4 => omega
  case c5 => simp
  intro v' w1 hown1 hgrow1 _
  have g1 : Below w.heap.size w w1 := Below.grown (by go_grown) hgrow1 (by simp) (fun g hg => by simp [Value.ownBlock] at hg; omega)
  have HO := Lib.hid (show w1.ownsRow w.heap.size 2 1 v' n (cellsU V n) from owns_eqU hown1 (by omega) (by first | rfl | rw [Nat.mul_one] | simp))
  clear hown1 hgrow1
  go_wp2
  go_ret
  exact ⟨v', rfl, HO.out, g1⟩

theorem few_s_no (A : Option Addr) (n c : Nat) (X : Nat → Int) (h code : Int) (w : World) (hn : n ≤ maxLen) (hr : Sl w A n 3 X) (hv : FewNo n X h code) :
    Calls Tryd.prog 17 #[.slice A n c, .int .i64 h] w (NumsCode w 2 [] code) := by
  have HR := Lib.hid hr
  clear hr
  rcases hv with ⟨hv, rfl⟩ | ⟨hv, h1, rfl⟩
  all_goals
    go_enter Tryd.func17, Tryd.ntmps17
    go_wp2_with (first | (go_at_call 47; refine (okU_s A n c X _ hn HR.out).mono ?_; rintro e w1 ⟨rfl, m1, rfl⟩) | (go_at_call 38; refine (in_s _ _ _ _).mono ?_; rintro e w' ⟨rfl, rfl⟩))
    go_ret2
    exact ⟨none, 0, rfl, Nat.le_refl _, by unfold maxLen; omega, Row.none_, drewN_below (Below.refl _ _) _⟩

set_option maxHeartbeats 8000000 in
set_option maxRecDepth 100000 in
theorem few_s (A : Option Addr) (n c : Nat) (X : Nat → Int) (h : Int) (B : Nat) (code : Int) (w : World) (hr : Sl w A n 3 X) (hv : listU n X = true) (h1 : inB h 0 1000000 = true) (hf : FewIs X n h B code) :
    Calls Tryd.prog 17 #[.slice A n c, .int .i64 h] w (NumsCode w 2 (idxs B.testBit n) code) := by
  obtain ⟨n30, hall⟩ := listU_of hv
  have hn : n ≤ maxLen := by unfold maxLen; omega
  obtain ⟨bh1, bh2⟩ := inB_of h1
  obtain ⟨QQ, t, ht, hcase⟩ := hf
  have HT := Lib.hid ht
  have HCS := Lib.hid hcase
  have HV := Lib.hid hv
  have HAL := Lib.hid hall
  have HR := Lib.hid hr
  clear hr hv hall ht hcase
  obtain ⟨i0, hi0, hz0, hz1, hz2⟩ := info_parts info_num
  go_enter Tryd.func17, Tryd.ntmps17
  go_wp2_with (first | (go_at_call 47; refine (okU_s A n c X _ hn HR.out).mono ?_; rintro e w' ⟨rfl, q1, rfl⟩; rw [HV.out]) | (go_at_call 38; refine (in_s _ _ _ _).mono ?_; rintro e w' ⟨rfl, rfl⟩))
  go_loopw [7, 6] (fun s v wr => ∃ (i g c3 : Nat) (Q : Nat → Nat), i ≤ n ∧ s = .int .i64 i ∧ v = .slice (some ⟨g, 0, none⟩) i c3 ∧ i ≤ c3 ∧ c3 ≤ maxLen ∧ w.heap.size ≤ g ∧ g < wr.heap.size ∧ Hid (RowN wr g i Q) ∧ Hid (Ord (ltN X) i Q) ∧ Below w.heap.size w wr) (fun s _ _ => n - (intOf s).toNat)
  case atStart => exact ⟨0, w.heap.size, 0, fun _ => 0, by omega, rfl, rfl, Nat.le_refl _, by unfold maxLen; omega, Nat.le_refl _, by simp, ⟨⟨_, by first | exact Go.Deep.blk_alloc_new _ _ | (simp; exact Go.Deep.blk_alloc_new _ _), by simp, fun i hi => absurd hi (by omega)⟩, fun x hx => absurd hx (by omega)⟩, Ord.none _ _, by go_grown; exact drewN_below (Below.refl _ _) _⟩
  case round =>
    obtain ⟨i, g, c3, Q, hi, rfl, rfl, k3, m3, hg0, hg1, HRow, HO, hbl⟩ := hrel
    have hzz := hbl.size
    have HBL := Lib.hid hbl
    clear hbl
    by_cases hlt : i < n
    · have hlt' : (i : Int) < (n : Int) := by omega
      obtain ⟨b, o, rfl, hb, hX⟩ := (HR.out.below HBL.out (Nat.le_refl _)) (by omega)
      have HX := Lib.hid hX
      clear hX
      have HC : Hid (∀ j, j < i → wr.cell? ⟨g, j, none⟩ = some (vN Q j)) := fun j hj => HRow.out.cells hj
      have xi2 := HX.out (i * 3 + 2) (by omega)
      simp only [← Nat.add_assoc] at xi2
      rename World => wo
      go_wp2_with fail
      go_loopw [8] (fun s wr => ∃ k : Nat, k ≤ i ∧ s = .int .i64 k ∧ Hid (∀ x, k ≤ x → x < i → ltN X i (Q x) = true) ∧ Drew wo wr) (fun s _ => (intOf s).toNat)
      case atStart => exact ⟨i, Nat.le_refl _, rfl, fun x h1 h2 => absurd h2 (by omega), Drew.refl _⟩
      case round =>
        obtain ⟨k, hk, rfl, HS, hd⟩ := hrel
        have HD := Lib.hid hd
        rcases Nat.eq_zero_or_pos k with h0 | h0
        · have HP := Lib.hid (HO.out.put (ltN_swo X) hk (.inl h0) HS.out)
          subst h0
          have hg0' : decide ((0 : Int) < ((0 : Nat) : Int)) = false := by decide
          go_wp2
          go_quiet (fail)
          obtain ⟨m5, rfl⟩ := HD.out
          go_wp2_with fail
          refine (ownN_c g 0 c3 0 (vN Q) _ ?a1x ?a2x ?a3x).mono ?_
          case a1x => omega
          case a2x => exact hg1
          case a3x => intro j hj; rw [Nat.zero_add]; exact HC.out j (by omega)
          rintro e w3 ⟨v1, rfl, hown1, hb1⟩
          replace hown1 : w3.ownsRow wo.heap.size 2 1 v1 0 (cellsU (vN Q) 0) := hown1
          have hb2 : Below wo.heap.size _ w3 := hb1
          have g3 : Below wo.heap.size wo w3 := Below.trans (drewN_below (Below.refl _ _) _) hb2
          have z3 := g3.size
          have HO1 := Lib.hid hown1
          have HG3 := Lib.hid g3
          clear hb1 hb2 hown1 g3
          go_wp2_with (at_builtin; refine wpList_append_own _ rfl _ _ 32 rfl wo.heap.size 2 i0 (.int .i64 0) 1 8 Tryd.underlying32 hi0 hz0 hz1 hz2 rfl (by decide) _ _ _ rfl (HO1.out.alloc _) ⟨w3.heap.size, 0, none⟩ 1 1 ([.int .i64 (i : Int)]) rfl rfl ?b1x ?b2x ?b3x ?b4x ?b5x ?_)
          case b1x => intro j u hj; rcases j with _ | j <;> simp at hj; subst hj; go_simp
          case b2x => intro u hu; simp at hu; subst hu; rfl
          case b3x => unfold maxLen; omega
          case b4x => omega
          case b5x => simp; omega
          intro v2 w4 hown2 hgrow2 _
          have g4 : Below wo.heap.size wo w4 := Below.grown (HG3.out.alloc z3 _) hgrow2 (by simp; omega) (owns_blockU HO1.out)
          have z4 := g4.size
          have HO2 := Lib.hid hown2
          have HG4 := Lib.hid g4
          clear hgrow2 hown2 g4
          go_wp2_with (at_builtin; refine wpList_append_own _ rfl _ _ 32 rfl wo.heap.size 2 i0 (.int .i64 0) 1 8 Tryd.underlying32 hi0 hz0 hz1 hz2 rfl (by decide) _ _ _ rfl HO2.out ⟨g, 0, none⟩ i c3 (cellsU (fun j => vN Q (0 + j)) ((i - 0) * 1)) rfl (cellsU_len _ _) ?d1x ?d2x ?d3x ?d4x ?d5x ?_)
          case d1x =>
            intro j u hj
            obtain ⟨h1, rfl⟩ := cellsU_at hj
            rw [addrU_at]
            exact (HG4.out.cell (p := ⟨g, 0 + j, none⟩) hg1).trans (HC.out (0 + j) (by omega))
          case d2x => intro u hu; obtain ⟨j, hj⟩ := List.getElem?_of_mem hu; obtain ⟨_, rfl⟩ := cellsU_at hj; rfl
          case d3x => unfold maxLen; omega
          case d4x => omega
          case d5x => omega
          intro v3 w5 hown3 hgrow3 _
          have g5 : Below wo.heap.size wo w5 := Below.grown HG4.out hgrow3 (by omega) (owns_blockU HO2.out)
          have z5 := g5.size
          have hown4 : w5.ownsRow wo.heap.size 2 1 v3 (i + 1) (cellsU (vN (put Q 0 i)) (i + 1)) := owns_eqU hown3 (by omega) (by
            have h := cells_put1 Q (show 0 ≤ i by omega)
            rw [← Nat.mul_one (i - 0)] at h
            first | exact h | simpa using h)
          obtain ⟨g', c', rfl, k5, mm5, p1, p2, ho⟩ := row_ofN hown4 (by omega)
          have HRW : Hid (RowN w5 g' (i + 1) (put Q 0 i)) := ⟨ho, HP.out.bnd⟩
          have HB5 := Lib.hid (HBL.out.trans (g5.mono hzz))
          clear hgrow3 hown3 hown4 ho g5
          go_wp2
          go_roundw
          case rel => exact ⟨i + 1, g', c', put Q 0 i, by omega, by go_num, rfl, k5, mm5, by omega, by omega, HRW.out, HP.out, HB5.out⟩
          case measure => simp [intOf]; omega
        · obtain ⟨k', rfl⟩ : ∃ k', k = k' + 1 := ⟨k - 1, by omega⟩
          have hgk : decide ((0 : Int) < (k' : Int) + 1) = true := decide_eq_true (by omega)
          have hgk2 : (0 : Int) < (k' : Int) + 1 := by omega
          have w2 : IntKind.i64.wrap (k' : Int) = (k' : Int) := IntWalk.i64_in _ (by omega)
          have w1 : IntKind.i64.wrap ((k' : Int) + 1 - 1) = (k' : Int) := by rw [show (k' : Int) + 1 - 1 = k' by omega]; exact w2
          have bk1 : (0 : Int) ≤ (k' : Int) := by omega
          have bk2 : (k' : Int) < (i : Int) := by omega
          have bi0 : (0 : Int) ≤ (i : Int) := by omega
          have cg0 : wr.cell? ⟨g, k', none⟩ = some (.int .i64 ((Q k' : Nat) : Int)) := HD.out.cell (HC.out k' (by omega))
          have di2 := HD.out.cell xi2
          have hQb := HRow.out.bnd (show k' < i by omega)
          have xq2 := HD.out.cell (HX.out (Q k' * 3 + 2) (by omega))
          simp only [← Nat.add_assoc] at xq2
          have bq1 : (0 : Int) ≤ (Q k' : Int) := by omega
          have bq2 : (Q k' : Int) < (n : Int) := by omega
          rw [show ((k' + 1 : Nat) : Int) = (k' : Int) + 1 from rfl]
          cases hl : ltN X i (Q k')
          · have HP := Lib.hid (HO.out.put (ltN_swo X) hk (.inr hl) HS.out)
            have hl2 : decide (X (Q k' * 3 + 2) < X (i * 3 + 2)) = false := hl
            generalize X (Q k' * 3 + 2) = yq at *
            generalize X (i * 3 + 2) = yi at *
            clear hl
            go_wp2
            go_quiet (fail)
            obtain ⟨m5, rfl⟩ := HD.out
            go_wp2_with fail
            refine (ownN_c g 0 c3 (k' + 1) (vN Q) _ ?a1y ?a2y ?a3y).mono ?_
            case a1y => omega
            case a2y => exact hg1
            case a3y => intro j hj; rw [Nat.zero_add]; exact HC.out j (by omega)
            rintro e w3 ⟨v1, rfl, hown1, hb1⟩
            replace hown1 : w3.ownsRow wo.heap.size 2 1 v1 (k' + 1) (cellsU (vN Q) (k' + 1)) := hown1
            have hb2 : Below wo.heap.size _ w3 := hb1
            have g3 : Below wo.heap.size wo w3 := Below.trans (drewN_below (Below.refl _ _) _) hb2
            have z3 := g3.size
            have HO1 := Lib.hid hown1
            have HG3 := Lib.hid g3
            clear hb1 hb2 hown1 g3
            go_wp2_with (at_builtin; refine wpList_append_own _ rfl _ _ 32 rfl wo.heap.size 2 i0 (.int .i64 0) 1 8 Tryd.underlying32 hi0 hz0 hz1 hz2 rfl (by decide) _ _ _ rfl (HO1.out.alloc _) ⟨w3.heap.size, 0, none⟩ 1 1 ([.int .i64 (i : Int)]) rfl rfl ?b1y ?b2y ?b3y ?b4y ?b5y ?_)
            case b1y => intro j u hj; rcases j with _ | j <;> simp at hj; subst hj; go_simp
            case b2y => intro u hu; simp at hu; subst hu; rfl
            case b3y => unfold maxLen; omega
            case b4y => omega
            case b5y => simp; omega
            intro v2 w4 hown2 hgrow2 _
            have g4 : Below wo.heap.size wo w4 := Below.grown (HG3.out.alloc z3 _) hgrow2 (by simp; omega) (owns_blockU HO1.out)
            have z4 := g4.size
            have HO2 := Lib.hid hown2
            have HG4 := Lib.hid g4
            clear hgrow2 hown2 g4
            by_cases hck : c3 = (k' + 1)
            · have hik : i - (k' + 1) = 0 := by omega
              go_wp2_with (at_builtin; refine wpList_append_own _ rfl _ _ 32 rfl wo.heap.size 2 i0 (.int .i64 0) 1 8 Tryd.underlying32 hi0 hz0 hz1 hz2 rfl (by decide) _ _ _ rfl HO2.out ⟨g, 0, none⟩ 0 _ ([]) rfl rfl ?c1y ?c2y ?c3y ?c4y ?c5y ?_)
              case c1y => intro j u hj; simp at hj
              case c2y => intro u hu; simp at hu
              case c3y => unfold maxLen; omega
              case c4y => omega
              case c5y => omega
              intro v3 w5 hown3 hgrow3 _
              have g5 : Below wo.heap.size wo w5 := Below.grown HG4.out hgrow3 (by omega) (owns_blockU HO2.out)
              have z5 := g5.size
              have hown4 : w5.ownsRow wo.heap.size 2 1 v3 (i + 1) (cellsU (vN (put Q (k' + 1) i)) (i + 1)) := owns_eqU hown3 (by omega) (by
                have h := cells_put1 Q (show (k' + 1) ≤ i by omega)
                rw [show i - (k' + 1) = 0 by omega, show cellsU (fun j => vN Q ((k' + 1) + j)) 0 = [] from rfl, List.append_nil] at h
                first | exact h | simpa using h)
              obtain ⟨g', c', rfl, k5, mm5, p1, p2, ho⟩ := row_ofN hown4 (by omega)
              have HRW : Hid (RowN w5 g' (i + 1) (put Q (k' + 1) i)) := ⟨ho, HP.out.bnd⟩
              have HB5 := Lib.hid (HBL.out.trans (g5.mono hzz))
              clear hgrow3 hown3 hown4 ho g5
              go_wp2
              go_roundw
              case rel => exact ⟨i + 1, g', c', put Q (k' + 1) i, by omega, by go_num, rfl, k5, mm5, by omega, by omega, HRW.out, HP.out, HB5.out⟩
              case measure => simp [intOf]; omega
            · have hck2 : (k' + 1) < c3 := by omega
              go_wp2_with (at_builtin; refine wpList_append_own _ rfl _ _ 32 rfl wo.heap.size 2 i0 (.int .i64 0) 1 8 Tryd.underlying32 hi0 hz0 hz1 hz2 rfl (by decide) _ _ _ rfl HO2.out ⟨g, (k' + 1), none⟩ (i - (k' + 1)) (c3 - (k' + 1)) (cellsU (fun j => vN Q ((k' + 1) + j)) ((i - (k' + 1)) * 1)) rfl (cellsU_len _ _) ?d1y ?d2y ?d3y ?d4y ?d5y ?_)
              case d1y =>
                intro j u hj
                obtain ⟨h1, rfl⟩ := cellsU_at hj
                rw [addrU_at]
                exact (HG4.out.cell (p := ⟨g, (k' + 1) + j, none⟩) hg1).trans (HC.out ((k' + 1) + j) (by omega))
              case d2y => intro u hu; obtain ⟨j, hj⟩ := List.getElem?_of_mem hu; obtain ⟨_, rfl⟩ := cellsU_at hj; rfl
              case d3y => unfold maxLen; omega
              case d4y => omega
              case d5y => omega
              intro v3 w5 hown3 hgrow3 _
              have g5 : Below wo.heap.size wo w5 := Below.grown HG4.out hgrow3 (by omega) (owns_blockU HO2.out)
              have z5 := g5.size
              have hown4 : w5.ownsRow wo.heap.size 2 1 v3 (i + 1) (cellsU (vN (put Q (k' + 1) i)) (i + 1)) := owns_eqU hown3 (by omega) (by
                have h := cells_put1 Q (show (k' + 1) ≤ i by omega)
                rw [← Nat.mul_one (i - (k' + 1))] at h
                first | exact h | simpa using h)
              obtain ⟨g', c', rfl, k5, mm5, p1, p2, ho⟩ := row_ofN hown4 (by omega)
              have HRW : Hid (RowN w5 g' (i + 1) (put Q (k' + 1) i)) := ⟨ho, HP.out.bnd⟩
              have HB5 := Lib.hid (HBL.out.trans (g5.mono hzz))
              clear hgrow3 hown3 hown4 ho g5
              go_wp2
              go_roundw
              case rel => exact ⟨i + 1, g', c', put Q (k' + 1) i, by omega, by go_num, rfl, k5, mm5, by omega, by omega, HRW.out, HP.out, HB5.out⟩
              case measure => simp [intOf]; omega
          · have HL := Lib.hid hl
            have hl2 : decide (X (Q k' * 3 + 2) < X (i * 3 + 2)) = true := hl
            generalize X (Q k' * 3 + 2) = yq at *
            generalize X (i * 3 + 2) = yi at *
            clear hl
            go_wp2
            go_quiet (fail)
            go_wp2
            go_roundw
            case rel => exact ⟨k', by omega, rfl, fun x h1 h2 => by
              by_cases e : x = k'
              · rw [e]; exact HL.out
              · exact HS.out x (by omega) h2, HD.out.drewN _⟩
            case measure => first | (simp [intOf]; done) | (simp [intOf]; omega)
    · obtain rfl : i = n := by omega
      have HRN := Lib.hid (HRow.out.congr (HO.out.uniq (ltN_swo X) HT.out.ord))
      have htn := HT.out.le
      go_wp2_with fail
      rename World => wo
      go_loopw [12, 11, 10] (fun s u v wr => ∃ (k : Nat) (A2 : Option Addr) (c2 : Nat), k ≤ t ∧ s = .int .i64 k ∧ u = .int .i64 (sq X QQ k) ∧ v = .slice A2 (idxs (bq QQ k).testBit i).length c2 ∧ (idxs (bq QQ k).testBit i).length ≤ c2 ∧ c2 ≤ maxLen ∧ Hid (Row wr w.heap.size wr.heap.size A2 (idxs (bq QQ k).testBit i).length 1 2 (fun j => (idxs (bq QQ k).testBit i).getD j 0)) ∧ Below wo.heap.size wo wr) (fun s _ _ _ => i - (intOf s).toNat)
      case atStart =>
        have hz : ∀ m, idxs (bq QQ 0).testBit m = [] := fun m => by
          induction m with
          | zero => rfl
          | succ m ih => rw [idxs_no (by simp [bq]), ih]
        exact ⟨0, some ⟨wo.heap.size, 0, none⟩, 0, Nat.zero_le _, rfl, rfl, by rw [hz i]; rfl, by rw [hz i]; exact Nat.le_refl _, by unfold maxLen; omega, by rw [hz i]; exact Row.none_, by go_grown⟩
      case round =>
        obtain ⟨k, A2, c2, hk, rfl, rfl, rfl, kk2, mm2, HOUT, hb2⟩ := hrel
        have HB2 := Lib.hid hb2
        have zz2 := hb2.size
        clear hb2
        have hsb := sq_bd HAL.out (t := k) (fun i hi => HT.out.ord.bnd i (by omega))
        have HOUT2 := HOUT.out
        by_cases hkt : k < t
        · have hlt' : (k : Int) < (i : Int) := by omega
          have dlt' : decide ((k : Int) < (i : Int)) = true := decide_eq_true hlt'
          have hfew := HT.out.few k hkt
          have dfew : decide (sq X QQ k < h) = true := decide_eq_true hfew
          have hq := HT.out.ord.bnd k (by omega)
          have hnew := bq_new (ltN_swo X) HT.out.ord (show k < i by omega)
          obtain ⟨s, e1, e2, e3⟩ := idxs_more1 hnew i hq
          have hlo := idxs_below (f := (bq QQ k).testBit) (QQ k)
          have E2 := Lib.hid (show idxs (bq QQ (k + 1)).testBit i = idxs (bq QQ k).testBit (QQ k) ++ ((QQ k : Int) :: s) from (idxs_or (B := bq QQ k)).trans e2)
          have hl1 := idxs_len (bq QQ k).testBit i
          rw [e1] at hl1 HOUT2 kk2 ⊢
          have hsl : Sl wr A2 (idxs (bq QQ k).testBit (QQ k) ++ s).length 1 (fun j => (idxs (bq QQ k).testBit (QQ k) ++ s).getD j 0) := HOUT2.sl
          have HSL := Lib.hid hsl
          have HE3 := Lib.hid e3
          have HLO := Lib.hid hlo
          have hm : (idxs (bq QQ k).testBit (QQ k) ++ s).length = (idxs (bq QQ k).testBit (QQ k)).length + s.length := List.length_append
          have ck := HB2.out.cell (p := ⟨g, k, none⟩) hg1 |>.trans (HRN.out.cells (p := k) (by omega))
          obtain ⟨b, o, rfl, hb, hX⟩ := HR.out (by omega)
          have hbo : b < wo.heap.size := by omega
          have cw := (hX.below HBL.out hb) (QQ k * 3 + 2) (by omega)
          simp only [← Nat.add_assoc] at cw
          have hwb := allU_bd HAL.out hq
          have hq0 : (0 : Int) ≤ (QQ k : Int) := by omega
          have hqn : (QQ k : Int) < (i : Int) := by omega
          have HS1 := Lib.hid (show sq X QQ (k + 1) = sq X QQ k + X (QQ k * 3 + 2) from rfl)
          have hws : IntKind.i64.wrap (sq X QQ k + X (QQ k * 3 + 2)) = sq X QQ k + X (QQ k * 3 + 2) := IntWalk.i64_in _ (by omega)
          have hck : ∀ W, Below wo.heap.size wo W → W.cell? ⟨g, k, none⟩ = some (.int .i64 ((QQ k : Nat) : Int)) ∧ W.cell? ⟨b, o + QQ k * 3 + 2, none⟩ = some (.int .i64 (X (QQ k * 3 + 2))) := fun W hW => ⟨(hW.cell (p := ⟨g, k, none⟩) hg1).trans (HRN.out.cells (p := k) (by omega)), (hW.cell (p := ⟨b, o + QQ k * 3 + 2, none⟩) hbo).trans cw⟩
          have HCK := Lib.hid hck
          clear hX e1 e2 e3 hlo hsl hck cw
          generalize idxs (bq QQ k).testBit (QQ k) = pl at *
          generalize X (QQ k * 3 + 2) = xw at *
          generalize QQ k = qk at *
          obtain ⟨m, hmm⟩ : ∃ m, (pl ++ s).length = m := ⟨_, rfl⟩
          rw [hmm] at hm hl1 kk2 HSL ⊢
          have HM := Lib.hid hm
          clear hm hmm HOUT2 HOUT
          generalize sq X QQ k = S0 at *
          go_wp2_with fail
          refine (put_s2 A2 c2 pl s (qk : Int) m _ HM.out (by omega) HLO.out HE3.out HSL.out).mono ?_
          rintro e w3 ⟨A3, c3', rfl, k3', m3', hr3, hb3⟩
          have hb4 : Below wo.heap.size wo w3 := HB2.out.trans (hb3.mono (by omega))
          have z3 := hb3.size
          obtain ⟨ck3, cw3⟩ := HCK.out w3 hb4
          have HR3 := Lib.hid (hr3.wide (lo' := w.heap.size) (hi' := w3.heap.size) (by omega) (Nat.le_refl _))
          have HB4 := Lib.hid hb4
          clear hr3 hb3 hb4 ck
          go_wp2_with fail
          go_roundw
          case rel => exact ⟨k + 1, A3, c3', by omega, by go_num, by rw [HS1.out], by rw [E2.out]; first | rfl | simp, by rw [E2.out]; exact k3', m3', by rw [E2.out]; exact HR3.out, HB4.out⟩
          case measure => simp [intOf]; omega
        · obtain rfl : k = t := by omega
          have hstop := HT.out.stop
          have HCS2 := HCS.out
          have HBF := Lib.hid (HBL.out.trans (HB2.out.mono hzz))
          have HOUT3 := Lib.hid HOUT2
          generalize bq QQ k = B0 at *
          generalize sq X QQ k = S0 at *
          by_cases hge : h ≤ S0
          · obtain rfl : code = 0 := by rcases HCS2 with ⟨_, _, e⟩ | ⟨e, _, _⟩; exact e; omega
            obtain rfl : B = B0 := by rcases HCS2 with ⟨_, e, _⟩ | ⟨e, _, _⟩; exact e; omega
            have hnl : ¬ S0 < h := by omega
            have dnl : decide (S0 < h) = false := decide_eq_false hnl
            clear HCS2 hstop HOUT2
            by_cases hkn : k < i
            · have hlt' : (k : Int) < (i : Int) := by omega
              have dlt' : decide ((k : Int) < (i : Int)) = true := decide_eq_true hlt'
              go_wp2_with fail
              go_ret2
              exact ⟨A2, c2, rfl, kk2, mm2, HOUT3.out, HBF.out⟩
            · have hlt' : ¬ (k : Int) < (i : Int) := by omega
              have dlt' : decide ((k : Int) < (i : Int)) = false := decide_eq_false hlt'
              go_wp2_with fail
              go_ret2
              exact ⟨A2, c2, rfl, kk2, mm2, HOUT3.out, HBF.out⟩
          · obtain rfl : k = i := by omega
            obtain rfl : code = 3 := by rcases HCS2 with ⟨e, _, _⟩ | ⟨_, _, e⟩; omega; exact e
            obtain rfl : B = 0 := by rcases HCS2 with ⟨e, _, _⟩ | ⟨_, e, _⟩; omega; exact e
            have hnl : S0 < h := by omega
            have dnl : decide (S0 < h) = true := decide_eq_true hnl
            have hlt' : ¬ (k : Int) < (k : Int) := by omega
            have HZ := Lib.hid (show idxs (0 : Nat).testBit k = [] from by
              have key : ∀ m, idxs (0 : Nat).testBit m = [] := fun m => by
                induction m with
                | zero => rfl
                | succ m ih => rw [idxs_no (by simp), ih]
              exact key k)
            clear HCS2 hstop HOUT2
            go_wp2_with fail
            go_ret2
            rw [HZ.out]
            exact ⟨none, 0, rfl, Nat.le_refl _, by unfold maxLen; omega, Row.none_, HBF.out⟩

end Go.Proofs.YtlepgkmpbhlajaaDoor.rod
