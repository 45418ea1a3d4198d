/-
  The walk of the law on loose stakes.
-/
import Derived.Test.YtbmdggcfoohmgaaDoorFm
import Derived.Test.YtbmdggcfoohmgaaDoorDs
import Derived.Test.YtbmdggcfoohmgaaDoorSrcAtB
import Derived.Test.YtbmdggcfoohmgaaDoorA2B
namespace Go.Proofs.YtbmdggcfoohmgaaDoor.src
open Go.ChangeShapes Go.WideShapes Go.ChangeAt Go.RowKit Go.Proofs.YtbmdggcfoohmgaaDoor.mem Go.Proofs.YtbmdggcfoohmgaaDoor.rod Go.Proofs.YtbmdggcfoohmgaaDoor.wk Go.Proofs.YtbmdggcfoohmgaaDoor.wv Go.Proofs.YtbmdggcfoohmgaaDoor.nums
set_option linter.unusedVariables false

/-- what the second look tells -/
def stackV (s : ByteArray) (n : Nat) : Prop := (looseL s n = [] ∧ ∃ v : Nat, 1 ≤ v ∧ v ≤ s.size ∧ stackA s n = ((v : Int), 0)) ∨ (looseL s n ≠ [] ∧ stackA s n = (0, 10))
theorem stack_v {s : ByteArray} {n : Nat} (hst : strokeB s = true) (hn : 0 < n) : stackV s n := by
  obtain ⟨h0, hs, _⟩ := stroke_of hst
  by_cases h : looseL s n = []
  · refine .inl ⟨h, stackTo (byteAt s) s.size n n, stackTo_1 h0 hn ((looseL_nil s n).1 h), stackTo_le _ _ h0 _, ?_⟩
    unfold stackA
    rw [if_pos h]
  · exact .inr ⟨h, by unfold stackA; rw [if_neg h]⟩

theorem bdrew {K : Nat} {w w' : World} (h : Below K w w') (m : Nat) : Below K w (w'.drewN m) := ⟨h.os, h.tape, h.output, h.size, h.block⟩

set_option maxHeartbeats 8000000 in
set_option maxRecDepth 100000 in
theorem loose_walk (A : Option Addr) (n c : Nat) (X : Nat → Int) (A2 : Option Addr) (m c2 : Nat) (X2 : Nat → Int) (w : World) (hn : n ≤ 3000) (hm : m ≤ 3000) (hX : Sb w A n X) (hX2 : Sb w A2 m X2) :
    Calls Tryd.prog 3 #[.slice A n c, .slice A2 m c2] w fun e w' => e = .returned (.bool true) ∧ Below w.heap.size w w' := by
  have HX := Lib.hid hX
  have HX2 := Lib.hid hX2
  clear hX hX2
  go_enter Tryd.func3, Tryd.ntmps3
  go_wp2_with fail
  refine (long_b A A2 n m c c2 _ hn hm).mono ?_
  rintro e w1 ⟨rfl, b1⟩
  go_wp2_with fail
  refine (stroke_c A n c X _ (by omega) (HX.out.below b1 (Nat.le_refl _))).mono ?_
  rintro e w2 ⟨s, rfl, HS, hb2⟩
  have b2 := b1.trans (hb2.mono b1.size)
  clear hb2 b1
  go_wp2_with fail
  refine (at_b A2 m c2 X2 0 16 15 _ hm (by omega) (by omega) (by omega) (HX2.out.below b2 (Nat.le_refl _))).mono ?_
  rintro e w3 ⟨u, rfl, u0, u1, hb3⟩
  have b3 := b2.trans (hb3.mono b2.size)
  obtain ⟨k, rfl⟩ : ∃ k : Nat, u = (k : Int) := ⟨u.toNat, by omega⟩
  clear hb3 b2
  go_wp2_with fail
  refine (at_b A2 m c2 X2 1 4 3 _ hm (by omega) (by omega) (by omega) (HX2.out.below b3 (Nat.le_refl _))).mono ?_
  rintro e w4 ⟨g, rfl, g0, g1, hb4⟩
  have b4 := b3.trans (hb4.mono b3.size)
  obtain ⟨fl, rfl⟩ : ∃ k : Nat, g = (k : Int) := ⟨g.toNat, by omega⟩
  have HB4 := Lib.hid b4
  obtain ⟨N, hN⟩ : ∃ N, N = 3 + k := ⟨_, rfl⟩
  obtain ⟨M, hM⟩ : ∃ M, M = 1 + fl := ⟨_, rfl⟩
  have eN : (3 : Int) + (k : Int) = (N : Int) := by omega
  have eM : (1 : Int) + (fl : Int) = (M : Int) := by omega
  have N3 : 3 ≤ N := by omega
  have N18 : N ≤ 18 := by omega
  have M1 : 1 ≤ M := by omega
  have M4 : M ≤ 4 := by omega
  obtain ⟨h0, h12, _⟩ := stroke_of HS.out
  clear hb4 b3 b4 hN hM
  go_wp2_with fail
  refine (looseStakes_i s N _ HS.out N3 (by omega)).mono ?_
  rintro e w5 ⟨L, cL, rfl, l1, l2, hL, hb5⟩
  have SL5 := Lib.hid hL.sl
  have B5 := Lib.hid (HB4.out.trans (hb5.mono HB4.out.size))
  clear hL hb5 HB4
  go_wp2_with fail
  refine (stack_A_i s N _ HS.out N3 (by omega)).mono ?_
  rintro e w6 ⟨rfl, hb6⟩
  have SL6 := Lib.hid (SL5.out.below hb6 (Nat.le_refl _))
  have B6 := Lib.hid (B5.out.trans (hb6.mono B5.out.size))
  clear hb6 SL5 B5
  go_wp2_with fail
  refine (Go.Proofs.YtbmdggcfoohmgaaDoor.sn.soundStakes_i s M N _ HS.out N3 (by omega) M1 (by omega)).mono ?_
  rintro e w7 ⟨D, cD, rfl, d1, d2, hD, hb7⟩
  obtain ⟨XL, hX1⟩ : ∃ X, X = fun j => (looseL s N).getD j 0 := ⟨_, rfl⟩
  obtain ⟨XD, hX2⟩ : ∃ X, X = fun j => (Go.Proofs.YtbmdggcfoohmgaaDoor.sn.sndL s M N).getD j 0 := ⟨_, rfl⟩
  have SL := Lib.hid (show Sl w7 L (looseL s N).length 1 XL by rw [hX1]; exact SL6.out.below hb7 (Nat.le_refl _))
  have SD := Lib.hid (show Sl w7 D (Go.Proofs.YtbmdggcfoohmgaaDoor.sn.sndL s M N).length 1 XD by rw [hX2]; exact hD.sl)
  have B7 := Lib.hid (B6.out.trans (hb7.mono B6.out.size))
  clear hD hb7 SL6 B6
  have hlen := looseL_len s N
  have hdlen := Go.Proofs.YtbmdggcfoohmgaaDoor.sn.sndL_len s M N
  have HLI := Lib.hid (fun i hi => idxs_in (p := looseB (byteAt s) s.size N) N i hi)
  have HLU := Lib.hid (fun i hi => idxs_up (p := looseB (byteAt s) s.size N) N i hi)
  have HLH := Lib.hid (fun k (hk : k < N) => idxs_has (p := looseB (byteAt s) s.size N) hk)
  have HDI := Lib.hid (fun i hi => idxs_in (p := Go.Proofs.YtbmdggcfoohmgaaDoor.sn.sndQ (byteAt s) s.size M) (N + 1) i hi)
  have HDU := Lib.hid (fun i hi => idxs_up (p := Go.Proofs.YtbmdggcfoohmgaaDoor.sn.sndQ (byteAt s) s.size M) (N + 1) i hi)
  have HDH := Lib.hid (fun k (hk : k < N + 1) => idxs_has (p := Go.Proofs.YtbmdggcfoohmgaaDoor.sn.sndQ (byteAt s) s.size M) hk)
  rw [show idxs (looseB (byteAt s) s.size N) N = looseL s N from rfl] at HLI HLU HLH
  rw [show idxs (Go.Proofs.YtbmdggcfoohmgaaDoor.sn.sndQ (byteAt s) s.size M) (N + 1) = Go.Proofs.YtbmdggcfoohmgaaDoor.sn.sndL s M N from rfl] at HDI HDU HDH
  have hsv := stack_v (n := N) HS.out (by omega)
  unfold stackV at hsv
  have hl0 : looseL s N = [] ↔ (looseL s N).length = 0 := List.length_eq_zero_iff.symm
  simp only [ne_eq, hl0] at hsv
  clear hl0
  generalize (looseL s N).length = l at *
  generalize (Go.Proofs.YtbmdggcfoohmgaaDoor.sn.sndL s M N).length = d at *
  have RB := Lib.hid (show (∀ i, i < l → 0 ≤ XL i ∧ XL i < (N : Int)) from fun i hi => by
    obtain ⟨q, q1, q2, _⟩ := HLI.out i hi
    rw [hX1]
    exact ⟨by show 0 ≤ (looseL s N).getD i 0; rw [q1]; omega, by show (looseL s N).getD i 0 < _; rw [q1]; omega⟩)
  have RU := Lib.hid (show (∀ i, i + 1 < l → XL i < XL (i + 1)) from fun i hi => by rw [hX1]; exact HLU.out i hi)
  have HLX := Lib.hid (fun j (hj : j < N) => (show looseB (byteAt s) s.size N j = true ↔ ∃ i, i < l ∧ XL i = (j : Int) by rw [hX1]; exact HLH.out j hj))
  clear HLI HLU HLH hX1
  have DB := Lib.hid (show (∀ i, i < d → 3 ≤ XD i ∧ XD i ≤ (N : Int)) from fun i hi => by
    obtain ⟨q, q1, q2, q3⟩ := HDI.out i hi
    have q4 : 3 ≤ q := by
      unfold Go.Proofs.YtbmdggcfoohmgaaDoor.sn.sndQ at q3
      simp only [Bool.and_eq_true, decide_eq_true_eq] at q3
      exact q3.1
    rw [hX2]
    exact ⟨by show 3 ≤ (Go.Proofs.YtbmdggcfoohmgaaDoor.sn.sndL s M N).getD i 0; rw [q1]; omega, by show (Go.Proofs.YtbmdggcfoohmgaaDoor.sn.sndL s M N).getD i 0 ≤ _; rw [q1]; omega⟩)
  have DU := Lib.hid (show (∀ i, i + 1 < d → XD i < XD (i + 1)) from fun i hi => by rw [hX2]; exact HDU.out i hi)
  have DX := Lib.hid (fun z (hz : 3 ≤ z) (hz2 : z ≤ N) => (show soundB (byteAt s) s.size z M = true ↔ ∃ i, i < d ∧ XD i = (z : Int) by rw [hX2, ← Go.Proofs.YtbmdggcfoohmgaaDoor.sn.sndQ_at hz]; exact HDH.out z (by omega)))
  clear HDI HDU HDH hX2
  rcases hsv with ⟨rfl, v, v1, v2, hv⟩ | ⟨hl, hv⟩
  all_goals (rw [hv]; dsimp only)
  case' inl =>
    have v1' : decide ((v : Int) < 1) = false := decide_eq_false (by omega)
    have v2' : decide (s.size < v) = false := decide_eq_false (by omega)
    have v3' : decide ((s.size : Int) < (v : Int)) = false := decide_eq_false (by omega)
    go_wp2_with (go_at_call 20; refine (a2Rises_c L 0 cL XL N _ (by omega) SL.out RB.out RU.out).mono ?_; rintro e w' ⟨rfl, md, rfl⟩)
    clear v1' v2' v3' v1 v2
  case' inr =>
    have e1 : ((l : Int) == 0) = false := beq_false_of_ne (by omega)
    have e2 : ¬ (l : Int) = 0 := by omega
    go_wp2_with (go_at_call 20; refine (a2Rises_c L l cL XL N _ (by omega) SL.out RB.out RU.out).mono ?_; rintro e w' ⟨rfl, md, rfl⟩)
  all_goals
    go_loopw [14] (fun i wr => ∃ j : Nat, j ≤ N ∧ i = .int .i64 (j : Int) ∧ Drew w7 wr) (fun i _ => N - (intOf i).toNat)
    case atStart => exact ⟨0, by omega, rfl, (Drew.refl _).drewN _⟩
    case round =>
      obtain ⟨j, hj, rfl, hd⟩ := hrel
      have HD := Lib.hid hd
      clear hd
      by_cases hlt : j < N
      · have hlt' : (j : Int) < (N : Int) := by omega
        go_wp2_with fail
        go_loopw [16, 15] (fun r b wr => ∃ q : Nat, 1 ≤ q ∧ q ≤ s.size ∧ r = .int .i64 (q : Int) ∧ b = .bool (sameTo (byteAt s) s.size N j q) ∧ Drew w7 wr) (fun r _ _ => s.size - (intOf r).toNat)
        case atStart => exact ⟨1, Nat.le_refl _, by omega, rfl, by rw [sameTo_1], HD.out⟩
        case round =>
          obtain ⟨q, hq1, hq, rfl, rfl, hd⟩ := hrel
          have HD2 := Lib.hid hd
          clear hd
          by_cases hq2 : q < s.size
          · have hq2' : (q : Int) < (s.size : Int) := by omega
            have HN := Lib.hid (show sameTo (byteAt s) s.size N j (q + 1) = (sameTo (byteAt s) s.size N j q && decide (side (byteAt s) s.size N q j = side (byteAt s) s.size N 0 j)) from rfl)
            generalize sameTo (byteAt s) s.size N j q = b at *
            cases b
            · go_wp2_with fail
              go_quiet (fail)
              go_wp2
              go_roundw
              case rel => exact ⟨q + 1, by omega, by omega, by go_num, by rw [HN.out]; rfl, HD2.out.drewN _⟩
              case measure => simp [intOf]; omega
            · obtain ⟨p, hp⟩ : ∃ p, (q * N + j) % s.size = p := ⟨_, rfl⟩
              obtain ⟨p2, hp2⟩ : ∃ p, j % s.size = p := ⟨_, rfl⟩
              have g1 : p < s.size := by rw [← hp]; exact Nat.mod_lt _ h0
              have g2 : p2 < s.size := by rw [← hp2]; exact Nat.mod_lt _ h0
              obtain ⟨m0, m1⟩ := prod_bd (k := j) (show q ≤ 100 by omega) (show N ≤ 60 by omega)
              have g1' : (p : Int) < (s.size : Int) := by omega
              have g2' : (p2 : Int) < (s.size : Int) := by omega
              have z1 : (0 : Int) ≤ (p : Int) := by omega
              have z2 : (0 : Int) ≤ (p2 : Int) := by omega
              have e3 : ¬ (s.size : Int) = 0 := by omega
              have e4 : ((s.size : Int) == 0) = false := beq_false_of_ne e3
              have e5 : (1 : Int) ≤ (s.size : Int) := by omega
              have ip : ((q : Int) * (N : Int) + (j : Int)) % (s.size : Int) = (p : Int) := by rw [← hp]; push_cast; rfl
              have ip2 : (j : Int) % (s.size : Int) = (p2 : Int) := by rw [← hp2]; rfl
              rw [side_byte s N q j p hp, side_byte s N 0 j p2 (by rw [Nat.zero_mul, Nat.zero_add]; exact hp2), byteAt_eq g1, byteAt_eq g2] at HN
              clear hp hp2
              by_cases hB : ((s[p]'g1).toNat : Int) = ((s[p2]'g2).toNat : Int)
              · rw [decide_eq_true hB] at HN
                go_wp2_with fail
                go_quiet (fail)
                go_wp2
                go_roundw
                case rel => exact ⟨q + 1, by omega, by omega, by go_num, by rw [HN.out]; rfl, HD2.out.drewN _⟩
                case measure => simp [intOf]; omega
              · rw [decide_eq_false hB] at HN
                go_wp2_with fail
                go_quiet (fail)
                go_wp2
                go_roundw
                case rel => exact ⟨q + 1, by omega, by omega, by go_num, by rw [HN.out]; simp [hB], HD2.out.drewN _⟩
                case measure => simp [intOf]; omega
          · obtain rfl : q = s.size := by omega
            rw [sameTo_all h0 j]
            have HH := Lib.hid (HLX.out j hlt)
            generalize looseB (byteAt s) s.size N j = b at *
            cases b
            · go_wp2_with (go_at_call 21; refine (a2Has_c L _ cL XL j false _ (by omega) (HD2.out.sl SL.out) HH.out).mono ?_; rintro e w' ⟨rfl, rfl⟩)
              go_roundw
              case rel => exact ⟨j + 1, by omega, by go_num, HD2.out⟩
              case measure => simp [intOf]; omega
            · go_wp2_with (go_at_call 21; refine (a2Has_c L _ cL XL j true _ (by omega) (HD2.out.sl SL.out) HH.out).mono ?_; rintro e w' ⟨rfl, rfl⟩)
              go_roundw
              case rel => exact ⟨j + 1, by omega, by go_num, HD2.out⟩
              case measure => simp [intOf]; omega
      · go_wp2_with fail
        go_loopw [18, 17] (fun i y wr => ∃ (t : Nat) (x : Int), t ≤ d ∧ i = .int .i64 (t : Int) ∧ y = .int .i64 x ∧ (t = 0 ∧ x = 2 ∨ ∃ t', t = t' + 1 ∧ x = XD t') ∧ Drew w7 wr) (fun i _ _ => d - (intOf i).toNat)
        case atStart => exact ⟨0, 2, by omega, rfl, rfl, .inl ⟨rfl, rfl⟩, HD.out⟩
        case round =>
          obtain ⟨t, x, ht, rfl, rfl, hx, hd⟩ := hrel
          have HD3 := Lib.hid hd
          clear hd
          by_cases htl : t < d
          · have htl' : (t : Int) < (d : Int) := by omega
            have ht0 : (0 : Int) ≤ (t : Int) := by omega
            obtain ⟨y1, y2⟩ := DB.out t htl
            have hxy : x < XD t := by
              rcases hx with ⟨rfl, rfl⟩ | ⟨t', rfl, rfl⟩
              · omega
              · exact DU.out t' htl
            have hx1 : ¬ XD t ≤ x := by omega
            have hx2 : ¬ (N : Int) < XD t := by omega
            obtain ⟨bb, oo, rfl, hbb, hXX⟩ := (HD3.out.sl SD.out) (by omega)
            have p0 := hXX t (by omega)
            have HY := Lib.hid (show t + 1 = 0 ∧ XD t = 2 ∨ ∃ t', t + 1 = t' + 1 ∧ XD t = XD t' from .inr ⟨t, rfl, rfl⟩)
            clear hXX hx
            go_wp2
            go_roundw
            case rel => exact ⟨t + 1, XD t, by omega, by go_num, by rfl, HY.out, HD3.out⟩
            case measure => simp [intOf]; omega
          · go_wp2_with fail
            obtain ⟨mm, hmm⟩ := HD3.out
            have BA := Lib.hid (show Below w.heap.size w wr by rw [hmm]; exact bdrew B7.out _)
            have BB := Lib.hid (show Below w7.heap.size w7 wr by rw [hmm]; exact bdrew (Below.refl _ _) _)
            clear hmm
            go_loopw [19] (fun i wr => ∃ z : Nat, 3 ≤ z ∧ z ≤ N + 1 ∧ i = .int .i64 (z : Int) ∧ Below w.heap.size w wr ∧ Below w7.heap.size w7 wr) (fun i _ => N + 1 - (intOf i).toNat)
            case atStart => exact ⟨3, Nat.le_refl _, by omega, rfl, BA.out, BB.out⟩
            case round =>
              obtain ⟨z, hz, hz2, rfl, ha, hb⟩ := hrel
              have HA := Lib.hid ha
              have HB := Lib.hid hb
              clear ha hb
              by_cases hzl : z ≤ N
              · have hzl' : (z : Int) ≤ (N : Int) := by omega
                have HI := Lib.hid (fun W => isSound_s s z M W HS.out hz (by omega) M1 (by omega))
                have HZ := Lib.hid (DX.out z hz hzl)
                generalize soundB (byteAt s) s.size z M = b at *
                cases b
                · go_wp2_with fail
                  refine (HI.out _).mono ?_
                  rintro e w8 ⟨rfl, hb8⟩
                  have HA2 := Lib.hid (HA.out.trans (hb8.mono HA.out.size))
                  have HB2 := Lib.hid (HB.out.trans (hb8.mono HB.out.size))
                  clear hb8
                  go_wp2_with (go_at_call 21; refine (a2Has_c D d cD XD z false _ (by omega) (SD.out.below HB2.out (Nat.le_refl _)) HZ.out).mono ?_; rintro e w' ⟨rfl, rfl⟩)
                  go_roundw
                  case rel => exact ⟨z + 1, by omega, by omega, by go_num, HA2.out, HB2.out⟩
                  case measure => simp [intOf]; omega
                · go_wp2_with fail
                  refine (HI.out _).mono ?_
                  rintro e w8 ⟨rfl, hb8⟩
                  have HA2 := Lib.hid (HA.out.trans (hb8.mono HA.out.size))
                  have HB2 := Lib.hid (HB.out.trans (hb8.mono HB.out.size))
                  clear hb8
                  go_wp2_with fail
                  refine (a2Has_c D d cD XD z true _ (by omega) (SD.out.below HB2.out (Nat.le_refl _)) ⟨fun _ => HZ.out.1 trivial, fun _ => rfl⟩).mono ?_
                  rintro e w' ⟨rfl, rfl⟩
                  go_wp2
                  go_roundw
                  case rel => exact ⟨z + 1, by omega, by omega, by go_num, HA2.out, HB2.out⟩
                  case measure => simp [intOf]; omega
              · go_wp2
                go_ret
                exact ⟨rfl, HA.out⟩
end Go.Proofs.YtbmdggcfoohmgaaDoor.src
