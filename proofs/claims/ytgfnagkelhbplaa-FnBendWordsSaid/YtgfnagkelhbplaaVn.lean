/-
  The law FnBendWords, walked. No condition of a statement lies here.
-/
import Derived.Test.YtgfnagkelhbplaaVl
import Derived.Test.YtgfnagkelhbplaaVm
namespace Go.Proofs.Ytgfnagkelhbplaa.brd
open Go.ChangeShapes Go.WideShapes Go.ChangeAt Go.RowKit Go.Proofs.Ytgfnagkelhbplaa.mem Go.Proofs.Ytgfnagkelhbplaa.rod Go.Proofs.Ytgfnagkelhbplaa.nums Go.Proofs.Ytgfnagkelhbplaa.src
set_option linter.unusedVariables false
set_option maxRecDepth 100000

def rotB (l m : List Bool) (k : Nat) : Bool := (List.range k).any fun j => rot l j == m
theorem rotB_succ (l m : List Bool) (k : Nat) : rotB l m (k + 1) = (rotB l m k || (rot l k == m)) := by
  unfold rotB
  rw [List.range_succ, List.any_append]
  simp
theorem rotB_same {l m : List Bool} (h1 : 1 ≤ l.length) (h8 : l.length ≤ 8) : rotB l m l.length = (first l == first m) := by
  rw [Bool.eq_iff_iff, beq_iff_eq, first_eq h1 h8]
  unfold rotB
  simp only [List.any_eq_true, List.mem_range, beq_iff_eq]
theorem rot_fact {T U : ByteArray} {l m : List Bool} (hT : T = toB l) (hU : U = toB m) {k : Nat} (hk : k ≤ l.length) : ((T.extract k T.size ++ T.extract 0 k).toList == U.toList) = (rot l k == m) := by
  subst hT hU
  rw [toB_size, toB_rot l hk, toB_eq]
theorem own_c {T f : ByteArray} {c : Int} (h : c = 0) (hf : c = 0 → bendB T = true ∧ f = toB (first (bits T))) (w : World) : Calls Try.prog 31 #[.string T, .string f] w fun e w' => e = .returned (.tuple #[.bool true, .int .i64 0]) ∧ Below w.heap.size w w' := by
  obtain ⟨hb, rfl⟩ := hf h
  obtain ⟨l, e1, e2, l1, l8⟩ := bend_bits hb
  have hl : (first l).length = l.length := first_len l
  have hb2 : bendB (toB (first l)) = true := bend_toB (by omega) (by omega)
  have hz := (bend_of hb).2.1
  have hbb : bothB T (toB (first (bits T))) = true := by unfold bothB; rw [hb, e2, hb2]; rfl
  have hsv : sameV T (toB (first (bits T))) = true := by
    obtain ⟨m, f1, f2, _, _⟩ := bend_bits hb2
    have hm := toB_inj f1
    obtain ⟨k, hk, ek⟩ := first_is (l := l) l1
    unfold sameV
    rw [e2, f2, ← hm, ek, (first_rot l1 l8 hk).1, ek]
    exact beq_self_eq_true _
  have h := same_i T (toB (first (bits T))) w (by omega) (by rw [toB_size, e2]; omega) hbb
  rw [hsv] at h
  exact h
theorem word_out {l : List Bool} {st : Nat} (l1 : 1 ≤ l.length) (l8 : l.length ≤ 8) (h2 : l.length + 2 ≤ st) (hst : st ≤ 40) (ho : outN (toB l) st = 1) (w : World) : Calls Try.prog 27 #[.string (toB l), .int .i64 (st : Int)] w fun e w' => e = .returned (.tuple #[.int .i64 1, .int .i64 0]) ∧ Below w.heap.size w w' := by
  have h := out_i (toB l) st w (bend_toB l1 l8) hst (by rw [toB_size]; exact h2)
  rw [ho] at h
  exact h
theorem fit_wf {a : Int} (h : Fit a) : (Lit.int .i64 a).wf = true := by
  obtain ⟨h0, h1⟩ := h
  have q1 : IntKind.i64.min = -9223372036854775808 := rfl
  have q2 : IntKind.i64.max = 9223372036854775807 := rfl
  simp [Lit.wf]
  omega

set_option maxHeartbeats 20000000 in
set_option maxRecDepth 1000000 in
theorem bendWords_walk (A : Option Addr) (n c : Nat) (X : Nat → Int) (w : World) (hn : n ≤ 4096) (sl : Sb w A n X) :
    Calls Try.prog 14 #[.slice A n c] w fun e w' => e = .returned (.bool true) ∧ Below w.heap.size w w' := by
  have HSL := Lib.hid sl
  clear sl
  go_enter Try.func14, Try.ntmps14
  go_wp2_with fail
  refine (bigT_c A n c _ hn).mono ?_
  rintro e w' ⟨rfl, rfl⟩
  have B := Lib.hid (Below.refl w'.heap.size w')
  go_wp2_with fail
  refine (drawSame_c A n c X _ hn (HSL.out.below B.out (Nat.le_refl _))).mono ?_
  rintro e w1 ⟨T, U, rfl, hT, hU, hb⟩
  replace B := Lib.hid (B.out.trans (hb.mono B.out.size))
  clear hb
  obtain ⟨v1, c1, F1, F1', I1, S1⟩ := same_any T U hT hU
  replace F1 := Lib.hid F1
  replace I1 := Lib.hid I1
  replace S1 := Lib.hid S1
  clear F1'
  go_wp2_with fail
  refine (I1.out _).mono ?_
  rintro e w2 ⟨rfl, hb⟩
  replace B := Lib.hid (B.out.trans (hb.mono B.out.size))
  clear hb
  go_wp2_with fail
  refine (S1.out _).mono ?_
  rintro e w3 ⟨rfl, hb⟩
  replace B := Lib.hid (B.out.trans (hb.mono B.out.size))
  clear hb I1 S1
  go_wp2_with fail
  refine (drawLocked_c A n c X _ hn (HSL.out.below B.out (Nat.le_refl _))).mono ?_
  rintro e w4 ⟨a, b, rfl, fa, fb, hb⟩
  replace B := Lib.hid (B.out.trans (hb.mono B.out.size))
  clear hb
  obtain ⟨W, c2, hW, F2, I2, S2⟩ := locked_any a b (fit_wf fa)
  replace F2 := Lib.hid F2
  replace I2 := Lib.hid I2
  replace S2 := Lib.hid S2
  clear fa fb
  go_wp2_with fail
  refine (I2.out _).mono ?_
  rintro e w5 ⟨A1, k1, rfl, hk1, hm1, row1, hb⟩
  replace B := Lib.hid (B.out.trans (hb.mono B.out.size))
  have R1 := Lib.hid (fun (V : World) (h : Below w5.heap.size w5 V) => (row1.below h (Nat.le_refl _)).sl)
  clear row1
  clear hb
  have B1 := Lib.hid (Below.refl w5.heap.size w5)
  go_wp2_with fail
  refine (S2.out _).mono ?_
  rintro e w6 ⟨A2, k2, rfl, hk2, hm2, row2, hb⟩
  replace B := Lib.hid (B.out.trans (hb.mono B.out.size))
  replace B1 := Lib.hid (B1.out.trans (hb.mono B1.out.size))
  have R2 := Lib.hid (fun (V : World) (h : Below w6.heap.size w6 V) => (row2.below h (Nat.le_refl _)).sl)
  clear row2
  clear hb
  have B2 := Lib.hid (Below.refl w6.heap.size w6)
  clear I2 S2
  have hWm : W.length ≤ maxLen := by unfold maxLen; omega
  go_wp2_with fail
  refine (drawRod_c A n c X _ hn (HSL.out.below B.out (Nat.le_refl _))).mono ?_
  rintro e w7 ⟨Tr, r, sv, rfl, hTr, hb⟩
  replace B := Lib.hid (B.out.trans (hb.mono B.out.size))
  replace B1 := Lib.hid (B1.out.trans (hb.mono B1.out.size))
  replace B2 := Lib.hid (B2.out.trans (hb.mono B2.out.size))
  clear hb
  obtain ⟨v3, c3, F3, I3, S3⟩ := rod_any Tr r sv hTr
  replace F3 := Lib.hid F3
  replace I3 := Lib.hid I3
  replace S3 := Lib.hid S3
  go_wp2_with fail
  refine (I3.out _).mono ?_
  rintro e w8 ⟨rfl, hb⟩
  replace B := Lib.hid (B.out.trans (hb.mono B.out.size))
  replace B1 := Lib.hid (B1.out.trans (hb.mono B1.out.size))
  replace B2 := Lib.hid (B2.out.trans (hb.mono B2.out.size))
  clear hb
  go_wp2_with fail
  refine (S3.out _).mono ?_
  rintro e w9 ⟨rfl, hb⟩
  replace B := Lib.hid (B.out.trans (hb.mono B.out.size))
  replace B1 := Lib.hid (B1.out.trans (hb.mono B1.out.size))
  replace B2 := Lib.hid (B2.out.trans (hb.mono B2.out.size))
  clear hb I3 S3
  go_wp2_with fail
  refine (drawFirst_c A n c X _ hn (HSL.out.below B.out (Nat.le_refl _))).mono ?_
  rintro e w10 ⟨Tf, rfl, hTf, hb⟩
  replace B := Lib.hid (B.out.trans (hb.mono B.out.size))
  replace B1 := Lib.hid (B1.out.trans (hb.mono B1.out.size))
  replace B2 := Lib.hid (B2.out.trans (hb.mono B2.out.size))
  clear hb
  obtain ⟨f, c4, hf, F4, I4, S4⟩ := first_any Tf hTf
  replace F4 := Lib.hid F4
  replace I4 := Lib.hid I4
  replace S4 := Lib.hid S4
  go_wp2_with fail
  refine (I4.out _).mono ?_
  rintro e w11 ⟨rfl, hb⟩
  replace B := Lib.hid (B.out.trans (hb.mono B.out.size))
  replace B1 := Lib.hid (B1.out.trans (hb.mono B1.out.size))
  replace B2 := Lib.hid (B2.out.trans (hb.mono B2.out.size))
  clear hb
  go_wp2_with fail
  refine (S4.out _).mono ?_
  rintro e w12 ⟨rfl, hb⟩
  replace B := Lib.hid (B.out.trans (hb.mono B.out.size))
  replace B1 := Lib.hid (B1.out.trans (hb.mono B1.out.size))
  replace B2 := Lib.hid (B2.out.trans (hb.mono B2.out.size))
  clear hb I4 S4 HSL
  have ef : (f.toList != f.toList) = false := by simp
  have ec1 : (c1 != c1) = false := by simp
  have ec2 : (c2 != c2) = false := by simp
  have ec3 : (c3 != c3) = false := by simp
  have ec4 : (c4 != c4) = false := by simp
  have ev3 : (v3 != v3) = false := by simp
  have ev1 : (v1 != v1) = false := by simp
  skip
  go_wp2_with fail
  refine (textsT_c A1 A2 W.length k1 k2 _ _ hWm (R1.out _ B1.out) (R2.out _ B2.out)).mono ?_
  rintro e w13 ⟨rfl, hd⟩
  have hb : Below w12.heap.size w12 w13 := by obtain ⟨m, rfl⟩ := hd; exact drewN_below (Below.refl _ _) m
  clear hd
  replace B := Lib.hid (B.out.trans (hb.mono B.out.size))
  replace B1 := Lib.hid (B1.out.trans (hb.mono B1.out.size))
  replace B2 := Lib.hid (B2.out.trans (hb.mono B2.out.size))
  clear hb R1 B1
  skip
  go_upto_if 142 with fail
  clear ef ec1 ec2 ec3 ec4 ev3 ev1
  go_cut [] from 27 (fun wx => Below w13.heap.size w13 wx)
  case first =>
    by_cases h0 : c4 = 0
    · have HC := Lib.hid (own_c h0 F4.out w13)
      clear F4
      subst h0
      go_wp2_with fail
      refine HC.out.mono ?_
      rintro e wa ⟨rfl, hb⟩
      go_wp2_with fail
      go_meet
      case rel => exact hb
    · have e0 : (c4 == 0) = false := by simpa using h0
      go_wp2_with fail
      go_meet
      case rel => exact Below.refl _ _
  case rest =>
    skip
    have hb := hcut
    clear hcut F4 hTf hf
    replace B := Lib.hid (B.out.trans (hb.mono B.out.size))
    replace B2 := Lib.hid (B2.out.trans (hb.mono B2.out.size))
    clear hb
    have C := Lib.hid (Below.refl wc.heap.size wc)
    go_wp2_with fail
    go_loopw [29] (fun s wr => ∃ k : Nat, k ≤ W.length ∧ s = .int .i64 k ∧ Below wc.heap.size wc wr) (fun s _ => W.length - (intOf s).toNat)
    case atStart => exact ⟨0, by omega, rfl, Below.refl _ _⟩
    case round =>
      skip
      obtain ⟨k, hk, rfl, hbl⟩ := hrel
      have HB := Lib.hid hbl
      have hzz := hbl.size
      clear hbl
      by_cases hlt : k < W.length
      · skip
        have hlt' : (k : Int) < (W.length : Int) := by omega
        obtain ⟨st, hbst, s40, l1, l8, l2, ho⟩ := F2.out k hlt
        subst hbst
        obtain ⟨g1, rfl, _, hX⟩ := (R2.out _ (B2.out.trans (HB.out.mono B2.out.size))) (by omega)
        have p0 : wr.cell? ⟨g1, k, none⟩ = some (.string (toB (W.getD k []))) := hX k (by omega)
        have HC := Lib.hid (word_out l1 l8 l2 s40 ho)
        clear hX ho
        generalize W.getD k [] = lw at *
        generalize toB lw = Q at *
        skip
        go_wp2_with fail
        skip
        refine (HC.out _).mono ?_
        rintro e w5 ⟨rfl, hb⟩
        have HB2 := Lib.hid (HB.out.trans (hb.mono HB.out.size))
        clear hb
        go_wp2
        go_roundw
        case rel => exact ⟨k + 1, by omega, by go_num, HB2.out⟩
        case measure => simp [intOf]; omega
      · obtain rfl : k = W.length := by omega
        have BB := Lib.hid (B.out.trans (HB.out.mono B.out.size))
        clear HB F2 R2 B2 C B
        skip
        go_upto_region 27 with fail
        go_cut [188] from 176 to 188 (fun v wx => v = .bool false ∧ wx = wr)
        case first =>
          by_cases h0 : c3 = 0
          · obtain ⟨p, q, hp, hq, hle, q0, p1⟩ := F3.out h0
            subst h0
            have wp : IntKind.i64.wrap (v3 * sv) = p := by rw [hp]; exact IntWalk.i64_in _ (by omega)
            have wq : IntKind.i64.wrap (r * ((Tr.size : Int) + 1)) = q := by rw [hq]; exact IntWalk.i64_in _ (by omega)
            have hnl : ¬ p < q := by omega
            have hz9 : ((Tr.size : Nat) : Int) ≤ 9 := by omega
            clear F3
            go_wp2_with fail
            go_meet
            case rel => exact ⟨rfl, rfl⟩
          · have e0 : (c3 == 0) = false := by simpa using h0
            go_wp2_with fail
            go_meet
            case rel => exact ⟨rfl, rfl⟩
        case rest =>
          skip
          obtain ⟨rfl, rfl⟩ := hcut
          by_cases h1 : c1 = 0
          · obtain ⟨hbb, hv⟩ := F1.out h1
            obtain ⟨b1, b2⟩ := Bool.and_eq_true_iff.1 hbb
            obtain ⟨l, e1, e2, l1, l8⟩ := bend_bits b1
            obtain ⟨m, f1, f2, m1, m8⟩ := bend_bits b2
            have hv2 : rotB l m l.length = v1 := by rw [rotB_same l1 l8, hv]; unfold sameV; rw [e2, f2]
            have HR := Lib.hid (fun (k : Nat) (hk : k ≤ l.length) => rot_fact e1 f1 hk)
            have HV := Lib.hid hv2
            have hlT : T.size = l.length := by rw [e1, toB_size]
            have HLT := Lib.hid hlT
            subst h1
            clear F1 hbb hv b1 b2 e1 e2 f1 f2 hv2 hlT
            have hT9 : ((T.size : Nat) : Int) ≤ 9 := by omega
            go_wp2_with fail
            go_loopw [32, 33] (fun t s wr2 => ∃ k : Nat, k ≤ T.size ∧ s = .int .i64 k ∧ t = .bool (rotB l m k) ∧ Below wc.heap.size wc wr2) (fun _ s _ => T.size - (intOf s).toNat)
            case atStart => exact ⟨0, by omega, rfl, rfl, Below.refl _ _⟩
            case round =>
              obtain ⟨k, hk, rfl, rfl, hbl⟩ := hrel
              have HB := Lib.hid hbl
              clear hbl
              by_cases hlt : k < T.size
              · have hlt' : (k : Int) < (T.size : Int) := by omega
                have HS := Lib.hid (rotB_succ l m k)
                cases hq : rotB l m k
                · have e1 : (T.extract k T.size).size = T.size - k := by simp
                  have e2 : (T.extract 0 k).size = k := by rw [ByteArray.size_extract]; omega
                  have e3 := HR.out k (by have := HLT.out; omega)
                  go_wp2_with fail
                  go_quiet (fail)
                  go_wp2
                  go_roundw
                  case rel => exact ⟨k + 1, by omega, by go_num, by rw [HS.out, hq, ← e3]; rfl, drewN_below HB.out _⟩
                  case measure => simp [intOf]; omega
                · go_wp2_with fail
                  go_quiet (fail)
                  go_wp2
                  go_roundw
                  case rel => exact ⟨k + 1, by omega, by go_num, by rw [HS.out, hq]; rfl, drewN_below HB.out _⟩
                  case measure => simp [intOf]; omega
              · obtain rfl : k = T.size := by omega
                have hv9 : rotB l m T.size = v1 := by rw [HLT.out]; exact HV.out
                rw [hv9]
                have evv : (v1 == v1) = true := by simp
                have HG := Lib.hid (BB.out.trans (HB.out.mono BB.out.size))
                go_wp2
                go_ret
                exact ⟨rfl, HG.out⟩
          · have e0 : (c1 == 0) = false := by simpa using h1
            have e9 : (c1 != 0) = true := by simpa using h1
            go_wp2
            go_ret
            exact ⟨rfl, BB.out⟩

end Go.Proofs.Ytgfnagkelhbplaa.brd
