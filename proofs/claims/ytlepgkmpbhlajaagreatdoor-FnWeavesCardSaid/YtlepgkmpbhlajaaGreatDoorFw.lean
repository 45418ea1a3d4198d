/-
  The walk of the law on the rounds of a weave and its other side.
-/
import Derived.Test.YtlepgkmpbhlajaaGreatDoorRo
import Derived.Test.YtlepgkmpbhlajaaGreatDoorFm
import Derived.Test.YtlepgkmpbhlajaaGreatDoorDs
import Derived.Test.YtlepgkmpbhlajaaGreatDoorSrcAtB
namespace Go.Proofs.YtlepgkmpbhlajaaGreatDoor.src
open Go.ChangeShapes Go.WideShapes Go.ChangeAt Go.RowKit Go.Proofs.YtlepgkmpbhlajaaGreatDoor.mem Go.Proofs.YtlepgkmpbhlajaaGreatDoor.rod Go.Proofs.YtlepgkmpbhlajaaGreatDoor.wk Go.Proofs.YtlepgkmpbhlajaaGreatDoor.wv
set_option linter.unusedVariables false

theorem byteU_get {s : ByteArray} {i : Nat} (h : i < s.size) : s[i]'h = byteU s i := by unfold byteU; rw [dif_pos h]
theorem other_size (s : ByteArray) : (otherB s).size = s.size := mkB_size _ _
theorem byteU_other {s : ByteArray} {i : Nat} (h : i < s.size) : byteU (otherB s) i = flip (byteU s i) := by
  have h1 := mkB_byte (fun i => flip (byteU s i)) h
  have h2 := byteU_at (otherB s) i
  have h3 : ((byteU (otherB s) i).toNat : Int) = ((flip (byteU s i)).toNat : Int) := h2.symm.trans h1
  exact UInt8.toNat_inj.1 (by omega)
theorem byte_two {s : ByteArray} (h : strokeB s = true) {i : Nat} (hi : i < s.size) : byteU s i = 70 ∨ byteU s i = 66 := by
  obtain ⟨_, _, hf⟩ := stroke_of h
  rcases hf i hi with e | e <;> rw [byteU_at] at e
  · exact .inl (UInt8.toNat_inj.1 (by show _ = 70; omega))
  · exact .inr (UInt8.toNat_inj.1 (by show _ = 66; omega))
theorem flip_two {b : UInt8} (h : b = 70 ∨ b = 66) : (flip b = 66 ∨ flip b = 70) ∧ flip (flip b) = b ∧ flip b ≠ b := by
  rcases h with rfl | rfl <;> exact ⟨by decide, by decide, by decide⟩
theorem stroke_other {s : ByteArray} (h : strokeB s = true) : strokeB (otherB s) = true := by
  obtain ⟨h0, h12, _⟩ := stroke_of h
  unfold strokeB
  rw [other_size, Bool.and_eq_true]
  refine ⟨(okTo_iff _ _).2 fun i hi => ?_, inB_yes (by omega) (by omega)⟩
  rw [byteU_at, byteU_other hi]
  rcases (flip_two (byte_two h hi)).1 with e | e <;> rw [e] <;> rfl
theorem bytes_ext {a b : ByteArray} (hs : a.size = b.size) (h : ∀ i, i < a.size → byteU a i = byteU b i) : a = b := by
  apply ByteArray.ext
  apply Array.ext
  · exact hs
  · intro i h1 h2
    have := h i h1
    unfold byteU at this
    rw [dif_pos (show i < a.size from h1), dif_pos (show i < b.size from h2)] at this
    exact this
theorem other_other {s : ByteArray} (h : strokeB s = true) : otherB (otherB s) = s := by
  refine bytes_ext (by rw [other_size, other_size]) fun i hi => ?_
  rw [other_size, other_size] at hi
  rw [byteU_other (by rw [other_size]; exact hi), byteU_other hi]
  exact (flip_two (byte_two h hi)).2.1
theorem at_next {n r N j : Nat} (hn : 0 < n) : (((r * N + j) % n) + 1) % n = (r * N + (j + 1)) % n := by rw [← Nat.add_assoc, Nat.mod_add_mod]
theorem at_zero {n r N : Nat} (hn : 0 < n) (hr : 0 < r) (h : r < rnd n N) : (r * N + 0) % n ≠ 0 := fun e => by
  have := rnd_least hn hr (by rw [Nat.add_zero] at e; exact e)
  omega

set_option maxHeartbeats 16000000 in
set_option maxRecDepth 100000 in
theorem weaves_walk (A : Option Addr) (n c : Nat) (X : Nat → Int) (A2 : Option Addr) (m c2 : Nat) (X2 : Nat → Int) (w : World) (hn : n ≤ 3000) (hm : m ≤ 3000) (hX : Sb w A n X) (hX2 : Sb w A2 m X2) :
    Calls Tryz.prog 3 #[.slice A n c, .slice A2 m c2] w fun e w' => e = .returned (.bool true) ∧ Below w.heap.size w w' := by
  have HX := Lib.hid hX
  have HX2 := Lib.hid hX2
  clear hX hX2
  go_enter Tryz.func3, Tryz.ntmps3
  go_wp2_with fail
  refine (long_b A A2 n m c c2 _ hn hm).mono ?_
  rintro e w1 ⟨rfl, b1⟩
  go_wp2_with fail
  refine (stroke_c A n c X _ (by omega) (HX.out.below b1 (Nat.le_refl _))).mono ?_
  rintro e w2 ⟨s, rfl, HS, hb2⟩
  have b2 := b1.trans (hb2.mono b1.size)
  clear hb2 b1
  go_wp2_with fail
  refine (at_b A2 m c2 X2 0 22 21 _ hm (by omega) (by omega) (by omega) (HX2.out.below b2 (Nat.le_refl _))).mono ?_
  rintro e w3 ⟨u, rfl, u0, u1, hb3⟩
  have b3 := b2.trans (hb3.mono b2.size)
  obtain ⟨k, rfl⟩ : ∃ k : Nat, u = (k : Int) := ⟨u.toNat, by omega⟩
  have HB3 := Lib.hid b3
  obtain ⟨N, hN⟩ : ∃ N, N = 3 + k := ⟨_, rfl⟩
  have eN : (3 : Int) + (k : Int) = (N : Int) := by omega
  have N3 : 3 ≤ N := by omega
  have N24 : N ≤ 24 := by omega
  obtain ⟨h0, h12, _⟩ := stroke_of HS.out
  clear hb3 b2 b3 hN
  have HSO := Lib.hid (stroke_other HS.out)
  have HOO := Lib.hid (other_other HS.out)
  have hzO := other_size s
  obtain ⟨O, hO⟩ : ∃ O, O = otherB s := ⟨_, rfl⟩
  have HOI := Lib.hid (fun W => Go.Proofs.YtlepgkmpbhlajaaGreatDoor.rp.other_i s W HS.out)
  have HOJ := Lib.hid (fun W => Go.Proofs.YtlepgkmpbhlajaaGreatDoor.rp.other_i (otherB s) W HSO.out)
  rw [HOO.out] at HOJ
  rw [← hO] at HOI HOJ HSO hzO
  have HOE := Lib.hid hO
  clear hO HOO
  go_wp2_with fail
  refine (HOI.out _).mono ?_
  rintro e w4 ⟨rfl, hb4⟩
  have B4 := Lib.hid (HB3.out.trans (hb4.mono HB3.out.size))
  clear hb4 HB3
  go_wp2_with fail
  refine (HOJ.out _).mono ?_
  rintro e w5 ⟨rfl, hb5⟩
  have B5 := Lib.hid (B4.out.trans (hb5.mono B4.out.size))
  clear hb5 B4 HOI HOJ
  go_wp2_with fail
  refine (begins_i s N _ HS.out N3 (by omega)).mono ?_
  rintro e w6 ⟨rfl, hb6⟩
  have B6 := Lib.hid (B5.out.trans (hb6.mono B5.out.size))
  clear hb6 B5
  have R1 := rnd_pos N h0
  have R12 := rnd_le s.size N
  have HRZ := Lib.hid (rnd_zero N h0)
  have HRL := Lib.hid (fun r (hr : 0 < r) (h : r < rnd s.size N) => at_zero h0 hr h)
  generalize rnd s.size N = R at *
  obtain ⟨m0, m1⟩ := prod_bd (k := 0) (show R ≤ 100 by omega) (show N ≤ 60 by omega)
  have hR1 : decide ((R : Int) < 1) = false := decide_eq_false (by omega)
  have hR2 : decide ((12 : Int) < (R : Int)) = false := decide_eq_false (by omega)
  have hR2' : decide (12 < R) = false := decide_eq_false (by omega)
  have eW : IntKind.i64.wrap ((R : Int) * (N : Int)) = (R : Int) * (N : Int) := by rw [IntKind.wrap_i64]; omega
  have eM : ((R : Int) * (N : Int)) % (s.size : Int) = 0 := by have := HRZ.out; norm_cast
  have eT : ((R : Int) * (N : Int)).tmod (s.size : Int) = 0 := by rw [Int.tmod_eq_emod_of_nonneg m0]; exact eM
  have e3 : ¬ (s.size : Int) = 0 := by omega
  have e4 : ((s.size : Int) == 0) = false := beq_false_of_ne e3
  have eO : (O.size : Int) = (s.size : Int) := by omega
  go_wp2_with fail
  clear hR1 hR2 hR2' eW eM eT m0 m1
  go_loopw [13, 14] (fun a r wr => ∃ q p : Nat, q ≤ R + 1 ∧ r = .int .i64 (q : Int) ∧ a = .int .i64 (p : Int) ∧ Hid (p = (q * N + 0) % s.size) ∧ Hid (Below w.heap.size w wr)) (fun _ r _ => R + 1 - (intOf r).toNat)
  case atStart => exact ⟨0, 0, by omega, rfl, rfl, Lib.hid (by simp), B6⟩
  case round =>
    obtain ⟨q, p0, hq, rfl, rfl, HP0, HB⟩ := hrel
    by_cases hqR : q ≤ R
    · have hqR' : (q : Int) ≤ (R : Int) := by omega
      obtain ⟨T, hT⟩ : ∃ T, T = mkB (fun k => sideU s N q k) N := ⟨_, rfl⟩
      obtain ⟨U, hU⟩ : ∃ U, U = mkB (fun k => sideU O N q k) N := ⟨_, rfl⟩
      have HRT := Lib.hid (fun W => roundOf_i s N q W HS.out N3 (by omega) (by omega))
      have HRU := Lib.hid (fun W => roundOf_i O N q W HSO.out N3 (by omega) (by omega))
      rw [← hT] at HRT
      rw [← hU] at HRU
      have hTz : T.size = N := by rw [hT]; exact mkB_size _ _
      have hUz : U.size = N := by rw [hU]; exact mkB_size _ _
      have HT := Lib.hid (show ∀ j, j < N → byteU T j = byteU s ((q * N + j) % s.size) from fun j hj => by
        have h1 := mkB_byte (fun k => sideU s N q k) hj
        have h2 := byteU_at T j
        rw [hT] at h2
        rw [hT]
        have h3 : ((byteU (mkB (fun k => sideU s N q k) N) j).toNat : Int) = ((sideU s N q j).toNat : Int) := h2.symm.trans h1
        show byteU (mkB (fun k => sideU s N q k) N) j = sideU s N q j
        exact UInt8.toNat_inj.1 (by omega))
      have HU := Lib.hid (show ∀ j, j < N → byteU U j = flip (byteU s ((q * N + j) % s.size)) from fun j hj => by
        have h1 := mkB_byte (fun k => sideU O N q k) hj
        have h2 := byteU_at U j
        rw [hU] at h2
        rw [hU]
        have h3 : ((byteU (mkB (fun k => sideU O N q k) N) j).toNat : Int) = ((sideU O N q j).toNat : Int) := h2.symm.trans h1
        have h4 : byteU (mkB (fun k => sideU O N q k) N) j = sideU O N q j := UInt8.toNat_inj.1 (by omega)
        rw [h4]
        unfold sideU
        rw [hzO, HOE.out]
        exact byteU_other (Nat.mod_lt _ h0))
      have eTz : (T.size : Int) = (N : Int) := by omega
      have eUz : (U.size : Int) = (N : Int) := by omega
      clear hT hU
      go_wp2_with fail
      refine (HRT.out _).mono ?_
      rintro e wa ⟨rfl, hba⟩
      have BA := Lib.hid (HB.out.trans (hba.mono HB.out.size))
      clear hba HRT
      go_wp2_with fail
      refine (HRU.out _).mono ?_
      rintro e wb ⟨rfl, hbb⟩
      have BB := Lib.hid (BA.out.trans (hbb.mono BA.out.size))
      clear hbb HRU BA HB
      rcases (show q = 0 ∨ (0 < q ∧ q = R) ∨ (0 < q ∧ q < R) from by omega) with hc | ⟨hc, hd⟩ | ⟨hc, hd⟩
      case' inl =>
        have t1 : decide ((0 : Int) < (q : Int)) = false := decide_eq_false (by omega)
        have t1' : decide (0 < q) = false := decide_eq_false (by omega)
        clear hc
        go_wp2_with fail
        clear t1 t1'
      case' inr.inl =>
        have t1 : decide ((0 : Int) < (q : Int)) = true := decide_eq_true (by omega)
        have t1' : decide (0 < q) = true := decide_eq_true (by omega)
        have t2 : decide ((q : Int) < (R : Int)) = false := decide_eq_false (by omega)
        have t2' : decide (q < R) = false := decide_eq_false (by omega)
        clear hc hd
        go_wp2_with fail
        clear t1 t1' t2 t2'
      case' inr.inr =>
        have hp : p0 ≠ 0 := fun e => HRL.out q hc hd (HP0.out.symm.trans e)
        have t1 : decide ((0 : Int) < (q : Int)) = true := decide_eq_true (by omega)
        have t1' : decide (0 < q) = true := decide_eq_true (by omega)
        have t2 : decide ((q : Int) < (R : Int)) = true := decide_eq_true (by omega)
        have t2' : decide (q < R) = true := decide_eq_true (by omega)
        have t3 : ((p0 : Int) == 0) = false := beq_false_of_ne (by omega)
        have t3' : (p0 == 0) = false := beq_false_of_ne hp
        clear hc hd hp
        go_wp2_with fail
        clear t1 t1' t2 t2' t3 t3'
      all_goals
        go_loopw [13, 19] (fun a jj wr => ∃ j p : Nat, j ≤ N ∧ a = .int .i64 (p : Int) ∧ jj = .int .i64 (j : Int) ∧ Hid (p = (q * N + j) % s.size) ∧ Hid (Below w.heap.size w wr)) (fun _ jj _ => N - (intOf jj).toNat)
        case atStart => exact ⟨0, p0, by omega, rfl, rfl, HP0, BB⟩
        case round =>
          obtain ⟨j, p, hjN, rfl, rfl, HP, HB2⟩ := hrel
          by_cases hj : j < N
          · have hj' : (j : Int) < (N : Int) := by omega
            have hjT : (j : Int) < (T.size : Int) := by omega
            have hjU : (j : Int) < (U.size : Int) := by omega
            have j0 : (0 : Int) ≤ (j : Int) := by omega
            have hp : p < s.size := by rw [HP.out]; exact Nat.mod_lt _ h0
            have hp' : (p : Int) < (s.size : Int) := by omega
            have p00 : (0 : Int) ≤ (p : Int) := by omega
            obtain ⟨p', hq'⟩ : ∃ p', (p + 1) % s.size = p' := ⟨_, rfl⟩
            have HP' := Lib.hid (show p' = (q * N + (j + 1)) % s.size from by rw [← hq', HP.out]; exact at_next h0)
            have w1 : IntKind.i64.wrap ((p : Int) + 1) = (p : Int) + 1 := by rw [IntKind.wrap_i64]; omega
            have w2 : ((p : Int) + 1) % (s.size : Int) = (p' : Int) := by rw [← hq']; norm_cast
            have w3 : ((p : Int) + 1).tmod (s.size : Int) = (p' : Int) := by rw [Int.tmod_eq_emod_of_nonneg (by omega)]; exact w2
            have hps : byteU s p = byteU s ((q * N + j) % s.size) := by rw [← HP.out]
            clear hq'
            rcases byte_two HS.out (show (q * N + j) % s.size < s.size from Nat.mod_lt _ h0) with hb | hb
            · skip
              have HTj : ∀ h, ((T[j]'h).toNat) = 70 := fun h => by rw [byteU_get h, HT.out j hj, hb]; rfl
              have HUj : ∀ h, ((U[j]'h).toNat) = 66 := fun h => by rw [byteU_get h, HU.out j hj, hb]; rfl
              have Hsp : ∀ h, ((s[p]'h).toNat) = 70 := fun h => by rw [byteU_get h, hps, hb]; rfl
              clear hb hps
              go_wp2_with fail
              go_quiet (fail)
              clear HTj HUj Hsp
              go_wp2
              go_roundw
              case rel => exact ⟨j + 1, p', by omega, rfl, by go_num, HP', Lib.hid (drewN_below HB2.out _)⟩
              case measure => simp [intOf]; omega
            · skip
              have HTj : ∀ h, ((T[j]'h).toNat) = 66 := fun h => by rw [byteU_get h, HT.out j hj, hb]; rfl
              have HUj : ∀ h, ((U[j]'h).toNat) = 70 := fun h => by rw [byteU_get h, HU.out j hj, hb]; rfl
              have Hsp : ∀ h, ((s[p]'h).toNat) = 66 := fun h => by rw [byteU_get h, hps, hb]; rfl
              clear hb hps
              go_wp2_with fail
              go_quiet (fail)
              clear HTj HUj Hsp
              go_wp2
              go_roundw
              case rel => exact ⟨j + 1, p', by omega, rfl, by go_num, HP', Lib.hid (drewN_below HB2.out _)⟩
              case measure => simp [intOf]; omega
          · obtain rfl : j = N := by omega
            have HP2 := Lib.hid (show p = ((q + 1) * j + 0) % s.size from by rw [HP.out, Nat.succ_mul]; rfl)
            go_wp2
            go_roundw
            case rel => exact ⟨q + 1, p, by omega, by go_num, rfl, HP2, HB2⟩
            case measure => simp [intOf]; omega
    · go_wp2
      go_ret
      exact ⟨rfl, HB.out⟩

end Go.Proofs.YtlepgkmpbhlajaaGreatDoor.src
