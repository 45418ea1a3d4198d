/-
  The walk of the law on supple hours: for every two arguments the law gives true.
-/
import Derived.Test.YtcpaenmhnoagdacFnSupM
import Derived.Test.YtcpaenmhnoagdacSrcAt
import Derived.Test.YtcpaenmhnoagdacTank
import Derived.Test.YtcpaenmhnoagdacTm2
import Derived.Test.YtcpaenmhnoagdacTm3
namespace Go.Proofs.Ytcpaenmhnoagdac.src
open Go.ChangeShapes Go.WideShapes Go.ChangeAt Go.RowKit Go.Proofs.Ytcpaenmhnoagdac.mem Go.Proofs.Ytcpaenmhnoagdac.rod
set_option linter.unusedVariables false

theorem best_any (B : Option Addr) (k d : Nat) (Y : Nat → Int) (hk : k ≤ 5) (hs : Small Y k) : ∃ v s c : Int, ((k = 0 ∧ c = 3) ∨ (0 < k ∧ c = 0 ∧ BH Y k v s)) ∧
    ∀ W : World, Sl W B k 4 Y → Calls Try.prog 46 #[.slice B k d] W fun e w' => e = .returned (.tuple #[.int .i64 v, .int .i64 s, .int .i64 c]) ∧ Below W.heap.size W w' := by
  have hl := small_list hs (by omega)
  by_cases h0 : 0 < k
  · obtain ⟨v, s, hb⟩ := BHs.ex (listT_of hl).2 k (Nat.le_refl _)
    have hbh := hb.done (listT_of hl).2 h0
    exact ⟨v, s, 0, .inr ⟨h0, rfl, hbh⟩, fun W hW => Go.Proofs.Ytcpaenmhnoagdac.ag.best_i B k d Y v s W (by unfold maxLen; omega) hW hl h0 hbh⟩
  · exact ⟨0, 0, 3, .inl ⟨by omega, rfl⟩, fun W hW => Go.Proofs.Ytcpaenmhnoagdac.ag.best_i_no B k d Y 3 W (by unfold maxLen; omega) hW (.inr ⟨by omega, rfl⟩)⟩
theorem latest_any (s h : Int) (s0 : 1 ≤ s) (s1 : s ≤ 30) (h0 : 0 ≤ h) (h1 : h ≤ 49) : ∃ r c : Int, ((h < s ∧ c = 3) ∨ (s ≤ h ∧ c = 0 ∧ r + s = h)) ∧ 0 ≤ r ∧ r ≤ 49 ∧
    ∀ W : World, Calls Try.prog 50 #[.int .i64 s, .int .i64 5, .int .i64 h] W fun e w' => e = .returned (.tuple #[.int .i64 r, .int .i64 c]) ∧ Below W.heap.size W w' := by
  have e : latest s 5 h = if h < s then (0, 3) else (h - s, 0) := by
    unfold latest
    rw [inB_yes (by omega) (by omega), inB_yes (by omega) (by omega), inB_yes (by omega) (by omega)]
    rfl
  by_cases c : h < s
  · rw [if_pos c] at e
    exact ⟨0, 3, .inl ⟨c, rfl⟩, by omega, by omega, fun W => by have := latest_i s 5 h W; rw [e] at this; exact this⟩
  · rw [if_neg c] at e
    exact ⟨h - s, 0, .inr ⟨by omega, rfl, by omega⟩, by omega, by omega, fun W => by have := latest_i s 5 h W; rw [e] at this; exact this⟩

set_option maxHeartbeats 16000000 in
set_option maxRecDepth 100000 in
theorem supple_walk (A : Option Addr) (n c : Nat) (X : Nat → Int) (A2 : Option Addr) (m c2 : Nat) (X2 : Nat → Int) (w : World) (hn : n ≤ 3000) (hm : m ≤ 3000) (hX : Sb w A n X) (hX2 : Sb w A2 m X2) :
    Calls Try.prog 12 #[.slice A n c, .slice A2 m c2] w fun e w' => e = .returned (.bool true) ∧ Below w.heap.size w w' := by
  have HX := Lib.hid hX
  have HX2 := Lib.hid hX2
  clear hX hX2
  go_enter Try.func12, Try.ntmps12
  go_wp2_with fail
  refine (long_b A A2 n m c c2 _ hn hm).mono ?_
  rintro e w1 ⟨rfl, b1⟩
  go_wp2_with fail
  refine (a2Bat_c A n c X _ hn (HX.out.below b1 (Nat.le_refl _))).mono ?_
  rintro e w2 ⟨B, k, d, Y, rfl, hk, hd, hd2, hsm, hrow, hb2⟩
  have b2 := b1.trans (hb2.mono b1.size)
  have SL := Lib.hid hrow.sl
  have SM := Lib.hid hsm
  clear hsm hrow hb2 b1
  go_wp2_with fail
  refine (at_b A2 m c2 X2 0 12 11 _ hm (by omega) (by omega) (by omega) (HX2.out.below b2 (Nat.le_refl _))).mono ?_
  rintro e w3 ⟨u, rfl, u0, u1, hb3⟩
  have b3 := b2.trans (hb3.mono b2.size)
  have g3 := hb3
  obtain ⟨bv, bs, bc, hbc, hbest⟩ := best_any B k d Y hk SM.out
  have HBC := Lib.hid hbc
  clear hbc hb3
  go_wp2_with fail
  refine (hbest _ (SL.out.below g3 (Nat.le_refl _))).mono ?_
  rintro e w4 ⟨rfl, hb4⟩
  have b4 := b3.trans (hb4.mono b3.size)
  have g4 := g3.trans (hb4.mono g3.size)
  clear hb4 hbest
  go_wp2_with fail
  refine (Go.Proofs.Ytcpaenmhnoagdac.ag.hours_i B k d Y (1 + u) _ (by unfold maxLen; omega) (SL.out.below g4 (Nat.le_refl _)) (small_list SM.out (by omega)) (inB_yes (by omega) (by omega))).mono ?_
  rintro e w5 ⟨rfl, hb5⟩
  have b5 := b4.trans (hb5.mono b4.size)
  have g5 := g4.trans (hb5.mono g4.size)
  rw [small_hrs SM.out (by omega)]
  have HB5 := Lib.hid b5
  have HG5 := Lib.hid g5
  clear hb5 b2 b3 b4 b5 g3 g4 g5
  go_wp2_with fail
  go_loopw [15, 12, 13, 14] (fun h cnt gr fi wr => ∃ (x : Nat) (f g : Int), x ≤ 60 ∧ h = .int .i64 x ∧ cnt = .int .i64 (hrs Y k (1 + u) x) ∧ gr = .int .i64 g ∧ fi = .int .i64 f ∧ GF Y k x f g ∧ Below w.heap.size w wr ∧ Below w2.heap.size w2 wr) (fun h _ _ _ _ => 60 - (intOf h).toNat)
  case atStart => exact ⟨0, -1, 0, by omega, rfl, rfl, rfl, rfl, .inl ⟨rfl, rfl, fun x h0 h1 => by omega⟩, HB5.out, HG5.out⟩
  case round =>
    obtain ⟨x, f, g, hx, rfl, rfl, rfl, rfl, hgf, hd, hg⟩ := hrel
    have hzz := hd.size
    have hz2 := hg.size
    have HD := Lib.hid hd
    have HG := Lib.hid hg
    have HF := Lib.hid hgf
    have hge := hgf.ge
    have hbd := hrs_bd (X := Y) (n := k) (b := 1 + u) x
    clear hd hg hgf
    by_cases hlt : x < 60
    · have hlt' : (x : Int) < 60 := by omega
      have hx0 : (0 : Int) ≤ (x : Int) := by omega
      have bd := load_bd (m := 1) (h := (x : Int)) (small_all SM.out)
      have HL := Lib.hid (show hrs Y k (1 + u) (x + 1) = hrs Y k (1 + u) x + (if 1 + u ≤ rod.load 1 Y k x then 1 else 0) from rfl)
      go_wp2_with fail
      refine (supple_i B k d Y x _ (by unfold maxLen; omega) (SL.out.below HG.out (Nat.le_refl _)) (small_list SM.out (by omega)) (inB_yes (by omega) (by omega))).mono ?_
      rintro e w6 ⟨rfl, hb6⟩
      have z6 := hb6.size
      have G6 := Lib.hid (HG.out.trans (hb6.mono hz2))
      have D6 := Lib.hid (HD.out.trans (hb6.mono hzz))
      clear hb6
      go_wp2_with fail
      go_loopw [19, 18] (fun s t wi => ∃ i : Nat, i ≤ k ∧ s = .int .i64 i ∧ t = .int .i64 (rod.load 1 Y i x) ∧ Below w.heap.size w wi ∧ Below w2.heap.size w2 wi) (fun s _ _ => k - (intOf s).toNat)
      case atStart => exact ⟨0, by omega, rfl, rfl, D6.out, G6.out⟩
      case round =>
        obtain ⟨i, hi, rfl, rfl, hd6, hg6⟩ := hrel
        have HI := Lib.hid hg6
        have HJ := Lib.hid hd6
        clear hd6 hg6
        by_cases hil : i < k
        · have hil' : (i : Int) < (k : Int) := by omega
          have hi0 : (0 : Int) ≤ (i : Int) := by omega
          obtain ⟨b0, o0, rfl, hb0, hX0⟩ := SL.out (by omega)
          have p0 := hX0.below HI.out hb0 (i * 4) (by omega)
          have p1 := hX0.below HI.out hb0 (i * 4 + 1) (by omega)
          have p2 := hX0.below HI.out hb0 (i * 4 + 2) (by omega)
          have p3 := hX0.below HI.out hb0 (i * 4 + 3) (by omega)
          simp only [← Nat.add_assoc] at p1 p2 p3
          clear hX0
          obtain ⟨v1, v2, v3, v4, v5, v6, v7, v8⟩ := allT_bd (small_all SM.out) hil
          have bdi := load_bd (m := 1) (h := (x : Int)) (allT_le (m := i) (by omega) (small_all SM.out))
          have HL2 := Lib.hid (show rod.load 1 Y (i + 1) x = rod.load 1 Y i x + (if atT 1 Y i x = true then Y (i * 4 + 3) else 0) from rfl)
          generalize rod.load 1 Y i x = l0 at *
          cases hp : atT 1 Y i x
          · have HL3 := Lib.hid (show rod.load 1 Y (i + 1) x = l0 by rw [HL2.out, hp]; simp)
            unfold atT fstT endT at hp
            simp only [decide_eq_false_iff_not] at hp
            have hq : (x : Int) < Y (i * 4) + Y (i * 4 + 1) ∨ (Y (i * 4) + Y (i * 4 + 1) ≤ (x : Int) ∧ Y (i * 4) + Y (i * 4 + 1) + Y (i * 4 + 2) ≤ (x : Int)) := by simp at hp; omega
            clear hp HL2
            rcases hq with q1 | ⟨q1, q2⟩
            · go_wp2_with fail
              go_quiet (fail)
              go_wp2
              go_roundw
              case rel => exact ⟨i + 1, by omega, by go_num, by rw [HL3.out], drewN_below HJ.out _, drewN_below HI.out _⟩
              case measure => simp [intOf]; omega
            · go_wp2_with fail
              go_quiet (fail)
              go_wp2
              go_roundw
              case rel => exact ⟨i + 1, by omega, by go_num, by rw [HL3.out], drewN_below HJ.out _, drewN_below HI.out _⟩
              case measure => simp [intOf]; omega
          · have HL3 := Lib.hid (show rod.load 1 Y (i + 1) x = l0 + Y (i * 4 + 3) by rw [HL2.out, hp]; simp)
            unfold atT fstT endT at hp
            have hq : Y (i * 4) + Y (i * 4 + 1) ≤ (x : Int) ∧ (x : Int) < Y (i * 4) + Y (i * 4 + 1) + Y (i * 4 + 2) := by simp at hp; omega
            obtain ⟨q1, q2⟩ := hq
            clear hp HL2
            go_wp2_with fail
            go_quiet (fail)
            go_wp2
            go_roundw
            case rel => exact ⟨i + 1, by omega, by go_num, by rw [HL3.out], drewN_below HJ.out _, drewN_below HI.out _⟩
            case measure => simp [intOf]; omega
        · obtain rfl : i = k := by omega
          have MORE := Lib.hid (fun q => HF.out.more q)
          have SAME := Lib.hid (fun q => HF.out.same q)
          generalize rod.load 1 Y i x = l0 at *
          generalize hrs Y i (1 + u) x = h0 at *
          by_cases c1 : 1 + u ≤ l0
          · have HN := Lib.hid (show hrs Y i (1 + u) (x + 1) = h0 + 1 by rw [HL.out, if_pos c1])
            by_cases c2 : g < l0
            · have HQ := Lib.hid (MORE.out c2)
              go_wp2
              go_roundw
              case rel => exact ⟨x + 1, _, _, by omega, by go_num, by rw [HN.out], rfl, rfl, HQ.out, HJ.out, HI.out⟩
              case measure => simp [intOf]; omega
            · have HQ := Lib.hid (SAME.out c2)
              go_wp2
              go_roundw
              case rel => exact ⟨x + 1, _, _, by omega, by go_num, by rw [HN.out], rfl, rfl, HQ.out, HJ.out, HI.out⟩
              case measure => simp [intOf]; omega
          · have HN := Lib.hid (show hrs Y i (1 + u) (x + 1) = h0 by rw [HL.out, if_neg c1]; omega)
            by_cases c2 : g < l0
            · have HQ := Lib.hid (MORE.out c2)
              go_wp2
              go_roundw
              case rel => exact ⟨x + 1, _, _, by omega, by go_num, by rw [HN.out], rfl, rfl, HQ.out, HJ.out, HI.out⟩
              case measure => simp [intOf]; omega
            · have HQ := Lib.hid (SAME.out c2)
              go_wp2
              go_roundw
              case rel => exact ⟨x + 1, _, _, by omega, by go_num, by rw [HN.out], rfl, rfl, HQ.out, HJ.out, HI.out⟩
              case measure => simp [intOf]; omega
    · obtain rfl : x = 60 := by omega
      have hx60 : ((60 : Nat) : Int) = 60 := rfl
      go_wp2_with fail
      refine (at_b A2 m c2 X2 1 30 29 _ hm (by omega) (by omega) (by omega) (HX2.out.below HD.out (Nat.le_refl _))).mono ?_
      rintro e w7 ⟨s, rfl, s0, s1, hb7⟩
      have D7 := Lib.hid (HD.out.trans (hb7.mono hzz))
      clear hb7
      go_wp2_with fail
      refine (at_b A2 m c2 X2 2 50 49 _ hm (by omega) (by omega) (by omega) (HX2.out.below D7.out (Nat.le_refl _))).mono ?_
      rintro e w8 ⟨h, rfl, h0, h1, hb8⟩
      have D8 := Lib.hid (D7.out.trans (hb8.mono D7.out.size))
      clear hb8
      obtain ⟨r, lc, hlc, r0, r1, hlat⟩ := latest_any (1 + s) h (by omega) (by omega) h0 h1
      go_wp2_with fail
      refine (hlat _).mono ?_
      rintro e w9 ⟨rfl, hb9⟩
      have D9 := Lib.hid (D8.out.trans (hb9.mono D8.out.size))
      clear hb9 hlat
      rcases HF.out.done SM.out with ⟨f0, rfl⟩ | ⟨f0, k0, hbh⟩
      · rcases HBC.out with ⟨_, rfl⟩ | ⟨hk0, _⟩
        · clear HF HBC
          rcases hlc with ⟨l1, rfl⟩ | ⟨l1, rfl, l2⟩
          · go_wp2
            go_ret
            exact ⟨rfl, D9.out⟩
          · go_wp2
            go_ret
            exact ⟨rfl, D9.out⟩
        · omega
      · rcases HBC.out with ⟨hk0, _⟩ | ⟨_, rfl, hb⟩
        · omega
        · obtain ⟨rfl, rfl⟩ := hb.uniq hbh
          clear HF HBC
          rcases hlc with ⟨l1, rfl⟩ | ⟨l1, rfl, l2⟩
          · go_wp2
            go_ret
            exact ⟨rfl, D9.out⟩
          · go_wp2
            go_ret
            exact ⟨rfl, D9.out⟩
end Go.Proofs.Ytcpaenmhnoagdac.src
