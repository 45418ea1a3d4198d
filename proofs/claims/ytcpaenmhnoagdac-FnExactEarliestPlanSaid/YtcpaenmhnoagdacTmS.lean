/-
  The model's first hour with too many bundles, hours with enough, hour with the most.
-/
import Derived.Test.YtcpaenmhnoagdacTank
import Derived.Test.YtcpaenmhnoagdacFtm
namespace Go.Proofs.Ytcpaenmhnoagdac.rod
open Go.ChangeShapes Go.WideShapes Go.ChangeAt Go.RowKit Go.Proofs.Ytcpaenmhnoagdac.mem
set_option linter.unusedVariables false

theorem room_s (A : Option Addr) (n c : Nat) (X : Nat → Int) (room code : Int) (w : World) (hn : n ≤ maxLen) (hr : Sl w A n 4 X)
    (hc : listT n X = false ∧ code = 1 ∨ listT n X = true ∧ inB room 0 100 = false ∧ code = 2 ∨ listT n X = true ∧ inB room 0 100 = true ∧ code = 0) :
    Calls Try.prog 93 #[.slice A n c, .int .i64 room] w fun e w' => e = .returned (.int .i64 code) ∧ Below w.heap.size w w' := by
  have HR := Lib.hid hr
  clear hr
  rcases hc with ⟨hv, rfl⟩ | ⟨hv, h1, rfl⟩ | ⟨hv, h1, rfl⟩
  all_goals
    go_enter Try.func93, Try.ntmps93
    go_wp2_with (first
      | (go_at_call 82; refine (okT_s A n c X _ hn HR.out).mono ?_; rintro e w1 ⟨rfl, b1⟩)
      | (go_at_call 73; refine (in_s _ _ _ _).mono ?_; rintro e w' ⟨rfl, rfl⟩))
    go_ret
    exact ⟨rfl, b1⟩

set_option maxHeartbeats 4000000 in
set_option maxRecDepth 100000 in
theorem tooMany_s (A : Option Addr) (n c : Nat) (X : Nat → Int) (room v code : Int) (w : World) (hn : n ≤ maxLen) (hr : Sl w A n 4 X) (hv : listT n X = true) (h1 : inB room 0 100 = true) (hft : FT X n room v code) :
    Calls Try.prog 37 #[.slice A n c, .int .i64 room] w fun e w' => e = .returned (.tuple #[.int .i64 v, .int .i64 code]) ∧ Below w.heap.size w w' := by
  have hn10 := (listT_of hv).1
  have hva := (listT_of hv).2
  have HR := Lib.hid hr
  have hr0 := (inB_of h1).1
  clear hr
  go_enter Try.func37, Try.ntmps37
  go_wp2_with (go_at_call 93; refine (room_s A n c X room 0 _ hn HR.out (.inr (.inr ⟨hv, h1, rfl⟩))).mono ?_; rintro e w1 ⟨rfl, b1⟩)
  have B1 := Lib.hid b1
  clear b1
  go_loopw [8, 7] (fun s t wr => ∃ (k : Nat) (f : Int), k ≤ n ∧ s = .int .i64 k ∧ t = .int .i64 f ∧ FTs X n k room f ∧ Below w.heap.size w wr) (fun s _ _ => n - (intOf s).toNat)
  case atStart => exact ⟨0, -1, by omega, rfl, rfl, .inl ⟨rfl, fun i hi => absurd hi (by omega)⟩, B1.out⟩
  case round =>
    obtain ⟨k, f, hk, rfl, rfl, hf, hd⟩ := hrel
    have hzz := hd.size
    have HD := Lib.hid hd
    have HF := Lib.hid hf
    have hge := hf.ge
    clear hd hf
    by_cases hlt : k < n
    · have hlt' : (k : Int) < (n : Int) := by omega
      have hk0 : (0 : Int) ≤ (k : Int) := by omega
      obtain ⟨b, o, rfl, hb, hX⟩ := HR.out (by omega)
      have p0 := hX.below HD.out hb (k * 4) (by omega)
      have p1 := hX.below HD.out hb (k * 4 + 1) (by omega)
      simp only [← Nat.add_assoc] at p1
      clear hX
      obtain ⟨v1, v2, v3, v4, v5, v6, v7, v8⟩ := allT_bd hva hlt
      have HS := Lib.hid (HR.out.below HD.out (Nat.le_refl _))
      have hcall : ∀ W, Sl W (some ⟨b, o, none⟩) n 4 X → Calls Try.prog 88 #[.slice (some ⟨b, o, none⟩) n c, .int .i64 (X (k * 4))] W fun e w' => e = .returned (.int .i64 (load 0 X n (X (k * 4)))) ∧ Below W.heap.size W w' := fun W hW => loadIn_s _ n c X _ W hW hn10 hva
      have HC := Lib.hid hcall
      have TK := Lib.hid (fun q1 q2 => HF.out.take v1 q1 q2)
      have NO := Lib.hid (fun q1 => HF.out.no q1)
      have KP := Lib.hid (fun q1 q2 => HF.out.keep q1 q2)
      have bd := load_bd (m := 0) (h := X (k * 4)) hva
      generalize load 0 X n (X (k * 4)) = l0 at *
      by_cases c1 : room < l0
      · by_cases c2 : f < 0
        · have HN := Lib.hid (TK.out c1 (.inl c2))
          go_wp2_with (go_at_call 88; refine (HC.out _ (by first | exact HS.out | exact HS.out.below (by go_grown) (Nat.le_refl _))).mono ?_; rintro e w2 ⟨rfl, b2⟩; have g2 := Below.trans HD.out (b2.mono hzz); clear b2)
          go_roundw
          case rel => exact ⟨k + 1, _, by omega, by go_num, rfl, HN.out, g2⟩
          case measure => simp [intOf]; omega
        · by_cases c3 : X (k * 4) < f
          · have HN := Lib.hid (TK.out c1 (.inr c3))
            go_wp2_with (go_at_call 88; refine (HC.out _ (by first | exact HS.out | exact HS.out.below (by go_grown) (Nat.le_refl _))).mono ?_; rintro e w2 ⟨rfl, b2⟩; have g2 := Below.trans HD.out (b2.mono hzz); clear b2)
            go_roundw
            case rel => exact ⟨k + 1, _, by omega, by go_num, rfl, HN.out, g2⟩
            case measure => simp [intOf]; omega
          · have HN := Lib.hid (KP.out (by omega) c3)
            go_wp2_with (go_at_call 88; refine (HC.out _ (by first | exact HS.out | exact HS.out.below (by go_grown) (Nat.le_refl _))).mono ?_; rintro e w2 ⟨rfl, b2⟩; have g2 := Below.trans HD.out (b2.mono hzz); clear b2)
            go_roundw
            case rel => exact ⟨k + 1, _, by omega, by go_num, rfl, HN.out, g2⟩
            case measure => simp [intOf]; omega
      · have HN := Lib.hid (NO.out c1)
        go_wp2_with (go_at_call 88; refine (HC.out _ (by first | exact HS.out | exact HS.out.below (by go_grown) (Nat.le_refl _))).mono ?_; rintro e w2 ⟨rfl, b2⟩; have g2 := Below.trans HD.out (b2.mono hzz); clear b2)
        go_roundw
        case rel => exact ⟨k + 1, _, by omega, by go_num, rfl, HN.out, g2⟩
        case measure => simp [intOf]; omega
    · obtain rfl : k = n := by omega
      rcases HF.out.done hva hr0 with ⟨h0, hk2⟩ | ⟨h0, hk2⟩
      · obtain ⟨rfl, rfl⟩ := hft.uniq hk2
        clear hft hk2
        go_wp2
        go_ret2
        exact ⟨rfl, HD.out⟩
      · obtain ⟨rfl, rfl⟩ := hft.uniq hk2
        clear hft hk2
        go_wp2
        go_ret2
        exact ⟨rfl, HD.out⟩

theorem tooMany_s_no (A : Option Addr) (n c : Nat) (X : Nat → Int) (room code : Int) (w : World) (hn : n ≤ maxLen) (hr : Sl w A n 4 X)
    (hv : listT n X = false ∧ code = 1 ∨ listT n X = true ∧ inB room 0 100 = false ∧ code = 2) :
    Calls Try.prog 37 #[.slice A n c, .int .i64 room] w fun e w' => e = .returned (.tuple #[.int .i64 0, .int .i64 code]) ∧ Below w.heap.size w w' := by
  have HR := Lib.hid hr
  have hq : code ≠ 0 := by rcases hv with ⟨_, h⟩ | ⟨_, _, h⟩ <;> omega
  have HQ := Lib.hid (show listT n X = false ∧ code = 1 ∨ listT n X = true ∧ inB room 0 100 = false ∧ code = 2 ∨ listT n X = true ∧ inB room 0 100 = true ∧ code = 0 from by rcases hv with h | h; exact .inl h; exact .inr (.inl h))
  have h12 : code = 1 ∨ code = 2 := by rcases hv with ⟨_, h⟩ | ⟨_, _, h⟩ <;> omega
  clear hr hv
  rcases h12 with rfl | rfl
  all_goals
    go_enter Try.func37, Try.ntmps37
    go_wp2_with (go_at_call 93; refine (room_s A n c X room _ _ hn HR.out HQ.out).mono ?_; rintro e w1 ⟨rfl, b1⟩)
    go_ret2
    exact ⟨rfl, b1⟩

set_option maxHeartbeats 4000000 in
set_option maxRecDepth 100000 in
theorem hours_s2 (A : Option Addr) (n c : Nat) (X : Nat → Int) (b : Int) (w : World) (hn : n ≤ maxLen) (hr : Sl w A n 4 X) (hv : listT n X = true) (h1 : inB b 1 1000 = true) :
    Calls Try.prog 43 #[.slice A n c, .int .i64 b] w fun e w' => e = .returned (.tuple #[.int .i64 (hrs X n b 6001), .int .i64 0]) ∧ Below w.heap.size w w' := by
  have hn10 := (listT_of hv).1
  have hva := (listT_of hv).2
  have HR := Lib.hid hr
  clear hr
  go_enter Try.func43, Try.ntmps43
  go_wp2_with (first
    | (go_at_call 82; refine (okT_s A n c X _ hn HR.out).mono ?_; rintro e w1 ⟨rfl, b1⟩)
    | (go_at_call 73; refine (in_s _ _ _ _).mono ?_; rintro e w' ⟨rfl, rfl⟩))
  have B1 := Lib.hid b1
  clear b1
  go_loopw [7, 6] (fun s t wr => ∃ (k : Nat), k ≤ 6001 ∧ s = .int .i64 k ∧ t = .int .i64 (hrs X n b k) ∧ Below w.heap.size w wr) (fun s _ _ => 6001 - (intOf s).toNat)
  case atStart => exact ⟨0, by omega, rfl, rfl, B1.out⟩
  case round =>
    obtain ⟨k, hk, rfl, rfl, hd⟩ := hrel
    have hzz := hd.size
    have HD := Lib.hid hd
    clear hd
    by_cases hlt : k ≤ 6000
    · have hlt' : (k : Int) ≤ 6000 := by omega
      have hk0 : (0 : Int) ≤ (k : Int) := by omega
      have HS := Lib.hid (HR.out.below HD.out (Nat.le_refl _))
      have hbk := hrs_bd (X := X) (n := n) (b := b) k
      have HL := Lib.hid (show hrs X n b (k + 1) = hrs X n b k + (if b ≤ load 1 X n k then 1 else 0) from rfl)
      have HC := Lib.hid (loadSup_s A n c X k wr HS.out hn10 hva)
      generalize hrs X n b k = h0 at *
      generalize load 1 X n k = l0 at *
      by_cases c1 : b ≤ l0
      · have HN := Lib.hid (show hrs X n b (k + 1) = h0 + 1 by rw [HL.out, if_pos c1])
        clear HL
        go_wp2_with (go_at_call 91; refine (HC.out).mono ?_; rintro e w2 ⟨rfl, b2⟩; have g2 := Below.trans HD.out (b2.mono hzz); clear b2)
        go_roundw
        case rel => exact ⟨k + 1, by omega, by go_num, by rw [HN.out], g2⟩
        case measure => simp [intOf]; omega
      · have HN := Lib.hid (show hrs X n b (k + 1) = h0 by rw [HL.out, if_neg c1]; omega)
        clear HL
        go_wp2_with (go_at_call 91; refine (HC.out).mono ?_; rintro e w2 ⟨rfl, b2⟩; have g2 := Below.trans HD.out (b2.mono hzz); clear b2)
        go_roundw
        case rel => exact ⟨k + 1, by omega, by go_num, by rw [HN.out], g2⟩
        case measure => simp [intOf]; omega
    · obtain rfl : k = 6001 := by omega
      go_wp2
      go_ret2
      exact ⟨rfl, HD.out⟩

set_option maxHeartbeats 4000000 in
theorem hours_s2_no (A : Option Addr) (n c : Nat) (X : Nat → Int) (b code : Int) (w : World) (hn : n ≤ maxLen) (hr : Sl w A n 4 X)
    (hv : listT n X = false ∧ code = 1 ∨ listT n X = true ∧ inB b 1 1000 = false ∧ code = 2) :
    Calls Try.prog 43 #[.slice A n c, .int .i64 b] w fun e w' => e = .returned (.tuple #[.int .i64 0, .int .i64 code]) ∧ Below w.heap.size w w' := by
  have HR := Lib.hid hr
  clear hr
  rcases hv with ⟨hv, rfl⟩ | ⟨hv, h1, rfl⟩
  all_goals
    go_enter Try.func43, Try.ntmps43
    go_wp2_with (first
      | (go_at_call 82; refine (okT_s A n c X _ hn HR.out).mono ?_; rintro e w1 ⟨rfl, b1⟩)
      | (go_at_call 73; refine (in_s _ _ _ _).mono ?_; rintro e w' ⟨rfl, rfl⟩))
    go_ret2
    exact ⟨rfl, b1⟩

set_option maxHeartbeats 4000000 in
set_option maxRecDepth 100000 in
theorem best_s (A : Option Addr) (n c : Nat) (X : Nat → Int) (v s : Int) (w : World) (hn : n ≤ maxLen) (hr : Sl w A n 4 X) (hv : listT n X = true) (hn0 : 0 < n) (hbh : BH X n v s) :
    Calls Try.prog 45 #[.slice A n c] w fun e w' => e = .returned (.tuple #[.int .i64 v, .int .i64 s, .int .i64 0]) ∧ Below w.heap.size w w' := by
  have hn10 := (listT_of hv).1
  have hva := (listT_of hv).2
  have HR := Lib.hid hr
  clear hr
  go_enter Try.func45, Try.ntmps45
  go_wp2_with (go_at_call 82; refine (okT_s A n c X _ hn HR.out).mono ?_; rintro e w1 ⟨rfl, b1⟩)
  have B1 := Lib.hid b1
  clear b1
  go_loopw [7, 5, 6] (fun x y z wr => ∃ (k : Nat) (f t : Int), k ≤ n ∧ x = .int .i64 k ∧ y = .int .i64 f ∧ z = .int .i64 t ∧ BHs X n k f t ∧ Below w.heap.size w wr) (fun x _ _ _ => n - (intOf x).toNat)
  case atStart => exact ⟨0, -1, 0, by omega, rfl, rfl, rfl, .inl ⟨rfl, rfl, rfl⟩, B1.out⟩
  case round =>
    obtain ⟨k, f, t, hk, rfl, rfl, rfl, hf, hd⟩ := hrel
    have hzz := hd.size
    have HD := Lib.hid hd
    have HF := Lib.hid hf
    clear hd hf
    by_cases hlt : k < n
    · have hlt' : (k : Int) < (n : Int) := by omega
      have hk0 : (0 : Int) ≤ (k : Int) := by omega
      obtain ⟨b, o, rfl, hb, hX⟩ := HR.out (by omega)
      have p0 := hX.below HD.out hb (k * 4) (by omega)
      have p1 := hX.below HD.out hb (k * 4 + 1) (by omega)
      simp only [← Nat.add_assoc] at p1
      clear hX
      obtain ⟨v1, v2, v3, v4, v5, v6, v7, v8⟩ := allT_bd hva hlt
      have HS := Lib.hid (HR.out.below HD.out (Nat.le_refl _))
      have hcall : ∀ m, Calls Try.prog 91 #[.slice (some ⟨b, o, none⟩) n c, .int .i64 (X (k * 4) + X (k * 4 + 1))] (wr.drewN m) fun e w' => e = .returned (.int .i64 (load 1 X n (fstT 1 X k))) ∧ Below wr.heap.size wr w' := fun m => (loadSup_s _ n c X _ (wr.drewN m) (by exact HS.out) hn10 hva).mono fun e w' h => ⟨h.1, Below.trans (drewN_below (Below.refl _ _) m) h.2⟩
      have HC := Lib.hid hcall
      have TK := Lib.hid (fun q => HF.out.take hva hlt q)
      have KP := Lib.hid (fun q1 q2 => HF.out.keep hva hlt q1 q2)
      have he : fstT 1 X k = X (k * 4) + X (k * 4 + 1) := rfl
      have bd := load_bd (m := 1) (h := fstT 1 X k) hva
      generalize load 1 X n (fstT 1 X k) = l0 at *
      rw [he] at TK KP
      clear hcall he
      by_cases c1 : t < l0
      · have HN := Lib.hid (TK.out (.inl c1))
        go_wp2_with fail
        go_quiet (fail)
        go_wp2_with (go_at_call 91; refine (HC.out _).mono ?_; rintro e w2 ⟨rfl, b2⟩; have g2 := Below.trans HD.out (b2.mono hzz); clear b2)
        go_roundw
        case rel => exact ⟨k + 1, _, _, by omega, by go_num, rfl, rfl, HN.out, g2⟩
        case measure => simp [intOf]; omega
      · by_cases c2 : l0 = t
        · by_cases c3 : X (k * 4) + X (k * 4 + 1) < f
          · have HN := Lib.hid (TK.out (.inr ⟨c2, c3⟩))
            go_wp2_with fail
            go_quiet (fail)
            go_wp2_with (go_at_call 91; refine (HC.out _).mono ?_; rintro e w2 ⟨rfl, b2⟩; have g2 := Below.trans HD.out (b2.mono hzz); clear b2)
            go_roundw
            case rel => exact ⟨k + 1, _, _, by omega, by go_num, rfl, rfl, by have h := HN.out; rw [c2] at h; exact h, g2⟩
            case measure => simp [intOf]; omega
          · have HN := Lib.hid (KP.out c1 (fun _ => c3))
            go_wp2_with fail
            go_quiet (fail)
            go_wp2_with (go_at_call 91; refine (HC.out _).mono ?_; rintro e w2 ⟨rfl, b2⟩; have g2 := Below.trans HD.out (b2.mono hzz); clear b2)
            go_roundw
            case rel => exact ⟨k + 1, _, _, by omega, by go_num, rfl, rfl, HN.out, g2⟩
            case measure => simp [intOf]; omega
        · have HN := Lib.hid (KP.out c1 (fun q => absurd q c2))
          go_wp2_with fail
          go_quiet (fail)
          go_wp2_with (go_at_call 91; refine (HC.out _).mono ?_; rintro e w2 ⟨rfl, b2⟩; have g2 := Below.trans HD.out (b2.mono hzz); clear b2)
          go_roundw
          case rel => exact ⟨k + 1, _, _, by omega, by go_num, rfl, rfl, HN.out, g2⟩
          case measure => simp [intOf]; omega
    · obtain rfl : k = n := by omega
      obtain ⟨rfl, rfl⟩ := hbh.uniq (HF.out.done hva hn0)
      have hv0 := hbh.1
      clear hbh
      go_wp2
      go_returns
      exact ⟨rfl, HD.out⟩

set_option maxHeartbeats 2000000 in
theorem best_s_no (A : Option Addr) (n c : Nat) (X : Nat → Int) (code : Int) (w : World) (hn : n ≤ maxLen) (hr : Sl w A n 4 X)
    (hv : listT n X = false ∧ code = 1 ∨ n = 0 ∧ code = 3) :
    Calls Try.prog 45 #[.slice A n c] w fun e w' => e = .returned (.tuple #[.int .i64 0, .int .i64 0, .int .i64 code]) ∧ Below w.heap.size w w' := by
  have HR := Lib.hid hr
  clear hr
  rcases hv with ⟨hv, rfl⟩ | ⟨rfl, rfl⟩
  · go_enter Try.func45, Try.ntmps45
    go_wp2_with (go_at_call 82; refine (okT_s A n c X _ hn HR.out).mono ?_; rintro e w1 ⟨rfl, b1⟩)
    go_returns
    exact ⟨rfl, b1⟩
  · have hv : listT 0 X = true := rfl
    go_enter Try.func45, Try.ntmps45
    go_wp2_with (go_at_call 82; refine (okT_s A 0 c X _ hn HR.out).mono ?_; rintro e w1 ⟨rfl, b1⟩)
    have B1 := Lib.hid b1
    clear b1
    go_loopw [7, 5, 6] (fun x y z wr => x = .int .i64 0 ∧ y = .int .i64 (-1) ∧ z = .int .i64 0 ∧ wr = w1) (fun x _ _ _ => 0)
    case atStart => exact ⟨rfl, rfl, rfl, rfl⟩
    case round =>
      obtain ⟨rfl, rfl, rfl, rfl⟩ := hrel
      go_wp2
      go_returns
      exact ⟨rfl, B1.out⟩
end Go.Proofs.Ytcpaenmhnoagdac.rod
