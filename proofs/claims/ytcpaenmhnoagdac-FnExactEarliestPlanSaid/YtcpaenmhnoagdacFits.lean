/-
  The model's test: is there room for a batch with others in front of it?
-/
import Derived.Test.YtcpaenmhnoagdacTank
import Derived.Test.YtcpaenmhnoagdacEs
namespace Go.Proofs.Ytcpaenmhnoagdac.rod
open Go.ChangeShapes Go.WideShapes Go.ChangeAt Go.RowKit Go.Proofs.Ytcpaenmhnoagdac.mem
set_option linter.unusedVariables false

set_option maxHeartbeats 2000000 in
theorem loadIn_q (A : Option Addr) (n c : Nat) (X : Nat → Int) (h : Int) (w : World) (hr : Sl w A n 4 X) (hn : n ≤ 10) (hv : allT X n = true) :
    Calls Try.prog 88 #[.slice A n c, .int .i64 h] w fun e w' => e = .returned (.int .i64 (load 0 X n h)) ∧ ∃ m, w' = w.drewN m := by
  have HR := Lib.hid hr
  have HV := Lib.hid hv
  clear hr hv
  go_enter Try.func88, Try.ntmps88
  go_wp2_with fail
  go_loopw [6, 5] (fun s t wr => ∃ k : Nat, k ≤ n ∧ s = .int .i64 k ∧ t = .int .i64 (load 0 X k h) ∧ Drew w wr) (fun s _ _ => n - (intOf s).toNat)
  case atStart => exact ⟨0, by omega, rfl, rfl, Drew.refl _⟩
  case round =>
    obtain ⟨k, hk, rfl, rfl, hd⟩ := hrel
    have HD := Lib.hid hd
    clear hd
    by_cases hlt : k < n
    · have hlt' : (k : Int) < (n : Int) := by omega
      have hk0 : (0 : Int) ≤ (k : Int) := by omega
      obtain ⟨b, o, rfl, hb, hX⟩ := HR.out (by omega)
      have p0 := HD.out.ints hX (k * 4) (by omega)
      have p1 := HD.out.ints hX (k * 4 + 1) (by omega)
      have p2 := HD.out.ints hX (k * 4 + 2) (by omega)
      have p3 := HD.out.ints hX (k * 4 + 3) (by omega)
      simp only [← Nat.add_assoc] at p1 p2 p3
      clear hX
      obtain ⟨v1, v2, v3, v4, v5, v6, v7, v8⟩ := allT_bd HV.out hlt
      have bd := load_bd (m := 0) (h := h) (allT_le (m := k) (by omega) HV.out)
      have hin : inB h (X (k * 4)) (X (k * 4) + X (k * 4 + 1) - 1) = atT 0 X k h := by unfold inB atT fstT endT; congr 1; exact propext ⟨fun q => by simp; omega, fun q => by simp at q; omega⟩
      have HL := Lib.hid (show load 0 X (k + 1) h = load 0 X k h + (if atT 0 X k h = true then X (k * 4 + 3) else 0) by rfl)
      generalize load 0 X k h = l0 at *
      cases hp : atT 0 X k h
      · rw [hp] at hin
        have HL2 := Lib.hid (show load 0 X (k + 1) h = l0 by rw [HL.out, hp]; simp)
        clear hp HL
        go_wp2_with fail
        go_quiet ((go_at_call 73; exact Calls.quiet_of_same ((in_s _ _ _ _).mono fun _ _ ⟨p, q⟩ => ⟨p.trans (by rw [hin]), q.symm⟩)))
        go_wp2
        go_roundw
        case rel => exact ⟨k + 1, by omega, by go_num, by rw [HL2.out], by first | exact HD.out | exact HD.out.drewN _⟩
        case measure => simp [intOf]; omega
      · rw [hp] at hin
        have HL2 := Lib.hid (show load 0 X (k + 1) h = l0 + X (k * 4 + 3) by rw [HL.out, hp]; simp)
        clear hp HL
        go_wp2_with fail
        go_quiet ((go_at_call 73; exact Calls.quiet_of_same ((in_s _ _ _ _).mono fun _ _ ⟨p, q⟩ => ⟨p.trans (by rw [hin]), q.symm⟩)))
        go_wp2
        go_roundw
        case rel => exact ⟨k + 1, by omega, by go_num, by rw [HL2.out], by first | exact HD.out | exact HD.out.drewN _⟩
        case measure => simp [intOf]; omega
    · obtain rfl : k = n := by omega
      go_wp2
      go_ret
      exact ⟨rfl, HD.out⟩

set_option maxHeartbeats 8000000 in
set_option maxRecDepth 100000 in
theorem fits_s (A : Option Addr) (n c : Nat) (Y : Nat → Int) (S K P B room : Int) (b : Bool) (w : World) (hn : n ≤ 10) (hr : Sl w A n 4 Y) (hv : allT Y n = true) (s0 : 0 ≤ S) (s1 : S ≤ 6000) (k0 : 1 ≤ K) (k1 : K ≤ 500) (c0 : 1 ≤ B) (c1 : B ≤ room) (c2 : room ≤ 100)
    (hb : (b = true ∧ Fit Y n S K B room) ∨ (b = false ∧ ¬ Fit Y n S K B room)) :
    Calls Try.prog 95 #[.slice A n c, .agg #[.int .i64 S, .int .i64 K, .int .i64 P, .int .i64 B], .int .i64 room] w fun e w' => e = .returned (.bool b) ∧ Below w.heap.size w w' := by
  have HR := Lib.hid hr
  have HV := Lib.hid hv
  have HB := Lib.hid hb
  have key : ∀ (h : Int) (W : World), Below w.heap.size w W → ∀ m, Calls Try.prog 88 #[.slice A n c, .int .i64 h] (W.drewN m) fun e w'' => e = .returned (.int .i64 (load 0 Y n h)) ∧ ∃ m', w'' = W.drewN m' := fun h W hW m => Calls.quiet_of (loadIn_q A n c Y h _ (hr.below (hW.trans (drewN_below (Below.refl _ _) m)) (Nat.le_refl _)) hn hv)
  have KEY := Lib.hid key
  have HBD := Lib.hid (fun h => load_bd (m := 0) (h := h) hv)
  have HNO := Lib.hid (show ∀ h, S ≤ h → h < S + K → ¬ load 0 Y n h + B ≤ room → b = false from fun h h0 h1 q => by
    rcases hb with ⟨_, f⟩ | ⟨f, _⟩
    · exact absurd (f h h0 h1) q
    · exact f)
  clear hr hv hb key
  go_enter Try.func95, Try.ntmps95
  have bd0 := HBD.out S
  have KS := Lib.hid (KEY.out S)
  have NS := Lib.hid (HNO.out S (Int.le_refl _) (by omega))
  have FS := Lib.hid (fun q => fit_of (S := S) (K := K) HV.out c1 q)
  generalize load 0 Y n S = l0 at *
  by_cases d0 : room < l0 + B
  · obtain rfl := NS.out (by omega)
    go_wp2_with fail
    go_quiet ((go_at_call 88; exact KS.out _ (by go_grown) _))
    go_wp2
    go_ret
    exact ⟨rfl, drewN_below (Below.alloc (Below.refl _ _) (Nat.le_refl _) _) _⟩
  · go_wp2_with fail
    go_quiet ((go_at_call 88; exact KS.out _ (by go_grown) _))
    go_wp2_with fail
    go_loopw [7] (fun s wr => ∃ k : Nat, k ≤ n ∧ s = .int .i64 k ∧ (∀ j, j < k → S ≤ Y (j * 4) → Y (j * 4) ≤ S + K - 1 → load 0 Y n (Y (j * 4)) + B ≤ room) ∧ Below (w.heap.size + 1) (w.alloc (.cells #[.int .i64 S, .int .i64 K, .int .i64 P, .int .i64 B] 64)) wr) (fun s _ => n - (intOf s).toNat)
    case atStart => exact ⟨0, by omega, rfl, fun j hj => absurd hj (by omega), by first | exact Below.refl _ _ | exact drewN_below (Below.refl _ _) _⟩
    case round =>
      obtain ⟨k, hk, rfl, hj, hd⟩ := hrel
      have hzz := hd.size
      simp only [World.size_alloc] at hzz
      have HD := Lib.hid (show Below w.heap.size w wr from Below.trans (Below.alloc (Below.refl _ _) (Nat.le_refl _) _) (hd.mono (by omega)))
      have HE := Lib.hid hd
      have HJ := Lib.hid hj
      have q0 : wr.cell? ⟨w.heap.size, 0, none⟩ = some (.int .i64 S) := (hd.cell (p := ⟨w.heap.size, 0, none⟩) (by simp)).trans (by go_simp)
      have q1 : wr.cell? ⟨w.heap.size, 1, none⟩ = some (.int .i64 K) := (hd.cell (p := ⟨w.heap.size, 1, none⟩) (by simp)).trans (by go_simp)
      have q3 : wr.cell? ⟨w.heap.size, 3, none⟩ = some (.int .i64 B) := (hd.cell (p := ⟨w.heap.size, 3, none⟩) (by simp)).trans (by go_simp)
      clear hd hj
      by_cases hlt : k < n
      · have hlt' : (k : Int) < (n : Int) := by omega
        have hk0 : (0 : Int) ≤ (k : Int) := by omega
        obtain ⟨b0, o0, rfl, hb0, hX0⟩ := HR.out (by omega)
        have p0 := hX0.below HD.out hb0 (k * 4) (by omega)
        clear hX0
        obtain ⟨v1, v2, _⟩ := allT_bd HV.out hlt
        have bd1 := HBD.out (Y (k * 4))
        have KT := Lib.hid (KEY.out (Y (k * 4)) wr HD.out)
        have NT := Lib.hid (HNO.out (Y (k * 4)))
        have MORE := Lib.hid (show (S ≤ Y (k * 4) → Y (k * 4) ≤ S + K - 1 → load 0 Y n (Y (k * 4)) + B ≤ room) → ∀ j, j < k + 1 → S ≤ Y (j * 4) → Y (j * 4) ≤ S + K - 1 → load 0 Y n (Y (j * 4)) + B ≤ room from fun q j hj a b => by
          by_cases e : j = k
          · subst e; exact q a b
          · exact HJ.out j (by omega) a b)
        generalize load 0 Y n (Y (k * 4)) = l1 at *
        by_cases d1 : S ≤ Y (k * 4) ∧ Y (k * 4) ≤ S + K - 1
        · have hin : inB (Y (k * 4)) S (S + K - 1) = true := inB_yes d1.1 d1.2
          by_cases d2 : room < l1 + B
          · obtain rfl := NT.out d1.1 (by omega) (by omega)
            go_wp2_with fail
            go_quiet ((first
              | (go_at_call 73; exact Calls.quiet_of_same ((in_s _ _ _ _).mono fun _ _ ⟨p, q⟩ => ⟨p.trans (by rw [hin]), q.symm⟩))
              | (go_at_call 88; exact KT.out _)))
            go_wp2
            go_ret
            exact ⟨rfl, by first | exact HD.out | exact drewN_below HD.out _⟩
          · have HN := Lib.hid (MORE.out (fun _ _ => by omega))
            go_wp2_with fail
            go_quiet ((first
              | (go_at_call 73; exact Calls.quiet_of_same ((in_s _ _ _ _).mono fun _ _ ⟨p, q⟩ => ⟨p.trans (by rw [hin]), q.symm⟩))
              | (go_at_call 88; exact KT.out _)))
            go_wp2
            go_roundw
            case rel => exact ⟨k + 1, by omega, by go_num, HN.out, by first | exact HE.out | exact drewN_below HE.out _⟩
            case measure => simp [intOf]; omega
        · have hin : inB (Y (k * 4)) S (S + K - 1) = false := by unfold inB; simp; omega
          have HN := Lib.hid (MORE.out (fun a b => absurd ⟨a, b⟩ d1))
          go_wp2_with fail
          go_quiet ((first
            | (go_at_call 73; exact Calls.quiet_of_same ((in_s _ _ _ _).mono fun _ _ ⟨p, q⟩ => ⟨p.trans (by rw [hin]), q.symm⟩))
            | (go_at_call 88; exact KT.out _)))
          go_wp2
          go_roundw
          case rel => exact ⟨k + 1, by omega, by go_num, HN.out, by first | exact HE.out | exact drewN_below HE.out _⟩
          case measure => simp [intOf]; omega
      · obtain rfl : k = n := by omega
        obtain rfl : b = true := by
          rcases HB.out with ⟨h, _⟩ | ⟨_, h⟩
          · exact h
          · exact absurd (FS.out (by omega) HJ.out) h
        go_wp2
        go_ret
        exact ⟨rfl, HD.out⟩
end Go.Proofs.Ytcpaenmhnoagdac.rod
