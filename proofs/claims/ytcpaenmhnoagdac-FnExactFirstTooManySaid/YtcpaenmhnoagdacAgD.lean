/-
  The library's heap over the program's events: sifting down.
-/
import Derived.Test.YtcpaenmhnoagdacAgS
namespace Go.Proofs.Ytcpaenmhnoagdac.ag
open Go.ChangeShapes Go.WideShapes Go.ChangeAt Go.RowKit Go.Proofs.Ytcpaenmhnoagdac.mem Go.Proofs.Ytcpaenmhnoagdac.hp
set_option linter.unusedVariables false

set_option maxHeartbeats 16000000 in
set_option maxRecDepth 100000 in
theorem down_c (p g n cap i0 m : Nat) (a : Nat → Ev) (w : World) (h : Ag w p g n cap a) (hm : m ≤ n) (hn : n ≤ 1000) (hi : i0 ≤ m) (hd : Down a i0 i0 m) :
    Calls Try.prog 125 #[.iface 143 (.pointer (some ⟨p, 0, none⟩)), .int .i64 i0, .int .i64 m] w (Sifted w p g n cap i0 m a) := by
  have hnm : n ≤ maxLen := by unfold maxLen; omega
  have H := Lib.hid h
  have HD := Lib.hid hd
  clear h hd
  go_enter Try.func125, Try.ntmps125
  go_wp2_with fail
  go_loopw [7] (fun s wr => ∃ k : Nat, k ≤ m ∧ s = .int .i64 k ∧ Sifting w wr p g n cap i0 k m a) (fun s _ => m - (intOf s).toNat)
  case atStart => exact ⟨i0, hi, rfl, a, H.out, Sim.refl _ _, HD.out, Only.refl _ _ _⟩
  case round =>
    obtain ⟨k, hk, rfl, b, ha, hs, hdn, hon⟩ := hrel
    have S0 := Lib.hid ha
    have HS := Lib.hid hs
    have HN := Lib.hid hdn
    have ON := Lib.hid hon
    clear ha hs hdn hon
    have k0 : (0 : Int) ≤ (k : Int) := by omega
    have l2 : ¬ 2 * (k : Int) + 1 < 0 := by omega
    by_cases c1 : k * 2 + 1 < m
    · have l1 : ¬ (m : Int) ≤ 2 * (k : Int) + 1 := by omega
      obtain ⟨j1, hj1a, hj1b⟩ : ∃ j1, j1 ≤ k * 2 + 1 ∧ k * 2 + 1 ≤ j1 := ⟨_, Nat.le_refl _, Nat.le_refl _⟩
      obtain ⟨j2, hj2a, hj2b⟩ : ∃ j2, j2 ≤ k * 2 + 2 ∧ k * 2 + 2 ≤ j2 := ⟨_, Nat.le_refl _, Nat.le_refl _⟩
      have E1 := Lib.hid (show 2 * (k : Int) + 1 = (j1 : Int) by omega)
      have E2 := Lib.hid (show 2 * (k : Int) + 1 + 1 = (j2 : Int) by omega)
      have HC := Lib.hid (show ∀ c, 0 < c → c < m → (c - 1) / 2 = k → c = j1 ∨ c = j2 from fun c h0 h1 h2 => by omega)
      by_cases c2 : j2 < m
      · have l3 : 2 * (k : Int) + 1 + 1 < (m : Int) := by omega
        by_cases c4 : (b j2).1 < (b j1).1
        · have c4' : decide ((b j2).1 < (b j1).1) = true := by simpa using c4
          have MN := Lib.hid (show ∀ c, 0 < c → c < m → (c - 1) / 2 = k → (b j2).1 ≤ (b c).1 from fun c h0 h1 h2 => by rcases HC.out c h0 h1 h2 with e | e <;> subst e <;> omega)
          clear c4
          have Mx0 := m_less p _ wr S0.out.sl
          go_wp2_with fail
          rw [E2.out, E1.out]
          refine (less_v g n cap j2 j1 b _ hnm (by omega) (by omega) S0.out.own).mono ?_
          rintro e x0 ⟨rfl, dx0⟩
          have Sx0 := Lib.hid (S0.out.drew dx0)
          have Ox0 := Lib.hid (ON.out.drew dx0)
          clear Mx0 dx0
          by_cases c3 : (b j2).1 < (b k).1
          · have c3' : decide ((b j2).1 < (b k).1) = true := by simpa using c3
            have DN := Lib.hid (HN.out.step (j := j2) (by omega) (by omega) (by omega) c3 MN.out)
            clear c3
            have Mx1 := m_less p _ x0 Sx0.out.sl
            go_wp2_with fail
            try rw [E1.out]
            refine (less_v g n cap j2 k b _ hnm (by omega) (by omega) Sx0.out.own).mono ?_
            rintro e x1 ⟨rfl, dx1⟩
            have Sx1 := Lib.hid (Sx0.out.drew dx1)
            have Ox1 := Lib.hid (Ox0.out.drew dx1)
            clear Mx1 dx1
            have MS := m_swap p _ x1 Sx1.out.sl
            go_wp2_with fail
            refine (swap_v g n cap k j2 b _ hnm (by omega) (by omega) Sx1.out.own).mono ?_
            rintro e x2 ⟨⟨v, rfl⟩, ho, hw⟩
            have S2 := Lib.hid (Sx1.out.swapped ho hw)
            clear MS ho hw
            go_wp2
            go_roundw
            case rel => exact ⟨j2, by omega, by first | rfl | (congr 1; omega), _, S2.out.1, HS.out.trans (sim_swp b (by omega) (by omega)), DN.out, Ox1.out.trans S2.out.2⟩
            case measure => simp [intOf]; omega
          · have c3' : decide ((b j2).1 < (b k).1) = false := by simpa using c3
            have HP := Lib.hid (HN.out.stop (fun c h0 h1 h2 => Int.le_trans (Int.not_lt.1 c3) (MN.out c h0 h1 h2)))
            clear c3
            have Mx1 := m_less p _ x0 Sx0.out.sl
            go_wp2_with fail
            try rw [E1.out]
            refine (less_v g n cap j2 k b _ hnm (by omega) (by omega) Sx0.out.own).mono ?_
            rintro e x1 ⟨rfl, dx1⟩
            have Sx1 := Lib.hid (Sx0.out.drew dx1)
            have Ox1 := Lib.hid (Ox0.out.drew dx1)
            clear Mx1 dx1
            go_wp2
            go_ret
            exact ⟨⟨_, rfl⟩, _, Sx1.out, HS.out, HP.out, Ox1.out⟩
        · have c4' : decide ((b j2).1 < (b j1).1) = false := by simpa using c4
          have MN := Lib.hid (show ∀ c, 0 < c → c < m → (c - 1) / 2 = k → (b j1).1 ≤ (b c).1 from fun c h0 h1 h2 => by rcases HC.out c h0 h1 h2 with e | e <;> subst e <;> omega)
          clear c4
          have Mx0 := m_less p _ wr S0.out.sl
          go_wp2_with fail
          rw [E2.out, E1.out]
          refine (less_v g n cap j2 j1 b _ hnm (by omega) (by omega) S0.out.own).mono ?_
          rintro e x0 ⟨rfl, dx0⟩
          have Sx0 := Lib.hid (S0.out.drew dx0)
          have Ox0 := Lib.hid (ON.out.drew dx0)
          clear Mx0 dx0
          by_cases c3 : (b j1).1 < (b k).1
          · have c3' : decide ((b j1).1 < (b k).1) = true := by simpa using c3
            have DN := Lib.hid (HN.out.step (j := j1) (by omega) (by omega) (by omega) c3 MN.out)
            clear c3
            have Mx1 := m_less p _ x0 Sx0.out.sl
            go_wp2_with fail
            try rw [E1.out]
            refine (less_v g n cap j1 k b _ hnm (by omega) (by omega) Sx0.out.own).mono ?_
            rintro e x1 ⟨rfl, dx1⟩
            have Sx1 := Lib.hid (Sx0.out.drew dx1)
            have Ox1 := Lib.hid (Ox0.out.drew dx1)
            clear Mx1 dx1
            have MS := m_swap p _ x1 Sx1.out.sl
            go_wp2_with fail
            refine (swap_v g n cap k j1 b _ hnm (by omega) (by omega) Sx1.out.own).mono ?_
            rintro e x2 ⟨⟨v, rfl⟩, ho, hw⟩
            have S2 := Lib.hid (Sx1.out.swapped ho hw)
            clear MS ho hw
            go_wp2
            go_roundw
            case rel => exact ⟨j1, by omega, by first | rfl | (congr 1; omega), _, S2.out.1, HS.out.trans (sim_swp b (by omega) (by omega)), DN.out, Ox1.out.trans S2.out.2⟩
            case measure => simp [intOf]; omega
          · have c3' : decide ((b j1).1 < (b k).1) = false := by simpa using c3
            have HP := Lib.hid (HN.out.stop (fun c h0 h1 h2 => Int.le_trans (Int.not_lt.1 c3) (MN.out c h0 h1 h2)))
            clear c3
            have Mx1 := m_less p _ x0 Sx0.out.sl
            go_wp2_with fail
            try rw [E1.out]
            refine (less_v g n cap j1 k b _ hnm (by omega) (by omega) Sx0.out.own).mono ?_
            rintro e x1 ⟨rfl, dx1⟩
            have Sx1 := Lib.hid (Sx0.out.drew dx1)
            have Ox1 := Lib.hid (Ox0.out.drew dx1)
            clear Mx1 dx1
            go_wp2
            go_ret
            exact ⟨⟨_, rfl⟩, _, Sx1.out, HS.out, HP.out, Ox1.out⟩
      · have l3 : ¬ 2 * (k : Int) + 1 + 1 < (m : Int) := by omega
        have MN := Lib.hid (show ∀ c, 0 < c → c < m → (c - 1) / 2 = k → (b j1).1 ≤ (b c).1 from fun c h0 h1 h2 => by rcases HC.out c h0 h1 h2 with e | e <;> subst e <;> omega)
        have Swr := Lib.hid S0.out
        have Owr := Lib.hid ON.out
        by_cases c3 : (b j1).1 < (b k).1
        · have c3' : decide ((b j1).1 < (b k).1) = true := by simpa using c3
          have DN := Lib.hid (HN.out.step (j := j1) (by omega) (by omega) (by omega) c3 MN.out)
          clear c3
          have Mx1 := m_less p _ wr Swr.out.sl
          go_wp2_with fail
          try rw [E1.out]
          refine (less_v g n cap j1 k b _ hnm (by omega) (by omega) Swr.out.own).mono ?_
          rintro e x1 ⟨rfl, dx1⟩
          have Sx1 := Lib.hid (Swr.out.drew dx1)
          have Ox1 := Lib.hid (Owr.out.drew dx1)
          clear Mx1 dx1
          have MS := m_swap p _ x1 Sx1.out.sl
          go_wp2_with fail
          refine (swap_v g n cap k j1 b _ hnm (by omega) (by omega) Sx1.out.own).mono ?_
          rintro e x2 ⟨⟨v, rfl⟩, ho, hw⟩
          have S2 := Lib.hid (Sx1.out.swapped ho hw)
          clear MS ho hw
          go_wp2
          go_roundw
          case rel => exact ⟨j1, by omega, by first | rfl | (congr 1; omega), _, S2.out.1, HS.out.trans (sim_swp b (by omega) (by omega)), DN.out, Ox1.out.trans S2.out.2⟩
          case measure => simp [intOf]; omega
        · have c3' : decide ((b j1).1 < (b k).1) = false := by simpa using c3
          have HP := Lib.hid (HN.out.stop (fun c h0 h1 h2 => Int.le_trans (Int.not_lt.1 c3) (MN.out c h0 h1 h2)))
          clear c3
          have Mx1 := m_less p _ wr Swr.out.sl
          go_wp2_with fail
          try rw [E1.out]
          refine (less_v g n cap j1 k b _ hnm (by omega) (by omega) Swr.out.own).mono ?_
          rintro e x1 ⟨rfl, dx1⟩
          have Sx1 := Lib.hid (Swr.out.drew dx1)
          have Ox1 := Lib.hid (Owr.out.drew dx1)
          clear Mx1 dx1
          go_wp2
          go_ret
          exact ⟨⟨_, rfl⟩, _, Sx1.out, HS.out, HP.out, Ox1.out⟩
    · have l1 : (m : Int) ≤ 2 * (k : Int) + 1 := by omega
      have HP := Lib.hid (HN.out.stop (fun c h0 h1 h2 => by omega))
      go_wp2
      go_ret
      exact ⟨⟨_, rfl⟩, _, S0.out, HS.out, HP.out, ON.out⟩

end Go.Proofs.Ytcpaenmhnoagdac.ag
