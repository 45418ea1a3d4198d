/-
  Contract of the model's beds a year later.
-/
import Derived.Test.YtcpaenmhnoagdacAfter
namespace Go.Proofs.Ytcpaenmhnoagdac.rod
open Go.ChangeShapes Go.WideShapes Go.ChangeAt Go.RowKit Go.Proofs.Ytcpaenmhnoagdac.mem Go.Proofs.Ytcpaenmhnoagdac.nums
set_option linter.unusedVariables false

theorem row_ne {w : World} {lo hi n b i : Nat} {A : Option Addr} {X : Nat → Int} {v : Value} (h : Row w lo hi A n 1 2 X) (hl : A ≠ some ⟨b, 0, none⟩) : Row (w.setCell ⟨b, i, none⟩ v) lo hi A n 1 2 X := fun hn => by
  obtain ⟨g, e, h1, h2, ho⟩ := h hn
  exact ⟨g, e, h1, h2, ho.setOther (show g ≠ b by rintro rfl; exact hl e) _⟩
theorem ne_of_row {w w0 : World} {lo hi n b : Nat} {A : Option Addr} {X : Nat → Int} (h : Row w lo hi A n 1 2 X) (hn : 0 < n) (hb : b < lo ∨ hi ≤ b) : A ≠ some ⟨b, 0, none⟩ := by
  intro e
  obtain ⟨g, e', h1, h2, _⟩ := h hn
  rw [e] at e'
  injection e' with e'
  injection e' with e'
  omega

set_option maxHeartbeats 4000000 in
theorem after_s (A : Option Addr) (n c : Nat) (M : Nat → Nat) (Y : Nat → Nat → Int) (G : Nat → Int) (A2 : Option Addr) (k c2 : Nat) (C : Nat → Int) (w : World) (hv : bedsB n M Y G = true) (hk : k ≤ maxLen) (hs : Beds w A n M Y G) (h2 : Sl w A2 k 1 C) :
    Calls Try.prog 67 #[.slice A n c, .slice A2 k c2] w (NewBeds w n M Y (later M G fun j => hasC C j k)) := by
  obtain ⟨n8, hall⟩ := bedsB_of hv
  have HA := Lib.hid hall
  have HS := Lib.hid hs
  have H2 := Lib.hid h2
  clear hall hs hv h2
  go_enter Try.func67, Try.ntmps67
  go_wp2_with fail
  go_loopw [6, 5] (fun s v wr => ∃ i : Nat, i ≤ n ∧ s = .int .i64 i ∧ Hid (SoFar wr w.heap.size v i M Y (later M G fun j => hasC C j k)) ∧ Below w.heap.size w wr) (fun s _ _ => n - (intOf s).toNat)
  case atStart => exact ⟨0, by omega, rfl, soFar_0 w M Y _, by go_grown⟩
  case round =>
    obtain ⟨i, hi, rfl, hown, hbl⟩ := hrel
    have hzz := hbl.size
    have HB := Lib.hid hbl
    by_cases hlt : i < n
    · have hlt' : (i : Int) < (n : Int) := by omega
      obtain ⟨b, o, rfl, hb, hX⟩ := HS.out (by omega)
      obtain ⟨⟨P0, C0, p0, hp⟩, p1⟩ := hX i hlt
      obtain ⟨m1, m2, -⟩ := bedB_of (HA.out i hlt)
      obtain ⟨b2, o2, rfl, hb2, hI⟩ := hp (by omega)
      replace p0 := (hbl.cell (p := ⟨b, o + i * 2, none⟩) hb).trans p0
      replace p1 := (hbl.cell (p := ⟨b, o + i * 2 + 1, none⟩) hb).trans p1
      have hown2 : ∀ W, Below wr.heap.size wr W → Calls Try.prog 75 #[.slice (some ⟨b2, o2, none⟩) (M i) C0] W (NewRow W (M i) 1 2 (Y i)) := fun W hW => by
        have := hW.size
        exact own_s b2 o2 (M i) C0 (Y i) W (by omega) (by omega) ((hI.below hbl hb2).below hW (by omega))
      have HOWN := Lib.hid hown2
      have hp2 : ∀ W, Below wr.heap.size wr W → W.cell? ⟨b, o + i * 2, none⟩ = some (.slice (some ⟨b2, o2, none⟩) (M i) C0) ∧ W.cell? ⟨b, o + i * 2 + 1, none⟩ = some (.int .i64 (G i)) := fun W hW =>
        ⟨(hW.cell (p := ⟨b, o + i * 2, none⟩) (show b < wr.heap.size by omega)).trans p0, (hW.cell (p := ⟨b, o + i * 2 + 1, none⟩) (show b < wr.heap.size by omega)).trans p1⟩
      have HP := Lib.hid hp2
      clear hX hI hp hbl hown2 hp2
      go_wp2_with fail
      have hA : ∀ X, (wr.alloc X).cell? ⟨b, o + i * 2, none⟩ = some (.slice (some ⟨b2, o2, none⟩) (M i) C0) := fun X => (HP.out _ (by go_grown)).1
      have hA2 : ∀ X, (wr.alloc X).cell? ⟨b, o + i * 2 + 1, none⟩ = some (.int .i64 (G i)) := fun X => (HP.out _ (by go_grown)).2
      go_cut [7] from 9 to 42 (fun p wc => ∃ g A1 c1, p = .pointer (some ⟨g, 0, none⟩) ∧ wr.heap.size ≤ g ∧ g < wc.heap.size ∧ wc.cell? ⟨g, 0, none⟩ = some (.slice A1 (M i) c1) ∧ wc.cell? ⟨g, 1, none⟩ = some (.int .i64 (G i)) ∧ wc.frozen? ⟨g, 1, none⟩ = false ∧ A1 ≠ some ⟨g, 0, none⟩ ∧ Row wc wr.heap.size wc.heap.size A1 (M i) 1 2 (Y i) ∧ Below wr.heap.size wr wc)
      case first =>
        go_region_with (go_at_call 75; refine (HOWN.out _ (by go_grown)).mono ?_; rintro e w2 ⟨A1, c1, rfl, k1, k2, hr, hb3⟩; obtain ⟨hc, hf⟩ := bcell hb3; have hW3 : Below wr.heap.size wr w2 := Below.trans (by go_grown) (hb3.mono (by simp)); obtain ⟨p2, p3⟩ := HP.out _ hW3; have p4 : ∀ X, (w2.alloc X).cell? ⟨b, o + i * 2 + 1, none⟩ = some (.int .i64 (G i)) := fun X => (HP.out _ (hW3.alloc hW3.size X)).2)
        all_goals
          go_wp2_with fail
          go_meet
          have zw := hW3.size
          first
            | exact ⟨w2.heap.size, A1, c1, rfl, zw, by simp, by go_simp, by go_simp, by go_simp, ne_of_row (w0 := w) hr (by omega) (.inr (Nat.le_refl _)), ((hr.wide (lo' := wr.heap.size) (by simp) (Nat.le_refl _)).below (K := w2.heap.size) (by go_grown) (Nat.le_refl _)).wide (Nat.le_refl _) (by simp), hW3.trans (Below.alloc (Below.refl _ _) zw _)⟩
            | exact ⟨wr.heap.size, A1, c1, rfl, Nat.le_refl _, by have := hb3.size; simp at this; simp; omega, by go_simp, by go_simp, by go_simp, ne_of_row (w0 := w) hr (by omega) (.inl (by simp)), ((row_setLow (row_setLow hr (by simp)) (by simp)).wide (by simp) (by simp)), (hW3.setCell (Nat.le_refl _) _).setCell (Nat.le_refl _) _⟩
      case rest =>
        obtain ⟨g, A1, c1, rfl, hg1, hg2, q0, q1, qf, hne, hrow, hbw⟩ := hcut
        obtain ⟨P, Cc, hob, hrows, hdis⟩ := hown.out
        have hzw := hbw.size
        have HRow := Lib.hid hrow
        have HBW := Lib.hid hbw
        have HOB := Lib.hid hob
        have HRows := Lib.hid hrows
        have HDis := Lib.hid hdis
        have HQ0 := Lib.hid q0
        have h2c : Sl wc A2 k 1 C := (H2.out.below HB.out (Nat.le_refl _)).below hbw (by omega)
        have HC2 := Lib.hid h2c
        have hl1 : i + 1 ≤ maxLen := by unfold maxLen; omega
        have hl2 : (i + 1) * 32 ≤ 140737488355328 := by omega
        have hM5 : (M i : Int) ≤ 5 := by omega
        have hM1 : (1 : Int) ≤ M i := by omega
        have key : ∀ (V : Int), later M G (fun j => hasC C j k) i = V → ∀ wx, Below wr.heap.size wr wx → Row wx wr.heap.size wx.heap.size A1 (M i) 1 2 (Y i) → ∀ v' w5 X, w5.ownsRow w.heap.size 26 2 v' (i + 1) (cellsOf (bedV P M Cc (later M G fun j => hasC C j k)) (i * 2) ++ [.slice A1 (M i) c1, .int .i64 V]) → (wx.alloc (Obj.cells X 26)).grownBy w5 u5.ownBlock → SoFar w5 w.heap.size v' (i + 1) M Y (later M G fun j => hasC C j k) := by
          intro V hV wx hbx hrx v' w5 X hown5 hgr
          exact soFar_step (by omega) HOB.out HRows.out HDis.out hbx hrx (hV ▸ hown5) hgr
        have KEY := Lib.hid key
        clear hown hrow hbw hob hrows hdis h2c key
        obtain ⟨i0, hi0, hz0, hz1, hz2⟩ := info_parts info_bed
        cases hcv : hasC C i k
        · have hl : later M G (fun j => hasC C j k) i = if G i + 1 ≤ M i then G i + 1 else M i := by show (if hasC C i k then (1 : Int) else _) = _; rw [hcv]; rfl
          by_cases hm : G i + 1 ≤ M i
          · rw [if_pos hm] at hl
            have HL := Lib.hid hl
            clear hl
            go_wp2_with (first
              | (go_at_call 107; refine (has_s A2 k c2 C i _ hk HC2.out).mono ?_; rintro e w' ⟨rfl, m, rfl⟩; rw [hcv])
              | (go_at_call 108; refine (min_lo _ _ hm _).mono ?_; rintro e w' ⟨rfl, rfl⟩)
              | (at_builtin; refine wpList_append_own _ rfl _ _ 32 rfl w.heap.size 26 i0 _ 2 32 Try.underlying32 hi0 hz0 hz1 hz2 rfl (by decide) _ _ _ rfl (owns_below HOB.out (Below.alloc (Below.setCell (drewN_below HBW.out _) hg1 _) (by simp; omega) _)) ⟨wc.heap.size, 0, none⟩ 1 1 [.slice A1 (M i) c1, .int .i64 (G i + 1)] rfl rfl ?c1 ?c2 hl1 hl2 ?c5 ?_))
            case c1 => intro j u hj; rcases j with _ | _ | j <;> simp at hj <;> subst hj <;> go_simp
            case c2 => intro u hu; simp at hu; rcases hu with rfl | rfl <;> rfl
            case c5 => simp; omega
            intro v' w5 hown5 hgrow5 _
            have g5 : Below w.heap.size w w5 := Below.grown (Below.alloc (Below.setCell (drewN_below (HB.out.trans (HBW.out.mono hzz)) _) (show w.heap.size ≤ g by omega) _) (by simp; omega) _) hgrow5 (by simp; omega) (owns_block HOB.out)
            have HS5 := Lib.hid (KEY.out (G i + 1) HL.out _ (Below.setCell (drewN_below HBW.out _) hg1 _) ((row_ne (w := wc.drewN m) HRow.out hne).wide (Nat.le_refl _) (by simp)) v' w5 _ hown5 hgrow5)
            clear hown5 hgrow5
            go_wp2
            go_roundw
            case rel => exact ⟨i + 1, by omega, by go_num, HS5.out, g5⟩
            case measure => simp [intOf]; omega
          · rw [if_neg hm] at hl
            have HL := Lib.hid hl
            have hm2 : (M i : Int) < G i + 1 := by omega
            clear hl
            go_wp2_with (first
              | (go_at_call 107; refine (has_s A2 k c2 C i _ hk HC2.out).mono ?_; rintro e w' ⟨rfl, m, rfl⟩; rw [hcv])
              | (go_at_call 108; refine (min_hi _ _ hm2 _).mono ?_; rintro e w' ⟨rfl, rfl⟩)
              | (at_builtin; refine wpList_append_own _ rfl _ _ 32 rfl w.heap.size 26 i0 _ 2 32 Try.underlying32 hi0 hz0 hz1 hz2 rfl (by decide) _ _ _ rfl (owns_below HOB.out (Below.alloc (Below.setCell (drewN_below HBW.out _) hg1 _) (by simp; omega) _)) ⟨wc.heap.size, 0, none⟩ 1 1 [.slice A1 (M i) c1, .int .i64 (M i)] rfl rfl ?c1 ?c2 hl1 hl2 ?c5 ?_))
            case c1 => intro j u hj; rcases j with _ | _ | j <;> simp at hj <;> subst hj <;> go_simp
            case c2 => intro u hu; simp at hu; rcases hu with rfl | rfl <;> rfl
            case c5 => simp; omega
            intro v' w5 hown5 hgrow5 _
            have g5 : Below w.heap.size w w5 := Below.grown (Below.alloc (Below.setCell (drewN_below (HB.out.trans (HBW.out.mono hzz)) _) (show w.heap.size ≤ g by omega) _) (by simp; omega) _) hgrow5 (by simp; omega) (owns_block HOB.out)
            have HS5 := Lib.hid (KEY.out (M i) HL.out _ (Below.setCell (drewN_below HBW.out _) hg1 _) ((row_ne (w := wc.drewN m) HRow.out hne).wide (Nat.le_refl _) (by simp)) v' w5 _ hown5 hgrow5)
            clear hown5 hgrow5
            go_wp2
            go_roundw
            case rel => exact ⟨i + 1, by omega, by go_num, HS5.out, g5⟩
            case measure => simp [intOf]; omega
        · have hl : later M G (fun j => hasC C j k) i = 1 := by show (if hasC C i k then (1 : Int) else _) = _; rw [hcv]; rfl
          have HL := Lib.hid hl
          clear hl
          go_wp2_with (first
            | (go_at_call 107; refine (has_s A2 k c2 C i _ hk HC2.out).mono ?_; rintro e w' ⟨rfl, m, rfl⟩; rw [hcv])
            | (go_at_call 108; refine (min_lo 1 _ hM1 _).mono ?_; rintro e w' ⟨rfl, rfl⟩)
            | (at_builtin; refine wpList_append_own _ rfl _ _ 32 rfl w.heap.size 26 i0 _ 2 32 Try.underlying32 hi0 hz0 hz1 hz2 rfl (by decide) _ _ _ rfl (owns_below HOB.out (Below.alloc (Below.setCell (Below.setCell (drewN_below HBW.out _) hg1 _) hg1 _) (by simp; omega) _)) ⟨wc.heap.size, 0, none⟩ 1 1 [.slice A1 (M i) c1, .int .i64 (1)] rfl rfl ?c1 ?c2 hl1 hl2 ?c5 ?_))
          case c1 => intro j u hj; rcases j with _ | _ | j <;> simp at hj <;> subst hj <;> go_simp
          case c2 => intro u hu; simp at hu; rcases hu with rfl | rfl <;> rfl
          case c5 => simp; omega
          intro v' w5 hown5 hgrow5 _
          have g5 : Below w.heap.size w w5 := Below.grown (Below.alloc (Below.setCell (Below.setCell (drewN_below (HB.out.trans (HBW.out.mono hzz)) _) (show w.heap.size ≤ g by omega) _) (show w.heap.size ≤ g by omega) _) (by simp; omega) _) hgrow5 (by simp; omega) (owns_block HOB.out)
          have HS5 := Lib.hid (KEY.out (1) HL.out _ (Below.setCell (Below.setCell (drewN_below HBW.out _) hg1 _) hg1 _) ((row_ne (row_ne (w := wc.drewN m) HRow.out hne) hne).wide (Nat.le_refl _) (by simp)) v' w5 _ hown5 hgrow5)
          clear hown5 hgrow5
          go_wp2
          go_roundw
          case rel => exact ⟨i + 1, by omega, by go_num, HS5.out, g5⟩
          case measure => simp [intOf]; omega
    · obtain rfl : i = n := by omega
      obtain ⟨P, Cc, hob, hrows, hdis⟩ := hown.out
      obtain ⟨A1, c1, rfl, k1, k2, hr⟩ := ownV_of_owns hob
      have HR := Lib.hid hr
      have HRows := Lib.hid hrows
      have HDis := Lib.hid hdis
      have HB2 := Lib.hid hbl
      clear hown hob hr hrows hdis hbl
      go_wp2
      go_ret
      exact ⟨A1, c1, rfl, k1, k2, fun h => by obtain ⟨g, e, a, b, ho⟩ := HR.out h; exact ⟨g, P, Cc, e, a, b, ho, HRows.out, HDis.out⟩, HB2.out⟩

end Go.Proofs.Ytcpaenmhnoagdac.rod
