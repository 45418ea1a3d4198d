/-
  The walk of the law on soaking: for every two arguments the law gives true.
-/
import Derived.Test.YtcpaenmhnoagdacSoakM
import Derived.Test.YtcpaenmhnoagdacSrcAt
import Derived.Test.YtcpaenmhnoagdacTank
import Derived.Test.YtcpaenmhnoagdacTm
import Derived.Test.YtcpaenmhnoagdacTmS
import Derived.Test.YtcpaenmhnoagdacPlanI
namespace Go.Proofs.Ytcpaenmhnoagdac.src
open Go.ChangeShapes Go.WideShapes Go.ChangeAt Go.RowKit Go.Proofs.Ytcpaenmhnoagdac.mem Go.Proofs.Ytcpaenmhnoagdac.rod
set_option linter.unusedVariables false

theorem addr_at0 (b o j : Nat) : (⟨b, o, none⟩ : Addr).add j = ⟨b, o + j, none⟩ := by
  unfold Addr.add
  split
  · rename_i e; rw [e]; rfl
  · rfl
theorem iC_at {Y : Nat → Int} {n j : Nat} {u : Value} (h : (iC Y n)[j]? = some u) : j < n ∧ u = .int .i64 (Y j) := by
  unfold iC at h
  rw [List.getElem?_map] at h
  by_cases hj : j < n
  · rw [List.getElem?_range hj] at h
    exact ⟨hj, by simpa using h.symm⟩
  · rw [List.getElem?_eq_none (by simp; omega)] at h
    cases h

set_option maxHeartbeats 16000000 in
set_option maxRecDepth 100000 in
theorem soak_walk (A : Option Addr) (n c : Nat) (X : Nat → Int) (A2 : Option Addr) (m c2 : Nat) (X2 : Nat → Int) (w : World) (hn : n ≤ 3000) (hm : m ≤ 3000) (hX : Sb w A n X) (hX2 : Sb w A2 m X2) :
    Calls Try.prog 11 #[.slice A n c, .slice A2 m c2] w fun e w' => e = .returned (.bool true) ∧ Below w.heap.size w w' := by
  have HX := Lib.hid hX
  have HX2 := Lib.hid hX2
  obtain ⟨i0, hi0, hz0, hz1, hz2⟩ := info_parts src.info_batch
  clear hX hX2
  go_enter Try.func11, Try.ntmps11
  go_wp2_with fail
  refine (long_b A A2 n m c c2 _ hn hm).mono ?_
  rintro e w1 ⟨rfl, b1⟩
  go_wp2_with fail
  refine (a2Bat_c A n c X _ hn (HX.out.below b1 (Nat.le_refl _))).mono ?_
  rintro e w2 ⟨B, k, d, Y, rfl, hk, hd, hd2, hsm, hrow, hb2⟩
  have b2 := b1.trans (hb2.mono b1.size)
  have SL := Lib.hid hrow.sl
  have SM := Lib.hid hsm
  clear hsm hrow hb2 b1
  go_wp2_with fail
  refine (at_b A2 m c2 X2 0 6 5 _ hm (by omega) (by omega) (by omega) (HX2.out.below b2 (Nat.le_refl _))).mono ?_
  rintro e w3 ⟨u, rfl, u0, u1, hb3⟩
  have b3 := b2.trans (hb3.mono b2.size)
  have S3 := Lib.hid (SL.out.below hb3 (Nat.le_refl _))
  obtain ⟨v, hpt, hpl⟩ := plan_small (room := 7 + u) SM.out (by omega) (by omega)
  have HPT := Lib.hid hpt
  have HPL := Lib.hid hpl
  clear hpt hpl hb3
  go_wp2_with fail
  refine (Go.Proofs.Ytcpaenmhnoagdac.ag.plan_i B k d Y (7 + u) v 0 k _ (by unfold maxLen; omega) S3.out (small_list SM.out (by omega)) (inB_yes (by omega) (by omega)) (fun j hj => by have := SM.out j hj; omega) HPT.out (by simp)).mono ?_
  rintro e w4 ⟨A', c', rfl, hc1, hc2, hrow, hb4⟩
  have b4 := b3.trans (hb4.mono b3.size)
  have S4 := Lib.hid (S3.out.below hb4 (Nat.le_refl _))
  have P4 := Lib.hid hrow.sl
  have X4 := Lib.hid (HX2.out.below b4 (Nat.le_refl _))
  have B4 := Lib.hid b4
  clear hrow hb4 b2 b3 b4
  go_wp2_with fail
  refine (Go.Proofs.Ytcpaenmhnoagdac.ag.tooMany_i A' k c' (planY Y v) (7 + u) 0 3 _ (by unfold maxLen; omega) P4.out (plan_list SM.out (by omega) HPL.out) (inB_yes (by omega) (by omega)) (plan_ft (by omega) HPL.out)).mono ?_
  rintro e w5 ⟨rfl, hb5⟩
  have HB5 := Lib.hid hb5
  clear hb5
  go_wp2_with fail
  go_loopw [11] (fun s wr => ∃ i : Nat, i ≤ k ∧ s = .int .i64 i ∧ Below w4.heap.size w4 wr) (fun s _ => k - (intOf s).toNat)
  case atStart => exact ⟨0, by omega, rfl, HB5.out⟩
  case round =>
    obtain ⟨i, hi, rfl, hd⟩ := hrel
    have hzz := hd.size
    have HD := Lib.hid hd
    clear hd
    by_cases hil : i < k
    · have hil' : (i : Int) < (k : Int) := by omega
      have hii0 : (0 : Int) ≤ (i : Int) := by omega
      have hik : (i : Int) ≤ (k : Int) := by omega
      have hic : (i : Int) ≤ (c' : Int) := by omega
      have hicn : i ≤ c' := by omega
      obtain ⟨bl, ol, rfl, hbl, hL⟩ := S4.out (by omega)
      obtain ⟨bp, op, rfl, hbp, hP⟩ := P4.out (by omega)
      have hblr : bl < wr.heap.size := by omega
      have hbpr : bp < wr.heap.size := by omega
      have p0 := hL.below HD.out hbl (i * 4) (by omega)
      have p1 := hL.below HD.out hbl (i * 4 + 1) (by omega)
      have p2 := hL.below HD.out hbl (i * 4 + 2) (by omega)
      have p3 := hL.below HD.out hbl (i * 4 + 3) (by omega)
      have HP := Lib.hid (hP.below HD.out hbp)
      have q0 := HP.out (i * 4) (by omega)
      have q1 := HP.out (i * 4 + 1) (by omega)
      have q2 := HP.out (i * 4 + 2) (by omega)
      have q3 := HP.out (i * 4 + 3) (by omega)
      rw [planY_0] at q0
      rw [planY_1] at q1
      rw [planY_2] at q2
      rw [planY_3] at q3
      simp only [← Nat.add_assoc] at p1 p2 p3 q1 q2 q3
      clear hL hP
      obtain ⟨v1, v2, v3, v4, v5, v6, v7, v8⟩ := allT_bd (small_all SM.out) hil
      have hge := (HPL.out i hil).1.1
      have hle := (HPL.out i hil).2
      have e1 : (Y (i * 4 + 1) != Y (i * 4 + 1)) = false := by simp
      have e2 : (Y (i * 4 + 2) != Y (i * 4 + 2)) = false := by simp
      have e3 : (Y (i * 4 + 3) != Y (i * 4 + 3)) = false := by simp
      have EARLY := Lib.hid (fun q => plan_early SM.out (by omega) (show 7 ≤ 7 + u by omega) HPL.out hil q)
      obtain ⟨W, hW⟩ : ∃ W, W = wr.alloc (.cells #[.int .i64 (v i), .int .i64 (Y (i * 4 + 1)), .int .i64 (Y (i * 4 + 2)), .int .i64 (Y (i * 4 + 3))] 64) := ⟨_, rfl⟩
      have zW : wr.heap.size < W.heap.size := by rw [hW]; simp
      have bW : Below wr.heap.size wr W := by rw [hW]; go_grown
      have r0 := (bW.cell (p := ⟨bl, ol + i * 4, none⟩) hblr).trans p0
      have r1 := (bW.cell (p := ⟨bl, ol + i * 4 + 1, none⟩) hblr).trans p1
      have r2 := (bW.cell (p := ⟨bl, ol + i * 4 + 2, none⟩) hblr).trans p2
      have r3 := (bW.cell (p := ⟨bl, ol + i * 4 + 3, none⟩) hblr).trans p3
      have xb : W.heap[wr.heap.size]? = some (.cells #[.int .i64 (v i), .int .i64 (Y (i * 4 + 1)), .int .i64 (Y (i * 4 + 2)), .int .i64 (Y (i * 4 + 3))] 64 (0, 0)) := by rw [hW]; exact Go.Deep.blk_alloc_new _ _
      have x0 : W.cell? ⟨wr.heap.size, 0, none⟩ = some (.int .i64 (v i)) := by simp [World.cell?, xb]
      have x1 : W.cell? ⟨wr.heap.size, 1, none⟩ = some (.int .i64 (Y (i * 4 + 1))) := by simp [World.cell?, xb]
      have x2 : W.cell? ⟨wr.heap.size, 2, none⟩ = some (.int .i64 (Y (i * 4 + 2))) := by simp [World.cell?, xb]
      have x3 : W.cell? ⟨wr.heap.size, 3, none⟩ = some (.int .i64 (Y (i * 4 + 3))) := by simp [World.cell?, xb]
      have XB := Lib.hid xb
      have GW := Lib.hid (HD.out.trans (bW.mono hzz))
      have PW := Lib.hid (HP.out.below bW hbpr)
      clear xb bW
      go_wp2_with fail
      rw [← hW]
      clear hW p0 p1 p2 p3 q0 q1 q2 q3
      by_cases hc : Y (i * 4) < v i
      · go_quiet (fail)
        go_wp2_with fail
        go_quiet (fail)
        go_wp2_with (at_builtin; refine wpList_append_own _ rfl _ _ 49 rfl W.heap.size 64 i0 _ 4 32 Try.underlying49 hi0 hz0 hz1 hz2 rfl (by decide) _ _ _ rfl (owns_0 (W.drewN _) 64 W.heap.size (planY Y v) (Nat.le_refl _)) ⟨bp, op, none⟩ i c' (iC (planY Y v) (i * 4)) rfl (iC_len _ _) ?c1 ?c2 ?c3 ?c4 ?c5 ?_)
        case c1 =>
          intro j y hj
          obtain ⟨h1, rfl⟩ := iC_at hj
          rw [addr_at0]
          exact (Below.cell (B := W.heap.size) (p := ⟨bp, op + j, none⟩) (Below.alloc (drewN_below (Below.refl W.heap.size W) _) (by simp) _) (by show bp < W.heap.size; omega)).trans (PW.out j (by omega))
        case c2 => intro y hy; obtain ⟨j, hj⟩ := List.getElem?_of_mem hy; obtain ⟨_, rfl⟩ := iC_at hj; rfl
        case c3 => unfold maxLen; omega
        case c4 => omega
        case c5 => simp
        intro v6 w6 hown6 hgrow6 _
        have g6 : Below W.heap.size W w6 := Below.grown (Below.alloc (drewN_below (Below.refl W.heap.size W) _) (by simp) _) hgrow6 (by simp) (fun g hg => by simp [Value.ownBlock] at hg; omega)
        have h6 : w6.ownsRow W.heap.size 64 4 v6 i (iC (planY Y v) (i * 4)) := by simpa [iC] using hown6
        have xb6 := (g6.block wr.heap.size (by omega)).trans XB.out
        have y0 : w6.cell? ⟨wr.heap.size, 0, none⟩ = some (.int .i64 (v i)) := by simp [World.cell?, xb6]
        have y1 : w6.cell? ⟨wr.heap.size, 1, none⟩ = some (.int .i64 (Y (i * 4 + 1))) := by simp [World.cell?, xb6]
        have y2 : w6.cell? ⟨wr.heap.size, 2, none⟩ = some (.int .i64 (Y (i * 4 + 2))) := by simp [World.cell?, xb6]
        have y3 : w6.cell? ⟨wr.heap.size, 3, none⟩ = some (.int .i64 (Y (i * 4 + 3))) := by simp [World.cell?, xb6]
        have yf : w6.frozen? ⟨wr.heap.size, 0, none⟩ = false := by simp [World.frozen?, xb6]
        have z6 := g6.size
        have O7 := Lib.hid (owns_wrote h6 (wrote_set1 (WroteIn.refl w6 wr.heap.size (wr.heap.size + 1)) 0 (.int .i64 (v i - 1))) (by omega))
        have G7 := Lib.hid (show Below w4.heap.size w4 (w6.setCell ⟨wr.heap.size, 0, none⟩ (.int .i64 (v i - 1))) from Below.setCell (GW.out.trans (g6.mono GW.out.size)) hzz _)
        have hl1 : i + 1 ≤ maxLen := by unfold maxLen; omega
        have hl2 : (i + 1) * 32 ≤ 140737488355328 := by omega
        have hwr : IntKind.i64.wrap (v i - 1) = v i - 1 := IntWalk.i64_in _ (by omega)
        clear hown6 hgrow6 h6 xb6 g6
        go_wp2_with (at_builtin; refine wpList_append_own _ rfl _ _ 49 rfl W.heap.size 64 i0 _ 4 32 Try.underlying49 hi0 hz0 hz1 hz2 rfl (by decide) _ _ _ rfl (O7.out.alloc _) ⟨w6.heap.size, 0, none⟩ 1 1 [.int .i64 (v i - 1), .int .i64 (Y (i * 4 + 1)), .int .i64 (Y (i * 4 + 2)), .int .i64 (Y (i * 4 + 3))] rfl rfl ?d1 ?d2 hl1 hl2 ?d5 ?_)
        case d1 => intro j y hj; rcases j with _ | _ | _ | _ | j <;> simp at hj <;> subst hj <;> go_simp
        case d2 => intro y hy; simp at hy; rcases hy with rfl | rfl | rfl | rfl <;> rfl
        case d5 => simp; omega
        intro v8 w8 hown8 hgrow8 _
        have h8 : w8.ownsRow W.heap.size 64 4 v8 (i + 1) (iC (planY Y (rod.put v i (v i - 1))) ((i + 1) * 4)) := by rw [planY_cell]; exact hown8
        have G8 := Lib.hid (show Below w4.heap.size w4 w8 from Below.grown (Below.alloc G7.out G7.out.size _) hgrow8 (by have := G7.out.size; simp at this ⊢; omega) (fun j hj => by have := owns_ge O7.out j hj; omega))
        obtain ⟨A8, c8, rfl, k1, k2, hrow8⟩ := sl_of_owns h8
        have R8 := Lib.hid hrow8.sl
        obtain ⟨hlist, f, hft⟩ := EARLY.out hc
        have HFT := Lib.hid hft
        clear hown8 hgrow8 h8 hrow8 hft
        go_wp2_with fail
        refine (Go.Proofs.Ytcpaenmhnoagdac.rod.tooMany_s A8 (i + 1) c8 _ (7 + u) f 0 _ hl1 R8.out hlist (inB_yes (by omega) (by omega)) HFT.out).mono ?_
        rintro e w9 ⟨rfl, hb9⟩
        have G9 := Lib.hid (G8.out.trans (hb9.mono G8.out.size))
        clear hb9
        go_wp2
        go_roundw
        case rel => exact ⟨i + 1, by omega, by go_num, G9.out⟩
        case measure => simp [intOf]; omega
      · go_quiet (fail)
        go_wp2_with fail
        go_quiet (fail)
        go_wp2
        go_roundw
        case rel => exact ⟨i + 1, by omega, by go_num, drewN_below GW.out _⟩
        case measure => simp [intOf]; omega
    · obtain rfl : i = k := by omega
      go_wp2_with fail
      refine (at_b A2 m c2 X2 1 60 59 _ hm (by omega) (by omega) (by omega) (X4.out.below HD.out (Nat.le_refl _))).mono ?_
      rintro e w6 ⟨h, rfl, h0, h1, hb6⟩
      have D6 := Lib.hid (HD.out.trans (hb6.mono hzz))
      clear hb6
      go_wp2_with fail
      refine (Go.Proofs.Ytcpaenmhnoagdac.rod.tank_i B i d Y h _ (by unfold maxLen; omega) (S4.out.below D6.out (Nat.le_refl _)) (small_list SM.out (by omega)) (inB_yes (by omega) (by omega))).mono ?_
      rintro e w7 ⟨rfl, hb7⟩
      have D7 := Lib.hid (D6.out.trans (hb7.mono D6.out.size))
      clear hb7
      go_wp2_with fail
      go_loopw [20, 19] (fun s t wi => ∃ j : Nat, j ≤ i ∧ s = .int .i64 j ∧ t = .int .i64 (rod.load 0 Y j h) ∧ Below w4.heap.size w4 wi) (fun s _ _ => i - (intOf s).toNat)
      case atStart => exact ⟨0, by omega, rfl, rfl, D7.out⟩
      case round =>
        obtain ⟨j, hj, rfl, rfl, hd⟩ := hrel
        have HI := Lib.hid hd
        have hzj := hd.size
        clear hd
        by_cases hil : j < i
        · have hil' : (j : Int) < (i : Int) := by omega
          have hj0 : (0 : Int) ≤ (j : Int) := by omega
          obtain ⟨bl, ol, rfl, hbl, hL⟩ := S4.out (by omega)
          have p0 := hL.below HI.out hbl (j * 4) (by omega)
          have p1 := hL.below HI.out hbl (j * 4 + 1) (by omega)
          have p2 := hL.below HI.out hbl (j * 4 + 2) (by omega)
          have p3 := hL.below HI.out hbl (j * 4 + 3) (by omega)
          simp only [← Nat.add_assoc] at p1 p2 p3
          clear hL
          obtain ⟨v1, v2, v3, v4, v5, v6, v7, v8⟩ := allT_bd (small_all SM.out) hil
          have bdi := load_bd (m := 0) (h := h) (allT_le (m := j) (by omega) (small_all SM.out))
          have HL2 := Lib.hid (show rod.load 0 Y (j + 1) h = rod.load 0 Y j h + (if atT 0 Y j h = true then Y (j * 4 + 3) else 0) from rfl)
          generalize rod.load 0 Y j h = l0 at *
          cases hp : atT 0 Y j h
          · have HL3 := Lib.hid (show rod.load 0 Y (j + 1) h = l0 by rw [HL2.out, hp]; simp)
            have e : atT 0 Y j h = decide (Y (j * 4) ≤ h ∧ h < Y (j * 4) + Y (j * 4 + 1)) := rfl
            rw [e, decide_eq_false_iff_not] at hp
            have hq : h < Y (j * 4) ∨ (Y (j * 4) ≤ h ∧ Y (j * 4) + Y (j * 4 + 1) ≤ h) := by omega
            clear hp HL2 e
            rcases hq with q1 | ⟨q1, q2⟩
            · have qd := decide_eq_false (Int.not_le.2 q1)
              go_wp2_with fail
              go_quiet (fail)
              go_wp2
              go_roundw
              case rel => exact ⟨j + 1, by omega, by go_num, by rw [HL3.out], drewN_below HI.out _⟩
              case measure => simp [intOf]; omega
            · go_wp2_with fail
              go_quiet (fail)
              go_wp2
              go_roundw
              case rel => exact ⟨j + 1, by omega, by go_num, by rw [HL3.out], drewN_below HI.out _⟩
              case measure => simp [intOf]; omega
          · have HL3 := Lib.hid (show rod.load 0 Y (j + 1) h = l0 + Y (j * 4 + 3) by rw [HL2.out, hp]; simp)
            have e : atT 0 Y j h = decide (Y (j * 4) ≤ h ∧ h < Y (j * 4) + Y (j * 4 + 1)) := rfl
            rw [e, decide_eq_true_eq] at hp
            obtain ⟨q1, q2⟩ := hp
            clear HL2 e
            go_wp2_with fail
            go_quiet (fail)
            go_wp2
            go_roundw
            case rel => exact ⟨j + 1, by omega, by go_num, by rw [HL3.out], drewN_below HI.out _⟩
            case measure => simp [intOf]; omega
        · obtain rfl : j = i := by omega
          obtain ⟨f, code, hf⟩ := FT.ex (X := Y) (n := j) (room := 7) (small_all SM.out) (by omega)
          have HF := Lib.hid hf
          clear hf
          go_wp2_with fail
          refine (Go.Proofs.Ytcpaenmhnoagdac.ag.tooMany_i B j d Y 7 f code _ (by unfold maxLen; omega) (S4.out.below HI.out (Nat.le_refl _)) (small_list SM.out (by omega)) (inB_yes (by omega) (by omega)) HF.out).mono ?_
          rintro e w8 ⟨rfl, hb8⟩
          have D8 := Lib.hid (HI.out.trans (hb8.mono hzj))
          clear hb8
          have hcode : code = 0 ∨ code = 3 := by rcases HF.out with ⟨rfl, _⟩ | ⟨rfl, _⟩ <;> omega
          rcases hcode with rfl | rfl
          · obtain ⟨f0, f1, f2, f3⟩ := ft_early (small_all SM.out) (by omega) HF.out
            have F3 := Lib.hid f3
            clear f3 HF
            go_wp2_with fail
            refine (Go.Proofs.Ytcpaenmhnoagdac.rod.tank_s B j d Y f _ (by unfold maxLen; omega) (S4.out.below D8.out (Nat.le_refl _)) (small_list SM.out (by omega)) (inB_yes (by omega) (by omega))).mono ?_
            rintro e w9 ⟨rfl, hb9⟩
            have D9 := Lib.hid (B4.out.trans ((D8.out.trans (hb9.mono D8.out.size)).mono B4.out.size))
            clear hb9
            by_cases c1 : f ≤ h
            · generalize rod.load 0 Y j h = l0 at *
              generalize rod.load 0 Y j f = l1 at *
              go_wp2
              go_ret
              exact ⟨rfl, D9.out⟩
            · have c2 := F3.out h h0 (by omega)
              generalize rod.load 0 Y j h = l0 at *
              generalize rod.load 0 Y j f = l1 at *
              go_wp2
              go_ret
              exact ⟨rfl, D9.out⟩
          · have c2 : rod.load 0 Y j h ≤ 7 := by
              rcases HF.out with ⟨h, _⟩ | ⟨_, _, h3⟩
              · exact absurd h (by decide)
              · exact h3 h h0
            have D9 := Lib.hid (B4.out.trans (D8.out.mono B4.out.size))
            clear HF
            generalize rod.load 0 Y j h = l0 at *
            go_wp2
            go_ret
            exact ⟨rfl, D9.out⟩
end Go.Proofs.Ytcpaenmhnoagdac.src
