/-
  The law on shapes that are turned, walked. No condition of a statement lies here.
-/
import Derived.Test.YtldeeilgmogjjaaHz
import Derived.Test.YtldeeilgmogjjaaHk
import Derived.Test.YtldeeilgmogjjaaHy
import Derived.Test.YtldeeilgmogjjaaHb
import Derived.Test.YtldeeilgmogjjaaHm
import Derived.Test.YtldeeilgmogjjaaHd
import Derived.Test.YtldeeilgmogjjaaHe
import Derived.Test.YtldeeilgmogjjaaHf
import Derived.Test.YtldeeilgmogjjaaHv
import Derived.Lib.MinMax
import Derived.BigQuiet
import Derived.BigRegion
import Derived.Test.YtldeeilgmogjjaaOpen
import Derived.Test.YtldeeilgmogjjaaNums
import Derived.Test.YtldeeilgmogjjaaIn
namespace Go.Proofs.Ytldeeilgmogjjaa.shp
open Go.ChangeShapes Go.WideShapes Go.ChangeAt Go.RowKit Go.Proofs.Ytldeeilgmogjjaa.mem Go.Proofs.Ytldeeilgmogjjaa.rod Go.Proofs.Ytldeeilgmogjjaa.nums Go.Proofs.Ytldeeilgmogjjaa.src
set_option linter.unusedVariables false
set_option maxRecDepth 100000

/-- a shape as the law has it: a new row of N levels -/
theorem shape_t (A : Option Addr) (n c : Nat) (X : Nat → Int) (w : World) (hn : n ≤ 3000) (hx : Sb w A n X) :
    Calls Try.prog 5 #[.slice A n c] w fun e w' => ∃ (N : Nat) (Y : Nat → Int) (A' : Option Addr) (c' : Nat), e = .returned (.slice A' N c') ∧ N ≤ 7 ∧ shpB N Y = true ∧ N ≤ c' ∧ Row w' w.heap.size w'.heap.size A' N 1 2 Y ∧ Below w.heap.size w w' :=
  (shape_c A n c X w hn hx).mono fun e w' ⟨l, hl, ⟨A', c', h1, h2, h3, h4⟩, h5⟩ => ⟨l.length, _, A', c', h1, hl.2.1, hl.shp, h2, h4, h5⟩
theorem apt_t {lo up : Int} (h1 : 10 ≤ lo) (h2 : lo ≤ up) (h3 : up ≤ 100) : aptB lo up = true := by
  unfold aptB
  rw [inB_yes (by omega) (by omega), inB_yes h2 (by omega)]; rfl
theorem shp_turn {N : Nat} {Y : Nat → Int} (h : shpB N Y = true) : shpB N (fun j => Y (N - 1 - j)) = true := by
  obtain ⟨n0, n12, hY⟩ := shpB_of h
  exact shpB_yes n0 n12 (allIn_of fun k hk => hY (N - 1 - k) (by omega))
theorem btw_even (X : Nat → Int) : ∀ n q, q ≤ n → (btw X n).getD (2 * q) 0 = X q
  | 0, q, h => by obtain rfl : q = 0 := by omega
                  rfl
  | n + 1, q, h => by
    have hl := btw_len X n
    unfold btw
    by_cases e : q = n + 1
    · subst e
      rw [List.getD_eq_getElem?_getD, List.getElem?_append_right (by rw [List.length_append, hl]; simp; omega), List.length_append, hl, show 2 * (n + 1) - (2 * n + 1 + [(X n + X (n + 1)) / 2].length) = 0 by simp; omega]
      rfl
    · have ih := btw_even X n q (by omega)
      rw [List.getD_eq_getElem?_getD] at ih ⊢
      rw [List.getElem?_append_left (by rw [List.length_append, hl]; omega), List.getElem?_append_left (by omega)]
      exact ih
theorem btw_odd (X : Nat → Int) : ∀ n q, q < n → (btw X n).getD (2 * q + 1) 0 = (X q + X (q + 1)) / 2
  | 0, q, h => absurd h (by omega)
  | n + 1, q, h => by
    have hl := btw_len X n
    unfold btw
    by_cases e : q = n
    · subst e
      rw [List.getD_eq_getElem?_getD, List.getElem?_append_left (by rw [List.length_append, hl]; simp), List.getElem?_append_right (by omega), hl, Nat.sub_self]
      rfl
    · have ih := btw_odd X n q (by omega)
      rw [List.getD_eq_getElem?_getD] at ih ⊢
      rw [List.getElem?_append_left (by rw [List.length_append, hl]; omega), List.getElem?_append_left (by omega)]
      exact ih
theorem wid_facts {Y : Nat → Int} {N : Nat} (n0 : 0 < N) : wid Y (N - 1) < N ∧ ∀ j, j < N → (Y j ≤ Y (wid Y (N - 1))) ∧ (j < wid Y (N - 1) → Y j < Y (wid Y (N - 1))) :=
  ⟨by have := wid_le Y (N - 1); omega, fun j hj => wid_max Y (N - 1) j (by omega)⟩

set_option maxHeartbeats 20000000 in
set_option maxRecDepth 1000000 in
theorem turns_walk (A : Option Addr) (n c : Nat) (X : Nat → Int) (A2 : Option Addr) (m c2 : Nat) (X2 : Nat → Int) (w : World) (hn : n ≤ 3000) (hm : m ≤ 3000) (sl : Sb w A n X) (sl2 : Sb w A2 m X2) :
    Calls Try.prog 3 #[.slice A n c, .slice A2 m c2] w fun e w' => e = .returned (.bool true) ∧ Below w.heap.size w w' := by
  have HSL := Lib.hid sl
  have HSL2 := Lib.hid sl2
  clear sl sl2
  go_enter Try.func3, Try.ntmps3
  go_wp2_with fail
  refine (long_c A A2 n m c c2 _ hn hm).mono ?_
  rintro e w' ⟨rfl, rfl⟩
  go_wp2_with fail
  refine (shape_t A n c X _ hn HSL.out).mono ?_
  rintro e w2 ⟨N, Y, A1, c1, rfl, hN7, hshp, hc1, hrow, hb2⟩
  obtain ⟨n0, n12, hY⟩ := shpB_of hshp
  obtain ⟨g1, rfl, g10, g11, ho1⟩ := hrow n0
  have z2 := hb2.size
  have HB2 := Lib.hid hb2
  have HSH := Lib.hid hshp
  have HYB := Lib.hid hY
  have CY := Lib.hid (fun (w' : World) (k : Nat) (hb : Below w2.heap.size w2 w') (hk : k < N) => (hb.cell (p := ⟨g1, k, none⟩) g11).trans (ho1.cell (j := k) (by omega)))
  have SLY := Lib.hid (show ∀ w' : World, Below w2.heap.size w2 w' → Sl w' (some ⟨g1, 0, none⟩) N 1 Y from fun w' hb _ => ⟨g1, 0, rfl, by have := hb.size; omega, fun j hj => by rw [Nat.zero_add]; exact CY.out w' j hb (by omega)⟩)
  have S2 := Lib.hid (HSL2.out.below HB2.out (Nat.le_refl _))
  have hNm : N ≤ maxLen := by unfold maxLen; omega
  clear hrow ho1 hb2 hshp hY HSL HSL2
  go_wp2_with fail
  refine (at_c A2 m c2 X2 0 30 29 _ hm (by omega) (by omega) (by omega) S2.out).mono ?_
  rintro e w' ⟨v1, rfl, v10, v11, rfl⟩
  go_wp2_with fail
  refine (at_c A2 m c2 X2 1 30 29 _ hm (by omega) (by omega) (by omega) S2.out).mono ?_
  rintro e w' ⟨v2, rfl, v20, v21, rfl⟩
  go_wp2_with fail
  obtain ⟨lo, hlo⟩ : ∃ lo, 10 + v1 = lo := ⟨_, rfl⟩
  rw [hlo]
  obtain ⟨up, hup⟩ : ∃ up, lo + v2 = up := ⟨_, rfl⟩
  rw [hup]
  have l10 : 10 ≤ lo := by omega
  have lu : lo ≤ up := by omega
  have u100 : up ≤ 100 := by omega
  have HAP := Lib.hid (apt_t l10 lu u100)
  clear hlo hup v10 v11 v20 v21 S2
  refine (turned_i _ N c1 Y _ hNm (SLY.out _ (Below.refl _ _)) HSH.out).mono ?_
  rintro e w3 ⟨A3, c3, he3, k3, m3, row3, hb3⟩
  rw [turn_len] at he3 k3 row3
  subst he3
  obtain ⟨g3, rfl, g30, g31, ho3⟩ := (row3.congr (Y := fun j => Y (N - 1 - j)) fun j hj => turn_at (by omega)) n0
  have z3 := hb3.size
  have HST := Lib.hid (shp_turn HSH.out)
  have HB3 := Lib.hid hb3
  have CT := Lib.hid (fun (w' : World) (k : Nat) (hb : Below w3.heap.size w3 w') (hk : k < N) => (hb.cell (p := ⟨g3, k, none⟩) g31).trans (ho3.cell (j := k) (by omega)))
  have SLT := Lib.hid (show ∀ w' : World, Below w3.heap.size w3 w' → Sl w' (some ⟨g3, 0, none⟩) N 1 (fun j => Y (N - 1 - j)) from fun w' hb _ => ⟨g3, 0, rfl, by have := hb.size; omega, fun j hj => by rw [Nat.zero_add]; exact CT.out w' j hb (by omega)⟩)
  clear row3 ho3 hb3
  go_wp2_with fail
  refine (turned_i _ N c3 (fun j => Y (N - 1 - j)) _ hNm (SLT.out _ (Below.refl _ _)) HST.out).mono ?_
  rintro e w4 ⟨A4, c4, he4, k4, m4, row4, hb4⟩
  rw [turn_len] at he4 k4 row4
  subst he4
  have row4' := row4.congr (Y := Y) fun j hj => by rw [turn_at (by omega)]; show Y (N - 1 - (N - 1 - j)) = Y j; congr 1; omega
  have z4 := hb4.size
  have HB34 := Lib.hid hb4
  have HB4 := Lib.hid (HB3.out.trans (hb4.mono (by omega)))
  have R4 := Lib.hid row4'
  clear row4 row4' hb4
  go_wp2_with fail
  refine (widest_i _ N c1 Y _ hNm (SLY.out _ HB4.out) HSH.out).mono ?_
  rintro e w5 ⟨rfl, hb5⟩
  obtain ⟨hM, hMX⟩ := wid_facts (Y := Y) n0
  generalize wid Y (N - 1) = M at *
  have z5 := hb5.size
  have HMX := Lib.hid hMX
  have HB5 := Lib.hid (HB4.out.trans (hb5.mono (by omega)))
  have HB35 := Lib.hid (HB34.out.trans (hb5.mono (by omega)))
  have R5 := Lib.hid (R4.out.below hb5 (by omega))
  have hcM := CY.out w5 M HB5.out hM
  have hM0 : (0 : Int) ≤ (M : Int) := by omega
  have hM1 : (M : Int) < (N : Int) := by omega
  have hM2 : ¬ (M : Int) < 0 := by omega
  have hM3 : ¬ (N : Int) ≤ (M : Int) := by omega
  clear hMX hb5 R4
  have hxx : (Y M != Y M) = false := by simp
  go_wp2_with (go_at_call 9; refine (same_yes A4 _ N c4 c1 Y Y _ n12 R5.out.sl (SLY.out _ HB5.out) (fun j _ => rfl)).mono ?_; rintro e w6 ⟨rfl, m6, rfl⟩)
  have HB6 := Lib.hid (show Below w5.heap.size w5 (w5.drewN m6) from drewN_below (Below.refl _ _) m6)
  clear hcM hxx R5
  generalize w5.drewN m6 = w6 at *
  go_loopw [15] (fun t wr => ∃ k : Nat, k ≤ N ∧ t = .int .i64 k ∧ Below w5.heap.size w5 wr) (fun t _ => N - (intOf t).toNat)
  case atStart => exact ⟨0, by omega, rfl, HB6.out⟩
  case round =>
    obtain ⟨k, hk, rfl, hbl⟩ := hrel
    have HB := Lib.hid hbl
    have hzr := hbl.size
    clear hbl
    by_cases hlt : k < N
    · have hlt' : (k : Int) < (N : Int) := by omega
      have hk0 : (0 : Int) ≤ (k : Int) := by omega
      obtain ⟨q, hq⟩ : ∃ q : Nat, q = N - 1 - k := ⟨_, rfl⟩
      have cY := CY.out wr k (HB5.out.trans (HB.out.mono (by omega))) hlt
      have cT := CT.out wr k (HB35.out.trans (HB.out.mono (by omega))) hlt
      rw [← hq] at cT
      have cQ := CY.out wr q (HB5.out.trans (HB.out.mono (by omega))) (by omega)
      have hs1 : IntKind.i64.wrap ((N : Int) - 1) = (N : Int) - 1 := by rw [IntKind.wrap_i64]; omega
      have hs2 : IntKind.i64.wrap ((N : Int) - 1 - (k : Int)) = (q : Int) := by rw [IntKind.wrap_i64]; omega
      have hq0 : (0 : Int) ≤ (q : Int) := by omega
      have hq1 : (q : Int) < (N : Int) := by omega
      have hxx : (Y q != Y q) = false := by simp
      obtain ⟨e1, e2⟩ := HMX.out k hlt
      have d1 : decide (Y M < Y k) = false := decide_eq_false (by omega)
      have HQ := Lib.hid hq
      clear hq
      by_cases hy : Y k = Y M
      · have d2 : (Y k == Y M) = true := beq_iff_eq.2 hy
        have d4 : ¬ k < M := fun h => by have := e2 h; omega
        have d3 : decide (k < M) = false := decide_eq_false d4
        clear d4
        clear hy e1 e2
        go_wp2_with fail
        go_quiet (fail)
        go_wp2
        go_roundw
        case rel => exact ⟨k + 1, by omega, by go_num, drewN_below HB.out _⟩
        case measure => simp [intOf]; omega
      · have d2 : (Y k == Y M) = false := beq_false_of_ne hy
        clear hy e1 e2
        go_wp2_with fail
        go_quiet (fail)
        go_wp2
        go_roundw
        case rel => exact ⟨k + 1, by omega, by go_num, drewN_below HB.out _⟩
        case measure => simp [intOf]; omega
    · obtain rfl : N = k := by omega
      clear hlt hk
      rename World => w7
      clear HB6
      have HB25 := HB5.out.trans (HB.out.mono (by have := HB5.out.size; omega))
      have HB37 := Lib.hid (HB35.out.trans (HB.out.mono (by omega)))
      have HB27 := Lib.hid HB25
      clear HB25 HB35 HB5 HMX hM0 hM1 hM2 hM3 HB4 HB34
      obtain ⟨P, code1, hpl⟩ := PlanIs.ex N Y lo up
      obtain ⟨Q, code2, hpq⟩ := PlanIs.ex N (fun j => Y (N - 1 - j)) lo up
      obtain ⟨FP, hFP⟩ : ∃ FP : Nat → Int, FP = fun j => P.getD j 0 := ⟨_, rfl⟩
      obtain ⟨FQ, hFQ⟩ : ∃ FQ : Nat → Int, FQ = fun j => Q.getD j 0 := ⟨_, rfl⟩
      have HFP := Lib.hid hFP
      have HFQ := Lib.hid hFQ
      clear hFP hFQ
      have HTS := Lib.hid (turn_same (n := N) (X := Y) (X' := fun j => Y (N - 1 - j)) (lo := lo) (up := up) n0 (fun j _ => rfl))
      have HPL := Lib.hid hpl
      have HPQ := Lib.hid hpq
      clear hpl hpq
      go_wp2_with fail
      refine (plan_i _ N c1 Y lo up P code1 _ hNm (SLY.out _ HB27.out) HSH.out HAP.out HPL.out).mono ?_
      rintro e w8 ⟨A8, c8, rfl, k8, m8, row8, hb8⟩
      have z8 := hb8.size
      have HB28 := Lib.hid (HB27.out.trans (hb8.mono (by have := HB27.out.size; omega)))
      have HB38 := Lib.hid (HB37.out.trans (hb8.mono (by have := HB37.out.size; omega)))
      have R8 := Lib.hid row8.sl
      rw [← HFP.out] at R8
      clear hb8 row8 HB27 HB37
      go_wp2_with fail
      refine (plan_i _ N c3 (fun j => Y (N - 1 - j)) lo up Q code2 _ hNm (SLT.out _ HB38.out) HST.out HAP.out HPQ.out).mono ?_
      rintro e w9 ⟨A9, c9, rfl, k9, m9, row9, hb9⟩
      have z9 := hb9.size
      have HB29 := Lib.hid (HB28.out.trans (hb9.mono (by have := HB28.out.size; omega)))
      have R8' := Lib.hid (R8.out.below hb9 (Nat.le_refl _))
      have R9 := Lib.hid row9.sl
      rw [← HFQ.out] at R9
      clear hb9 row9 HB28 HB38 R8
      have hlz : P.length ≤ 12 ∧ allIn 3 60 FP P.length = true := by
        rw [HFP.out]
        rcases HPL.out with ⟨h, _⟩ | ⟨_, h, _⟩
        · have g := top_good n0 h
          refine ⟨by rw [g.len]; omega, allIn_of fun k hk => ?_⟩
          have := g.bd k (by rw [← g.len]; exact hk)
          exact ⟨this.1, this.2.1⟩
        · subst h; exact ⟨by simp, rfl⟩
      have hlq : Q.length ≤ 12 ∧ allIn 3 60 FQ Q.length = true := by
        rw [HFQ.out]
        rcases HPQ.out with ⟨h, _⟩ | ⟨_, h, _⟩
        · have g := top_good n0 h
          refine ⟨by rw [g.len]; omega, allIn_of fun k hk => ?_⟩
          have := g.bd k (by rw [← g.len]; exact hk)
          exact ⟨this.1, this.2.1⟩
        · subst h; exact ⟨by simp, rfl⟩
      go_wp2_with fail
      refine (changesOf_s A8 _ c8 _ _ hlz.1 R8'.out hlz.2).mono ?_
      rintro e w10 ⟨rfl, hb10⟩
      have z10 := hb10.size
      have HB210 := Lib.hid (HB29.out.trans (hb10.mono (by have := HB29.out.size; omega)))
      have R9' := Lib.hid (R9.out.below hb10 (Nat.le_refl _))
      clear hb10 HB29 R8' R9 hlz
      go_wp2_with fail
      refine (changesOf_s A9 _ c9 _ _ hlq.1 R9'.out hlq.2).mono ?_
      rintro e w11 ⟨rfl, hb11⟩
      have z11 := hb11.size
      have HB211 := Lib.hid (HB210.out.trans (hb11.mono (by have := HB210.out.size; omega)))
      clear hb11 HB210 R9' hlq
      have HCH : Hid ((P.length = 0 ∧ Q.length = 0 ∧ code1 = 3 ∧ code2 = 3) ∨ (P.length = N ∧ Q.length = N ∧ code1 = 0 ∧ code2 = 0 ∧ chs FP (P.length - 1) = chs FQ (Q.length - 1))) := by
        rw [HFP.out, HFQ.out]
        rcases HTS.out with ⟨t1, t2⟩ | ⟨P', Q', t1, t2, t3⟩
        · rcases HPL.out with ⟨h, _⟩ | ⟨_, h, hc⟩
          · rw [t1] at h; cases h
          · rcases HPQ.out with ⟨h', _⟩ | ⟨_, h', hc'⟩
            · rw [t2] at h'; cases h'
            · exact .inl ⟨by rw [h]; rfl, by rw [h']; rfl, hc, hc'⟩
        · rcases HPL.out with ⟨h, hc⟩ | ⟨h, _⟩
          · rcases HPQ.out with ⟨h', hc'⟩ | ⟨h', _⟩
            · rw [t1] at h
              rw [t2] at h'
              obtain rfl := Option.some.inj h
              obtain rfl := Option.some.inj h'
              exact .inr ⟨(top_good n0 t1).len, (top_good n0 t2).len, hc, hc', t3⟩
            · rw [t2] at h'; cases h'
          · rw [t1] at h; cases h
      clear HTS HPL HPQ SLT HST CT HYB HFP HFQ
      generalize chs FP (P.length - 1) = C1 at *
      generalize chs FQ (Q.length - 1) = C2 at *
      generalize P.length = p at *
      generalize Q.length = q at *
      rcases HCH.out with ⟨rfl, rfl, rfl, rfl⟩ | ⟨hp, hq, rfl, rfl, rfl⟩
      · clear HCH
        as_aux_lemma =>
          go_wp2_with fail
          by_cases h6 : N ≤ 6
          · refine (between_i _ N c1 Y _ hNm hc1 (SLY.out _ HB211.out) HSH.out h6).mono ?_
            rintro e w12 ⟨A12, c12, he12, k12, m12, row12, hb12⟩
            obtain ⟨L, hL⟩ : ∃ L, L = 2 * (N - 1) + 1 := ⟨_, rfl⟩
            rw [btw_len, ← hL] at he12 k12 row12
            subst he12
            obtain ⟨g12, rfl, g120, g121, ho12⟩ := row12 (by omega)
            have z12 := hb12.size
            have HB212 := Lib.hid (HB211.out.trans (hb12.mono (by have := HB211.out.size; omega)))
            have CB := Lib.hid (fun (w' : World) (k : Nat) (hb : Below w12.heap.size w12 w') (hk : k < L) => (hb.cell (p := ⟨g12, k, none⟩) g121).trans (ho12.cell (j := k) (by omega)))
            have hw1 : IntKind.i64.wrap (2 * (N : Int)) = 2 * (N : Int) := by rw [IntKind.wrap_i64]; omega
            have hw2 : IntKind.i64.wrap (2 * (N : Int) - 1) = (L : Int) := by rw [IntKind.wrap_i64]; omega
            have hw3 : ¬ (12 : Int) < (L : Int) := by omega
            have HL := Lib.hid hL
            clear hL row12 ho12 hb12 HB211
            go_wp2_with fail
            go_loopw [26] (fun t wr => ∃ i : Nat, i ≤ L ∧ t = .int .i64 i ∧ Below w12.heap.size w12 wr) (fun t _ => L - (intOf t).toNat)
            case atStart => exact ⟨0, by omega, rfl, Below.refl _ _⟩
            case round =>
              obtain ⟨i, hi, rfl, hbl⟩ := hrel
              have HB := Lib.hid hbl
              have hzr := hbl.size
              clear hbl hw1 hw2 hw3
              by_cases hlt : i < L
              · have hlt' : (i : Int) < (L : Int) := by omega
                have hi0 : (0 : Int) ≤ (i : Int) := by omega
                obtain ⟨q, hq⟩ : ∃ q : Nat, q = i / 2 := ⟨_, rfl⟩
                have hq0 : (0 : Int) ≤ (q : Int) := by omega
                have hLO := HL.out
                have hq1 : (q : Int) < (N : Int) := by omega
                have cB := CB.out wr i HB.out hlt
                have cQ := CY.out wr q (HB212.out.trans (HB.out.mono (by have := HB212.out.size; omega))) (by omega)
                have hdv : (i : Int) / 2 = (q : Int) := by omega
                by_cases he : i % 2 = 0
                · have e0 : (i : Int) % 2 = 0 := by omega
                  have hv : (btw Y (N - 1)).getD i 0 = Y q := by rw [show i = 2 * q by omega]; exact btw_even Y (N - 1) q (by omega)
                  rw [hv] at cB
                  have hxx : (Y q != Y q) = false := by simp
                  clear he hv hq hLO
                  go_wp2_with fail
                  go_quiet (fail)
                  go_wp2
                  go_roundw
                  case rel => exact ⟨i + 1, by omega, by go_num, drewN_below HB.out _⟩
                  case measure => simp [intOf]; omega
                · have e0 : (i : Int) % 2 = 1 := by omega
                  have hv : (btw Y (N - 1)).getD i 0 = (Y q + Y (q + 1)) / 2 := by rw [show i = 2 * q + 1 by omega]; exact btw_odd Y (N - 1) q (by omega)
                  have cR := CY.out wr (q + 1) (HB212.out.trans (HB.out.mono (by have := HB212.out.size; omega))) (by omega)
                  obtain ⟨r, hr⟩ : ∃ r : Nat, r = q + 1 := ⟨_, rfl⟩
                  obtain ⟨y1, y2⟩ := (shpB_of HSH.out).2.2 q (by omega)
                  obtain ⟨y3, y4⟩ := (shpB_of HSH.out).2.2 r (by omega)
                  have hr1 : (r : Int) < (N : Int) := by omega
                  have hr0 : (0 : Int) ≤ (r : Int) := by omega
                  have hqr : IntKind.i64.wrap ((q : Int) + 1) = (r : Int) := by rw [IntKind.wrap_i64]; omega
                  rw [hv, ← hr] at cB
                  rw [← hr] at cR
                  have hs : IntKind.i64.wrap (Y q + Y r) = Y q + Y r := by rw [IntKind.wrap_i64]; omega
                  have hwr : wrap64 ((Y q + Y r).tdiv 2) = (Y q + Y r) / 2 := by rw [Int.tdiv_eq_ediv_of_nonneg (by omega)]; exact IntWalk.wrap64_in _ ⟨by omega, by omega⟩
                  rw [← hwr] at cB
                  have hxx : (wrap64 ((Y q + Y r).tdiv 2) != wrap64 ((Y q + Y r).tdiv 2)) = false := by simp
                  clear hwr
                  have hsum : 0 ≤ Y q + Y r := by omega
                  clear he hv hq hLO hr y1 y2 y3 y4
                  go_wp2_with fail
                  go_quiet (fail)
                  go_wp2
                  go_roundw
                  case rel => exact ⟨i + 1, by omega, by go_num, drewN_below HB.out _⟩
                  case measure => simp [intOf]; omega
              · obtain rfl : i = L := by omega
                go_wp2
                go_ret
                exact ⟨rfl, HB2.out.trans ((HB212.out.trans (HB.out.mono (by have := HB212.out.size; omega))).mono z2)⟩
          · obtain rfl : N = 7 := by omega
            refine (between_i_full _ 7 c1 Y _ hNm (SLY.out _ HB211.out) HSH.out (by omega)).mono ?_
            rintro e w12 ⟨A12, c12, rfl, k12, m12, row12, hb12⟩
            have HB212 := Lib.hid (HB211.out.trans (hb12.mono (by have := HB211.out.size; omega)))
            clear row12 hb12
            go_wp2
            go_ret
            exact ⟨rfl, HB2.out.trans (HB212.out.mono z2)⟩
      · clear HCH
        obtain rfl := hp.symm
        obtain rfl := hq.symm
        as_aux_lemma =>
          go_wp2_with fail
          by_cases h6 : N ≤ 6
          · refine (between_i _ N c1 Y _ hNm hc1 (SLY.out _ HB211.out) HSH.out h6).mono ?_
            rintro e w12 ⟨A12, c12, he12, k12, m12, row12, hb12⟩
            obtain ⟨L, hL⟩ : ∃ L, L = 2 * (N - 1) + 1 := ⟨_, rfl⟩
            rw [btw_len, ← hL] at he12 k12 row12
            subst he12
            obtain ⟨g12, rfl, g120, g121, ho12⟩ := row12 (by omega)
            have z12 := hb12.size
            have HB212 := Lib.hid (HB211.out.trans (hb12.mono (by have := HB211.out.size; omega)))
            have CB := Lib.hid (fun (w' : World) (k : Nat) (hb : Below w12.heap.size w12 w') (hk : k < L) => (hb.cell (p := ⟨g12, k, none⟩) g121).trans (ho12.cell (j := k) (by omega)))
            have hw1 : IntKind.i64.wrap (2 * (N : Int)) = 2 * (N : Int) := by rw [IntKind.wrap_i64]; omega
            have hw2 : IntKind.i64.wrap (2 * (N : Int) - 1) = (L : Int) := by rw [IntKind.wrap_i64]; omega
            have hw3 : ¬ (12 : Int) < (L : Int) := by omega
            have HL := Lib.hid hL
            clear hL row12 ho12 hb12 HB211
            go_wp2_with fail
            go_loopw [26] (fun t wr => ∃ i : Nat, i ≤ L ∧ t = .int .i64 i ∧ Below w12.heap.size w12 wr) (fun t _ => L - (intOf t).toNat)
            case atStart => exact ⟨0, by omega, rfl, Below.refl _ _⟩
            case round =>
              obtain ⟨i, hi, rfl, hbl⟩ := hrel
              have HB := Lib.hid hbl
              have hzr := hbl.size
              clear hbl hw1 hw2 hw3
              by_cases hlt : i < L
              · have hlt' : (i : Int) < (L : Int) := by omega
                have hi0 : (0 : Int) ≤ (i : Int) := by omega
                obtain ⟨q, hq⟩ : ∃ q : Nat, q = i / 2 := ⟨_, rfl⟩
                have hq0 : (0 : Int) ≤ (q : Int) := by omega
                have hLO := HL.out
                have hq1 : (q : Int) < (N : Int) := by omega
                have cB := CB.out wr i HB.out hlt
                have cQ := CY.out wr q (HB212.out.trans (HB.out.mono (by have := HB212.out.size; omega))) (by omega)
                have hdv : (i : Int) / 2 = (q : Int) := by omega
                by_cases he : i % 2 = 0
                · have e0 : (i : Int) % 2 = 0 := by omega
                  have hv : (btw Y (N - 1)).getD i 0 = Y q := by rw [show i = 2 * q by omega]; exact btw_even Y (N - 1) q (by omega)
                  rw [hv] at cB
                  have hxx : (Y q != Y q) = false := by simp
                  clear he hv hq hLO
                  go_wp2_with fail
                  go_quiet (fail)
                  go_wp2
                  go_roundw
                  case rel => exact ⟨i + 1, by omega, by go_num, drewN_below HB.out _⟩
                  case measure => simp [intOf]; omega
                · have e0 : (i : Int) % 2 = 1 := by omega
                  have hv : (btw Y (N - 1)).getD i 0 = (Y q + Y (q + 1)) / 2 := by rw [show i = 2 * q + 1 by omega]; exact btw_odd Y (N - 1) q (by omega)
                  have cR := CY.out wr (q + 1) (HB212.out.trans (HB.out.mono (by have := HB212.out.size; omega))) (by omega)
                  obtain ⟨r, hr⟩ : ∃ r : Nat, r = q + 1 := ⟨_, rfl⟩
                  obtain ⟨y1, y2⟩ := (shpB_of HSH.out).2.2 q (by omega)
                  obtain ⟨y3, y4⟩ := (shpB_of HSH.out).2.2 r (by omega)
                  have hr1 : (r : Int) < (N : Int) := by omega
                  have hr0 : (0 : Int) ≤ (r : Int) := by omega
                  have hqr : IntKind.i64.wrap ((q : Int) + 1) = (r : Int) := by rw [IntKind.wrap_i64]; omega
                  rw [hv, ← hr] at cB
                  rw [← hr] at cR
                  have hs : IntKind.i64.wrap (Y q + Y r) = Y q + Y r := by rw [IntKind.wrap_i64]; omega
                  have hwr : wrap64 ((Y q + Y r).tdiv 2) = (Y q + Y r) / 2 := by rw [Int.tdiv_eq_ediv_of_nonneg (by omega)]; exact IntWalk.wrap64_in _ ⟨by omega, by omega⟩
                  rw [← hwr] at cB
                  have hxx : (wrap64 ((Y q + Y r).tdiv 2) != wrap64 ((Y q + Y r).tdiv 2)) = false := by simp
                  clear hwr
                  have hsum : 0 ≤ Y q + Y r := by omega
                  clear he hv hq hLO hr y1 y2 y3 y4
                  go_wp2_with fail
                  go_quiet (fail)
                  go_wp2
                  go_roundw
                  case rel => exact ⟨i + 1, by omega, by go_num, drewN_below HB.out _⟩
                  case measure => simp [intOf]; omega
              · obtain rfl : i = L := by omega
                go_wp2
                go_ret
                exact ⟨rfl, HB2.out.trans ((HB212.out.trans (HB.out.mono (by have := HB212.out.size; omega))).mono z2)⟩
          · obtain rfl : N = 7 := by omega
            refine (between_i_full _ 7 c1 Y _ hNm (SLY.out _ HB211.out) HSH.out (by omega)).mono ?_
            rintro e w12 ⟨A12, c12, rfl, k12, m12, row12, hb12⟩
            have HB212 := Lib.hid (HB211.out.trans (hb12.mono (by have := HB211.out.size; omega)))
            clear row12 hb12
            go_wp2
            go_ret
            exact ⟨rfl, HB2.out.trans (HB212.out.mono z2)⟩

end Go.Proofs.Ytldeeilgmogjjaa.shp
