/-
  symMerge of the stable sort.
-/
import Derived.Test.YtcpaenmhnoagdaaSoU
import Derived.Deep.CutRange
import Derived.BigRegion
import Derived.Deep.RegionWith
namespace Go.Proofs.Ytcpaenmhnoagdaa.rod
open Go.ChangeShapes Go.WideShapes Go.ChangeAt Go.RowKit Go.Proofs.Ytcpaenmhnoagdaa.mem Go.Proofs.Ytcpaenmhnoagdaa.stab
set_option linter.unusedVariables false

theorem rot_id {P : Nat → Nat} {s m e : Nat} (h1 : s ≤ m) (h2 : m ≤ e) (h : s = m ∨ e = m) (x : Nat) : rot P s m e x = P x := by
  unfold rot
  by_cases g : s ≤ x ∧ x < e
  · rw [if_pos g]
    rcases h with h | h
    · rw [if_pos (by omega)]; congr 1; omega
    · rw [if_neg (by omega)]; congr 1; omega
  · rw [if_neg g]

set_option maxHeartbeats 8000000 in
set_option maxRecDepth 100000 in
theorem symMergeU_c (X : Nat → Int) (g n c : Nat) (hn : n ≤ 1048576) : ∀ (d : Nat) (P : Nat → Nat) (a m b : Nat) (ai mi bi : Int) (w : World), b - a ≤ d → ai = a → mi = m → bi = b → a < m → m < b → b ≤ n → Two (ltU X) P a m b → RowU X w g n P →
    Calls Try.prog 97 #[.slice (some ⟨g, 0, none⟩) n c, .int .i64 ai, .int .i64 mi, .int .i64 bi, .func (.func 62) #[] #[]] w fun e w' => e = .returned (.tuple #[]) ∧ ∃ Q, RowU X w' g n Q ∧ Mgd (ltU X) P Q a b ∧ WroteIn w w' g (g + 1) := by
  intro d
  induction d with
  | zero => intro P a m b ai mi bi w hd _ _ _ h1 h2 _ _ _; omega
  | succ d ih =>
    intro P a m b ai mi bi w hd ha hm hb' h1 h2 h3 ht h
    by_cases c1 : m = a + 1
    · exact symOneU_c X g n c P a m b ai mi bi w ha hm hb' c1 h2 h3 hn ht h
    by_cases c2 : b = m + 1
    · exact symOneRU_c X g n c P a m b ai mi bi w ha hm hb' (by omega) c2 h3 hn ht h
    have IH := Lib.hid ih
    clear ih
    subst ha hm hb'
    have H := Lib.hid h
    have HT := Lib.hid ht
    obtain ⟨q1, hq1, hq1'⟩ : ∃ d : Int, (m : Int) - (a : Int) = d ∧ ¬ d = 1 := ⟨_, rfl, by omega⟩
    have e0 : (q1 == 1) = false := by simpa using hq1'
    have hq1w : IntKind.i64.wrap q1 = q1 := IntWalk.i64_in _ (by omega)
    obtain ⟨q2, hq2, hq2'⟩ : ∃ d : Int, (b : Int) - (m : Int) = d ∧ ¬ d = 1 := ⟨_, rfl, by omega⟩
    have e1 : (q2 == 1) = false := by simpa using hq2'
    have hq2w : IntKind.i64.wrap q2 = q2 := IntWalk.i64_in _ (by omega)
    obtain ⟨D, k1, k2, k3, k4, k5⟩ := half_eq a b (by omega)
    have d1 : a < D := by omega
    have d2 : D < b := by omega
    have d3 : D + D ≤ a + b := by omega
    have d4 : a + b ≤ D + D + 1 := by omega
    have k6 : IntKind.i64.wrap ((D : Int) + m) = (D : Int) + m := IntWalk.i64_in _ (by omega)
    clear h ht k5
    by_cases hDm : D < m
    · have hDm' : (D : Int) < (m : Int) := by omega
      obtain ⟨s0, hs0⟩ : ∃ s0 : Nat, D + m - b = s0 := ⟨_, rfl⟩
      have hs0i : (D : Int) + m - b = (s0 : Int) := by omega
      have hs0w : IntKind.i64.wrap (s0 : Int) = (s0 : Int) := IntWalk.i64_in _ (by omega)
      obtain ⟨r0, hr0⟩ : ∃ r0 : Nat, D = r0 := ⟨_, rfl⟩
      subst hr0
      go_enter Try.func97, Try.ntmps97
      go_wp2_with fail
      go_loopw [20, 21] (fun x y wr => ∃ s r : Nat, s0 ≤ s ∧ s ≤ r ∧ r ≤ D ∧ x = .int .i64 s ∧ y = .int .i64 r ∧ Hid (RowU X wr g n P) ∧ Hid (s = s0 ∨ ltU X (P (D + m - s)) (P (s - 1)) = false) ∧ Hid (r = D ∨ ltU X (P (D + m - s - 1 + s - r)) (P r) = true) ∧ WroteIn w wr g (g + 1)) (fun x y _ => (intOf y).toNat - (intOf x).toNat)
      case atStart => exact ⟨s0, D, Nat.le_refl _, by omega, Nat.le_refl _, rfl, rfl, H.out, .inl rfl, .inl rfl, WroteIn.refl _ _ _⟩
      case round =>
        obtain ⟨s, r, s1, s2, s3, rfl, rfl, HR, HI, HJ, hw⟩ := hrel
        have HW := Lib.hid hw
        clear hw
        by_cases hlt : s < r
        · have hlt' : (s : Int) < (r : Int) := by omega
          obtain ⟨h, k1, k2, k3, k4, k5⟩ := half_eq s r (by omega)
          have h1 : s ≤ h := by omega
          have h2 : h < r := by omega
          clear k5
          obtain ⟨q, hq⟩ : ∃ q : Nat, D + m - 1 - h = q := ⟨_, rfl⟩
          have hqi : (D : Int) + m - 1 - h = (q : Int) := by omega
          have hqw : IntKind.i64.wrap (q : Int) = (q : Int) := IntWalk.i64_in _ (by omega)
          have hqn : q < n := by omega
          obtain ⟨p0, p1, p2⟩ := HR.out.cells (p := q) (by omega)
          obtain ⟨q0, q1, q2⟩ := HR.out.cells (p := h) (by omega)
          have hgl := HR.out.lt
          have b1 : (0 : Int) ≤ (q : Int) := by omega
          have b2 : (q : Int) < (n : Int) := by omega
          have b3 : (0 : Int) ≤ (h : Int) := by omega
          have b4 : (h : Int) < (n : Int) := by omega
          obtain ⟨r', hr, HC⟩ := cmpU_ex X (P q) (P h)
          cases hl : ltU X (P q) (P h)
          · have hrr : ¬ r' < 0 := fun h => by rw [hr.1 h] at hl; cases hl
            have HL := Lib.hid (show ltU X (P (D + m - (h + 1))) (P (h + 1 - 1)) = false by rw [show D + m - (h + 1) = q by omega, show h + 1 - 1 = h by omega]; exact hl)
            have HJ2 := Lib.hid (show r = D ∨ ltU X (P (D + m - (h + 1) - 1 + (h + 1) - r)) (P r) = true by rw [show D + m - (h + 1) - 1 + (h + 1) - r = D + m - s - 1 + s - r by omega]; exact HJ.out)
            have hdr := decide_eq_false hrr
            clear hr hl
            go_wp2_with fail
            go_region_held3 (fun x => (x.cell? ⟨g, q * 3, none⟩ = some (.int .i64 (X ((P q) * 3))) ∧ x.cell? ⟨g, q * 3 + 1, none⟩ = some (.int .i64 (X ((P q) * 3 + 1))) ∧ x.cell? ⟨g, q * 3 + 2, none⟩ = some (.int .i64 (X ((P q) * 3 + 2)))) ∧ (x.cell? ⟨g, h * 3, none⟩ = some (.int .i64 (X ((P h) * 3))) ∧ x.cell? ⟨g, h * 3 + 1, none⟩ = some (.int .i64 (X ((P h) * 3 + 1))) ∧ x.cell? ⟨g, h * 3 + 2, none⟩ = some (.int .i64 (X ((P h) * 3 + 2))))) (first | exact ⟨⟨p0, p1, p2⟩, ⟨q0, q1, q2⟩⟩ | go_keep)
              (first
                | (go_at_call 62; refine (HC.out _).mono ?_; rintro e w1 ⟨rfl, hb1⟩
                   have g5 : Below wr.heap.size wr w1 := Below.trans (Below.drew (Below.refl _ _)) (hb1.mono (by simp))
                   have RQ := HR.out.below g5 hgl
                   obtain ⟨p0, p1, p2⟩ := RQ.cells (p := q) (by omega)
                   obtain ⟨q0, q1, q2⟩ := RQ.cells (p := h) (by omega)
                   clear hb1))
            have HQ2 := Lib.hid RQ
            clear RQ
            go_wp2_with fail
            go_roundw
            case rel => exact ⟨h + 1, r, by omega, by omega, by omega, by go_num, rfl, HQ2.out, .inr HL.out, HJ2.out, HW.out.trans1 (wrote_below g5)⟩
            case measure => simp [intOf]; omega
          · have hrr : r' < 0 := hr.2 hl
            have HL := Lib.hid (show ltU X (P (D + m - s - 1 + s - h)) (P h) = true by rw [show D + m - s - 1 + s - h = q by omega]; exact hl)
            have hdr := decide_eq_true hrr
            clear hr hl
            go_wp2_with fail
            go_region_held3 (fun x => (x.cell? ⟨g, q * 3, none⟩ = some (.int .i64 (X ((P q) * 3))) ∧ x.cell? ⟨g, q * 3 + 1, none⟩ = some (.int .i64 (X ((P q) * 3 + 1))) ∧ x.cell? ⟨g, q * 3 + 2, none⟩ = some (.int .i64 (X ((P q) * 3 + 2)))) ∧ (x.cell? ⟨g, h * 3, none⟩ = some (.int .i64 (X ((P h) * 3))) ∧ x.cell? ⟨g, h * 3 + 1, none⟩ = some (.int .i64 (X ((P h) * 3 + 1))) ∧ x.cell? ⟨g, h * 3 + 2, none⟩ = some (.int .i64 (X ((P h) * 3 + 2))))) (first | exact ⟨⟨p0, p1, p2⟩, ⟨q0, q1, q2⟩⟩ | go_keep)
              (first
                | (go_at_call 62; refine (HC.out _).mono ?_; rintro e w1 ⟨rfl, hb1⟩
                   have g5 : Below wr.heap.size wr w1 := Below.trans (Below.drew (Below.refl _ _)) (hb1.mono (by simp))
                   have RQ := HR.out.below g5 hgl
                   obtain ⟨p0, p1, p2⟩ := RQ.cells (p := q) (by omega)
                   obtain ⟨q0, q1, q2⟩ := RQ.cells (p := h) (by omega)
                   clear hb1))
            have HQ2 := Lib.hid RQ
            clear RQ
            go_wp2_with fail
            go_roundw
            case rel => exact ⟨s, h, by omega, by omega, by omega, rfl, rfl, HQ2.out, HI.out, .inr HL.out, HW.out.trans1 (wrote_below g5)⟩
            case measure => simp [intOf]; omega
        · obtain rfl : s = r := by omega
          have hnl : ¬ (s : Int) < (s : Int) := by omega
          obtain ⟨e, he⟩ : ∃ e : Nat, D + m - s = e := ⟨_, rfl⟩
          have hei : (D : Int) + m - s = (e : Int) := by omega
          have hew : IntKind.i64.wrap (e : Int) = (e : Int) := IntWalk.i64_in _ (by omega)
          have f1 : a ≤ s := by omega
          have f2 : s ≤ m := by omega
          have f3 : m ≤ e := by omega
          have f4 : e ≤ b := by omega
          have f5 : s ≤ D := by omega
          have f6 : D ≤ e := by omega
          have cc1 : s = a ∨ e = b ∨ ltU X (P e) (P (s - 1)) = false := by
            rcases HI.out with h | h
            · exact .inr (.inl (by omega))
            · rw [he] at h; exact .inr (.inr h)
          have cc2 : s = m ∨ e = m ∨ ltU X (P (e - 1)) (P s) = true := by
            by_cases hz : s = D
            · exact .inr (.inl (by omega))
            · rcases HJ.out with h | h
              · exact absurd h hz
              · rw [show D + m - s - 1 + s - s = e - 1 by omega] at h; exact .inr (.inr h)
          have HH := Lib.hid (HT.out.halves (d := D) (ltU_swo X) f1 f2 f3 f4 (by omega) cc1 cc2)
          have HRS := Lib.hid (Sh.wide (Sh.rot (R := P) f2 f3) f1 f4)
          clear cc1 cc2
          by_cases g1 : s < m ∧ m < e
          · obtain ⟨g1, g2⟩ := g1
            have i1 : (s : Int) < (m : Int) := by omega
            have i2 : (m : Int) < (e : Int) := by omega
            have i3 : (s : Int) < (D : Int) := by omega
            have i4 : (D : Int) < (e : Int) := by omega
            by_cases g3 : a < s
            · have i5 : (a : Int) < (s : Int) := by omega
              by_cases g4 : e < b
              · have i6 : (e : Int) < (b : Int) := by omega
                go_wp2_with fail
                refine (rotateU_c X _ g n c P s m e _ _ _ _ rfl rfl rfl g1 g2 (by omega) hn HR.out).mono ?_
                rintro e1 w1 ⟨rfl, hr1, hw1⟩
                have HR1 := Lib.hid hr1
                clear hr1
                go_wp2_with fail
                refine (IH.out _ a s D _ _ _ _ (by omega) rfl rfl rfl (by omega) (by omega) (by omega) HH.out.one HR1.out).mono ?_
                rintro e2 w2 ⟨rfl, Q1, hq1, hm1, hw2⟩
                have HQ1 := Lib.hid hq1
                have HM1 := Lib.hid hm1
                clear hq1 hm1
                go_wp2_with fail
                refine (IH.out _ D e b _ _ _ _ (by omega) rfl rfl rfl (by omega) (by omega) (by omega) (HH.out.two.keep HM1.out.sh (by omega)) HQ1.out).mono ?_
                rintro e3 w3 ⟨rfl, Q2, hq2, hm2, hw3⟩
                go_wp2
                go_end0
                exact ⟨rfl, Q2, hq2, HH.out.join (by omega) (by omega) HRS.out HM1.out hm2, ((HW.out.trans1 hw1).trans1 hw2).trans1 hw3⟩
              · obtain rfl : e = b := by omega
                have i6 : ¬ (e : Int) < (e : Int) := by omega
                go_wp2_with fail
                refine (rotateU_c X _ g n c P s m e _ _ _ _ rfl rfl rfl g1 g2 (by omega) hn HR.out).mono ?_
                rintro e1 w1 ⟨rfl, hr1, hw1⟩
                have HR1 := Lib.hid hr1
                clear hr1
                go_wp2_with fail
                refine (IH.out _ a s D _ _ _ _ (by omega) rfl rfl rfl (by omega) (by omega) (by omega) HH.out.one HR1.out).mono ?_
                rintro e2 w2 ⟨rfl, Q1, hq1, hm1, hw2⟩
                have HQ1 := Lib.hid hq1
                have HM1 := Lib.hid hm1
                clear hq1 hm1
                go_wp2_with fail
                go_end0
                exact ⟨rfl, Q1, HQ1.out, HH.out.join (by omega) (by omega) HRS.out HM1.out (Mgd.refl ((HH.out.two.keep HM1.out.sh (by omega)).id_left rfl)), (HW.out.trans1 hw1).trans1 hw2⟩
            · obtain rfl : s = a := by omega
              have i5 : ¬ (s : Int) < (s : Int) := by omega
              by_cases g4 : e < b
              · have i6 : (e : Int) < (b : Int) := by omega
                go_wp2_with fail
                refine (rotateU_c X _ g n c P s m e _ _ _ _ rfl rfl rfl g1 g2 (by omega) hn HR.out).mono ?_
                rintro e1 w1 ⟨rfl, hr1, hw1⟩
                have HR1 := Lib.hid hr1
                clear hr1
                go_wp2_with fail
                refine (IH.out _ D e b _ _ _ _ (by omega) rfl rfl rfl (by omega) (by omega) (by omega) HH.out.two HR1.out).mono ?_
                rintro e3 w3 ⟨rfl, Q2, hq2, hm2, hw3⟩
                go_wp2
                go_end0
                exact ⟨rfl, Q2, hq2, HH.out.join (by omega) (by omega) HRS.out (Mgd.refl (HH.out.one.id_right rfl)) hm2, (HW.out.trans1 hw1).trans1 hw3⟩
              · obtain rfl : e = b := by omega
                have i6 : ¬ (e : Int) < (e : Int) := by omega
                go_wp2_with fail
                refine (rotateU_c X _ g n c P s m e _ _ _ _ rfl rfl rfl g1 g2 (by omega) hn HR.out).mono ?_
                rintro e1 w1 ⟨rfl, hr1, hw1⟩
                have HR1 := Lib.hid hr1
                clear hr1
                go_wp2_with fail
                go_end0
                exact ⟨rfl, _, HR1.out, HH.out.join (by omega) (by omega) HRS.out (Mgd.refl (HH.out.one.id_right rfl)) (Mgd.refl (HH.out.two.id_left rfl)), HW.out.trans1 hw1⟩
          · have HR1 := Lib.hid (HR.out.congr (fun x _ => (rot_id (P := P) f2 f3 (by omega) x).symm))
            by_cases g2 : s = m
            · subst g2
              obtain rfl : D = e := by omega
              have i1 : ¬ (s : Int) < (s : Int) := by omega
              have i2 : (a : Int) < (s : Int) := by omega
              have i4 : ¬ (D : Int) < (D : Int) := by omega
              by_cases g3 : s < D
              · have i3 : (s : Int) < (D : Int) := by omega
                go_wp2_with fail
                refine (IH.out _ a s D _ _ _ _ (by omega) rfl rfl rfl (by omega) (by omega) (by omega) HH.out.one HR1.out).mono ?_
                rintro e2 w2 ⟨rfl, Q1, hq1, hm1, hw2⟩
                have HQ1 := Lib.hid hq1
                have HM1 := Lib.hid hm1
                clear hq1 hm1
                go_wp2_with fail
                go_end0
                exact ⟨rfl, Q1, HQ1.out, HH.out.join (by omega) (by omega) HRS.out HM1.out (Mgd.refl ((HH.out.two.keep HM1.out.sh (by omega)).id_right rfl)), HW.out.trans1 hw2⟩
              · obtain rfl : s = D := by omega
                go_wp2_with fail
                go_end0
                exact ⟨rfl, _, HR1.out, HH.out.join (by omega) (by omega) HRS.out (Mgd.refl (HH.out.one.id_left rfl)) (Mgd.refl (HH.out.two.id_right rfl)), HW.out⟩
            · obtain rfl : e = m := by omega
              obtain rfl : s = D := by omega
              have i1 : (s : Int) < (e : Int) := by omega
              have i2 : ¬ (e : Int) < (e : Int) := by omega
              have i3 : (a : Int) < (s : Int) := by omega
              have i4 : ¬ (s : Int) < (s : Int) := by omega
              have i5 : (e : Int) < (b : Int) := by omega
              go_wp2_with fail
              refine (IH.out _ s e b _ _ _ _ (by omega) rfl rfl rfl (by omega) (by omega) (by omega) HH.out.two HR1.out).mono ?_
              rintro e3 w3 ⟨rfl, Q2, hq2, hm2, hw3⟩
              go_wp2
              go_end0
              exact ⟨rfl, Q2, hq2, HH.out.join (by omega) (by omega) HRS.out (Mgd.refl (HH.out.one.id_left rfl)) hm2, HW.out.trans1 hw3⟩
    · have hDm' : ¬ (D : Int) < (m : Int) := by omega
      go_enter Try.func97, Try.ntmps97
      go_wp2_with fail
      go_loopw [20, 21] (fun x y wr => ∃ s r : Nat, a ≤ s ∧ s ≤ r ∧ r ≤ m ∧ x = .int .i64 s ∧ y = .int .i64 r ∧ Hid (RowU X wr g n P) ∧ Hid (s = a ∨ ltU X (P (D + m - s)) (P (s - 1)) = false) ∧ Hid (r = m ∨ ltU X (P (D + m - s - 1 + s - r)) (P r) = true) ∧ WroteIn w wr g (g + 1)) (fun x y _ => (intOf y).toNat - (intOf x).toNat)
      case atStart => exact ⟨a, m, Nat.le_refl _, by omega, Nat.le_refl _, rfl, rfl, H.out, .inl rfl, .inl rfl, WroteIn.refl _ _ _⟩
      case round =>
        obtain ⟨s, r, s1, s2, s3, rfl, rfl, HR, HI, HJ, hw⟩ := hrel
        have HW := Lib.hid hw
        clear hw
        by_cases hlt : s < r
        · have hlt' : (s : Int) < (r : Int) := by omega
          obtain ⟨h, k1, k2, k3, k4, k5⟩ := half_eq s r (by omega)
          have h1 : s ≤ h := by omega
          have h2 : h < r := by omega
          clear k5
          obtain ⟨q, hq⟩ : ∃ q : Nat, D + m - 1 - h = q := ⟨_, rfl⟩
          have hqi : (D : Int) + m - 1 - h = (q : Int) := by omega
          have hqw : IntKind.i64.wrap (q : Int) = (q : Int) := IntWalk.i64_in _ (by omega)
          have hqn : q < n := by omega
          obtain ⟨p0, p1, p2⟩ := HR.out.cells (p := q) (by omega)
          obtain ⟨q0, q1, q2⟩ := HR.out.cells (p := h) (by omega)
          have hgl := HR.out.lt
          have b1 : (0 : Int) ≤ (q : Int) := by omega
          have b2 : (q : Int) < (n : Int) := by omega
          have b3 : (0 : Int) ≤ (h : Int) := by omega
          have b4 : (h : Int) < (n : Int) := by omega
          obtain ⟨r', hr, HC⟩ := cmpU_ex X (P q) (P h)
          cases hl : ltU X (P q) (P h)
          · have hrr : ¬ r' < 0 := fun h => by rw [hr.1 h] at hl; cases hl
            have HL := Lib.hid (show ltU X (P (D + m - (h + 1))) (P (h + 1 - 1)) = false by rw [show D + m - (h + 1) = q by omega, show h + 1 - 1 = h by omega]; exact hl)
            have HJ2 := Lib.hid (show r = m ∨ ltU X (P (D + m - (h + 1) - 1 + (h + 1) - r)) (P r) = true by rw [show D + m - (h + 1) - 1 + (h + 1) - r = D + m - s - 1 + s - r by omega]; exact HJ.out)
            have hdr := decide_eq_false hrr
            clear hr hl
            go_wp2_with fail
            go_region_held3 (fun x => (x.cell? ⟨g, q * 3, none⟩ = some (.int .i64 (X ((P q) * 3))) ∧ x.cell? ⟨g, q * 3 + 1, none⟩ = some (.int .i64 (X ((P q) * 3 + 1))) ∧ x.cell? ⟨g, q * 3 + 2, none⟩ = some (.int .i64 (X ((P q) * 3 + 2)))) ∧ (x.cell? ⟨g, h * 3, none⟩ = some (.int .i64 (X ((P h) * 3))) ∧ x.cell? ⟨g, h * 3 + 1, none⟩ = some (.int .i64 (X ((P h) * 3 + 1))) ∧ x.cell? ⟨g, h * 3 + 2, none⟩ = some (.int .i64 (X ((P h) * 3 + 2))))) (first | exact ⟨⟨p0, p1, p2⟩, ⟨q0, q1, q2⟩⟩ | go_keep)
              (first
                | (go_at_call 62; refine (HC.out _).mono ?_; rintro e w1 ⟨rfl, hb1⟩
                   have g5 : Below wr.heap.size wr w1 := Below.trans (Below.drew (Below.refl _ _)) (hb1.mono (by simp))
                   have RQ := HR.out.below g5 hgl
                   obtain ⟨p0, p1, p2⟩ := RQ.cells (p := q) (by omega)
                   obtain ⟨q0, q1, q2⟩ := RQ.cells (p := h) (by omega)
                   clear hb1))
            have HQ2 := Lib.hid RQ
            clear RQ
            go_wp2_with fail
            go_roundw
            case rel => exact ⟨h + 1, r, by omega, by omega, by omega, by go_num, rfl, HQ2.out, .inr HL.out, HJ2.out, HW.out.trans1 (wrote_below g5)⟩
            case measure => simp [intOf]; omega
          · have hrr : r' < 0 := hr.2 hl
            have HL := Lib.hid (show ltU X (P (D + m - s - 1 + s - h)) (P h) = true by rw [show D + m - s - 1 + s - h = q by omega]; exact hl)
            have hdr := decide_eq_true hrr
            clear hr hl
            go_wp2_with fail
            go_region_held3 (fun x => (x.cell? ⟨g, q * 3, none⟩ = some (.int .i64 (X ((P q) * 3))) ∧ x.cell? ⟨g, q * 3 + 1, none⟩ = some (.int .i64 (X ((P q) * 3 + 1))) ∧ x.cell? ⟨g, q * 3 + 2, none⟩ = some (.int .i64 (X ((P q) * 3 + 2)))) ∧ (x.cell? ⟨g, h * 3, none⟩ = some (.int .i64 (X ((P h) * 3))) ∧ x.cell? ⟨g, h * 3 + 1, none⟩ = some (.int .i64 (X ((P h) * 3 + 1))) ∧ x.cell? ⟨g, h * 3 + 2, none⟩ = some (.int .i64 (X ((P h) * 3 + 2))))) (first | exact ⟨⟨p0, p1, p2⟩, ⟨q0, q1, q2⟩⟩ | go_keep)
              (first
                | (go_at_call 62; refine (HC.out _).mono ?_; rintro e w1 ⟨rfl, hb1⟩
                   have g5 : Below wr.heap.size wr w1 := Below.trans (Below.drew (Below.refl _ _)) (hb1.mono (by simp))
                   have RQ := HR.out.below g5 hgl
                   obtain ⟨p0, p1, p2⟩ := RQ.cells (p := q) (by omega)
                   obtain ⟨q0, q1, q2⟩ := RQ.cells (p := h) (by omega)
                   clear hb1))
            have HQ2 := Lib.hid RQ
            clear RQ
            go_wp2_with fail
            go_roundw
            case rel => exact ⟨s, h, by omega, by omega, by omega, rfl, rfl, HQ2.out, HI.out, .inr HL.out, HW.out.trans1 (wrote_below g5)⟩
            case measure => simp [intOf]; omega
        · obtain rfl : s = r := by omega
          have hnl : ¬ (s : Int) < (s : Int) := by omega
          obtain ⟨e, he⟩ : ∃ e : Nat, D + m - s = e := ⟨_, rfl⟩
          have hei : (D : Int) + m - s = (e : Int) := by omega
          have hew : IntKind.i64.wrap (e : Int) = (e : Int) := IntWalk.i64_in _ (by omega)
          have f1 : a ≤ s := by omega
          have f2 : s ≤ m := by omega
          have f3 : m ≤ e := by omega
          have f4 : e ≤ b := by omega
          have f5 : s ≤ D := by omega
          have f6 : D ≤ e := by omega
          have cc1 : s = a ∨ e = b ∨ ltU X (P e) (P (s - 1)) = false := by
            rcases HI.out with h | h
            · exact .inl h
            · rw [he] at h; exact .inr (.inr h)
          have cc2 : s = m ∨ e = m ∨ ltU X (P (e - 1)) (P s) = true := by
            by_cases hz : s = m
            · exact .inl hz
            · rcases HJ.out with h | h
              · exact absurd h hz
              · rw [show D + m - s - 1 + s - s = e - 1 by omega] at h; exact .inr (.inr h)
          have HH := Lib.hid (HT.out.halves (d := D) (ltU_swo X) f1 f2 f3 f4 (by omega) cc1 cc2)
          have HRS := Lib.hid (Sh.wide (Sh.rot (R := P) f2 f3) f1 f4)
          clear cc1 cc2
          by_cases g1 : s < m ∧ m < e
          · obtain ⟨g1, g2⟩ := g1
            have i1 : (s : Int) < (m : Int) := by omega
            have i2 : (m : Int) < (e : Int) := by omega
            have i3 : (s : Int) < (D : Int) := by omega
            have i4 : (D : Int) < (e : Int) := by omega
            by_cases g3 : a < s
            · have i5 : (a : Int) < (s : Int) := by omega
              by_cases g4 : e < b
              · have i6 : (e : Int) < (b : Int) := by omega
                go_wp2_with fail
                refine (rotateU_c X _ g n c P s m e _ _ _ _ rfl rfl rfl g1 g2 (by omega) hn HR.out).mono ?_
                rintro e1 w1 ⟨rfl, hr1, hw1⟩
                have HR1 := Lib.hid hr1
                clear hr1
                go_wp2_with fail
                refine (IH.out _ a s D _ _ _ _ (by omega) rfl rfl rfl (by omega) (by omega) (by omega) HH.out.one HR1.out).mono ?_
                rintro e2 w2 ⟨rfl, Q1, hq1, hm1, hw2⟩
                have HQ1 := Lib.hid hq1
                have HM1 := Lib.hid hm1
                clear hq1 hm1
                go_wp2_with fail
                refine (IH.out _ D e b _ _ _ _ (by omega) rfl rfl rfl (by omega) (by omega) (by omega) (HH.out.two.keep HM1.out.sh (by omega)) HQ1.out).mono ?_
                rintro e3 w3 ⟨rfl, Q2, hq2, hm2, hw3⟩
                go_wp2
                go_end0
                exact ⟨rfl, Q2, hq2, HH.out.join (by omega) (by omega) HRS.out HM1.out hm2, ((HW.out.trans1 hw1).trans1 hw2).trans1 hw3⟩
              · obtain rfl : e = b := by omega
                have i6 : ¬ (e : Int) < (e : Int) := by omega
                go_wp2_with fail
                refine (rotateU_c X _ g n c P s m e _ _ _ _ rfl rfl rfl g1 g2 (by omega) hn HR.out).mono ?_
                rintro e1 w1 ⟨rfl, hr1, hw1⟩
                have HR1 := Lib.hid hr1
                clear hr1
                go_wp2_with fail
                refine (IH.out _ a s D _ _ _ _ (by omega) rfl rfl rfl (by omega) (by omega) (by omega) HH.out.one HR1.out).mono ?_
                rintro e2 w2 ⟨rfl, Q1, hq1, hm1, hw2⟩
                have HQ1 := Lib.hid hq1
                have HM1 := Lib.hid hm1
                clear hq1 hm1
                go_wp2_with fail
                go_end0
                exact ⟨rfl, Q1, HQ1.out, HH.out.join (by omega) (by omega) HRS.out HM1.out (Mgd.refl ((HH.out.two.keep HM1.out.sh (by omega)).id_left rfl)), (HW.out.trans1 hw1).trans1 hw2⟩
            · obtain rfl : s = a := by omega
              have i5 : ¬ (s : Int) < (s : Int) := by omega
              by_cases g4 : e < b
              · have i6 : (e : Int) < (b : Int) := by omega
                go_wp2_with fail
                refine (rotateU_c X _ g n c P s m e _ _ _ _ rfl rfl rfl g1 g2 (by omega) hn HR.out).mono ?_
                rintro e1 w1 ⟨rfl, hr1, hw1⟩
                have HR1 := Lib.hid hr1
                clear hr1
                go_wp2_with fail
                refine (IH.out _ D e b _ _ _ _ (by omega) rfl rfl rfl (by omega) (by omega) (by omega) HH.out.two HR1.out).mono ?_
                rintro e3 w3 ⟨rfl, Q2, hq2, hm2, hw3⟩
                go_wp2
                go_end0
                exact ⟨rfl, Q2, hq2, HH.out.join (by omega) (by omega) HRS.out (Mgd.refl (HH.out.one.id_right rfl)) hm2, (HW.out.trans1 hw1).trans1 hw3⟩
              · obtain rfl : e = b := by omega
                have i6 : ¬ (e : Int) < (e : Int) := by omega
                go_wp2_with fail
                refine (rotateU_c X _ g n c P s m e _ _ _ _ rfl rfl rfl g1 g2 (by omega) hn HR.out).mono ?_
                rintro e1 w1 ⟨rfl, hr1, hw1⟩
                have HR1 := Lib.hid hr1
                clear hr1
                go_wp2_with fail
                go_end0
                exact ⟨rfl, _, HR1.out, HH.out.join (by omega) (by omega) HRS.out (Mgd.refl (HH.out.one.id_right rfl)) (Mgd.refl (HH.out.two.id_left rfl)), HW.out.trans1 hw1⟩
          · have HR1 := Lib.hid (HR.out.congr (fun x _ => (rot_id (P := P) f2 f3 (by omega) x).symm))
            by_cases g2 : s = m
            · subst g2
              obtain rfl : D = e := by omega
              have i1 : ¬ (s : Int) < (s : Int) := by omega
              have i2 : (a : Int) < (s : Int) := by omega
              have i4 : ¬ (D : Int) < (D : Int) := by omega
              by_cases g3 : s < D
              · have i3 : (s : Int) < (D : Int) := by omega
                go_wp2_with fail
                refine (IH.out _ a s D _ _ _ _ (by omega) rfl rfl rfl (by omega) (by omega) (by omega) HH.out.one HR1.out).mono ?_
                rintro e2 w2 ⟨rfl, Q1, hq1, hm1, hw2⟩
                have HQ1 := Lib.hid hq1
                have HM1 := Lib.hid hm1
                clear hq1 hm1
                go_wp2_with fail
                go_end0
                exact ⟨rfl, Q1, HQ1.out, HH.out.join (by omega) (by omega) HRS.out HM1.out (Mgd.refl ((HH.out.two.keep HM1.out.sh (by omega)).id_right rfl)), HW.out.trans1 hw2⟩
              · obtain rfl : s = D := by omega
                go_wp2_with fail
                go_end0
                exact ⟨rfl, _, HR1.out, HH.out.join (by omega) (by omega) HRS.out (Mgd.refl (HH.out.one.id_left rfl)) (Mgd.refl (HH.out.two.id_right rfl)), HW.out⟩
            · obtain rfl : e = m := by omega
              obtain rfl : s = D := by omega
              have i1 : (s : Int) < (e : Int) := by omega
              have i2 : ¬ (e : Int) < (e : Int) := by omega
              have i3 : (a : Int) < (s : Int) := by omega
              have i4 : ¬ (s : Int) < (s : Int) := by omega
              have i5 : (e : Int) < (b : Int) := by omega
              go_wp2_with fail
              refine (IH.out _ s e b _ _ _ _ (by omega) rfl rfl rfl (by omega) (by omega) (by omega) HH.out.two HR1.out).mono ?_
              rintro e3 w3 ⟨rfl, Q2, hq2, hm2, hw3⟩
              go_wp2
              go_end0
              exact ⟨rfl, Q2, hq2, HH.out.join (by omega) (by omega) HRS.out (Mgd.refl (HH.out.one.id_left rfl)) hm2, HW.out.trans1 hw3⟩
end Go.Proofs.Ytcpaenmhnoagdaa.rod
