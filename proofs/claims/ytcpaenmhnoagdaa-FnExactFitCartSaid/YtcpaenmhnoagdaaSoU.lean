/-
  symMerge of the stable sort: one element on a side.
-/
import Derived.Test.YtcpaenmhnoagdaaSiU
import Derived.Deep.CutRange
import Derived.BigRegion
import Derived.Deep.RegionWith
namespace Go.Proofs.Ytcpaenmhnoagdaa.rod
open Go.ChangeShapes Go.WideShapes Go.ChangeAt Go.RowKit Go.Proofs.Ytcpaenmhnoagdaa.mem Go.Proofs.Ytcpaenmhnoagdaa.stab
set_option linter.unusedVariables false

theorem half_eq (i j : Nat) (hi : i + j < 4194304) : ∃ h : Nat, IntKind.i64.wrap ((i : Int) + j) = (i : Int) + j ∧ IntKind.u64.wrap ((i : Int) + j) = (i : Int) + j ∧ ((i : Int) + j) / 2 = (h : Int) ∧ IntKind.i64.wrap (h : Int) = (h : Int) ∧ h = (i + j) / 2 := by
  refine ⟨(i + j) / 2, IntWalk.i64_in _ (by omega), ?_, by omega, IntWalk.i64_in _ (by omega), rfl⟩
  show ((i : Int) + j) % 18446744073709551616 = _
  omega

set_option maxHeartbeats 4000000 in
set_option maxRecDepth 100000 in
theorem symOneU_c (X : Nat → Int) (g n c : Nat) (P : Nat → Nat) (a m b : Nat) (ai mi bi : Int) (w : World) (ha : ai = a) (hm : mi = m) (hb' : bi = b) (h1 : m = a + 1) (h2 : m < b) (h3 : b ≤ n) (hn : n ≤ 1048576) (ht : Two (ltU X) P a m b) (h : RowU X w g n P) :
    Calls Try.prog 97 #[.slice (some ⟨g, 0, none⟩) n c, .int .i64 ai, .int .i64 mi, .int .i64 bi, .func (.func 62) #[] #[]] w fun e w' => e = .returned (.tuple #[]) ∧ ∃ Q, RowU X w' g n Q ∧ Mgd (ltU X) P Q a b ∧ WroteIn w w' g (g + 1) := by
  subst ha hm hb'
  have H := Lib.hid h
  have HT := Lib.hid ht
  have e1 : (m : Int) - (a : Int) = 1 := by omega
  have HM := Lib.hid h1
  clear h ht h1
  go_enter Try.func97, Try.ntmps97
  go_wp2_with fail
  go_outline
  go_loopw [10, 11] (fun s t wr => ∃ i j : Nat, m ≤ i ∧ i ≤ j ∧ j ≤ b ∧ s = .int .i64 i ∧ t = .int .i64 j ∧ Hid (RowU X wr g n P) ∧ Hid (i = m ∨ ltU X (P (i - 1)) (P a) = true) ∧ Hid (j = b ∨ ltU X (P j) (P a) = false) ∧ WroteIn w wr g (g + 1)) (fun s t _ => (intOf t).toNat - (intOf s).toNat)
  case atStart => exact ⟨m, b, by omega, by omega, by omega, rfl, rfl, H.out, .inl rfl, .inl rfl, WroteIn.refl _ _ _⟩
  case round =>
    obtain ⟨i, j, i1, i2, i3, rfl, rfl, HR, HI, HJ, hw⟩ := hrel
    have HW := Lib.hid hw
    clear hw
    by_cases hlt : i < j
    · have hlt' : (i : Int) < (j : Int) := by omega
      obtain ⟨h, k1, k2, k3, k4, k5⟩ := half_eq i j (by omega)
      have h1 : i ≤ h := by omega
      have h2 : h < j := by omega
      have K5 := Lib.hid k5
      clear k5
      obtain ⟨p0, p1, p2⟩ := HR.out.cells (p := h) (by omega)
      obtain ⟨q0, q1, q2⟩ := HR.out.cells (p := a) (by omega)
      have hgl := HR.out.lt
      have b1 : (0 : Int) ≤ (h : Int) := by omega
      have b2 : (h : Int) < (n : Int) := by omega
      have b3 : (0 : Int) ≤ (a : Int) := by omega
      have b4 : (a : Int) < (n : Int) := by omega
      obtain ⟨r, hr, HC⟩ := cmpU_ex X (P h) (P a)
      cases hl : ltU X (P h) (P a)
      · have hrr : ¬ r < 0 := fun h => by rw [hr.1 h] at hl; cases hl
        have HL := Lib.hid hl
        clear hr hl
        go_wp2_with fail
        go_region_held3 (fun x => (x.cell? ⟨g, h * 3, none⟩ = some (.int .i64 (X ((P h) * 3))) ∧ x.cell? ⟨g, h * 3 + 1, none⟩ = some (.int .i64 (X ((P h) * 3 + 1))) ∧ x.cell? ⟨g, h * 3 + 2, none⟩ = some (.int .i64 (X ((P h) * 3 + 2)))) ∧ (x.cell? ⟨g, a * 3, none⟩ = some (.int .i64 (X ((P a) * 3))) ∧ x.cell? ⟨g, a * 3 + 1, none⟩ = some (.int .i64 (X ((P a) * 3 + 1))) ∧ x.cell? ⟨g, a * 3 + 2, none⟩ = some (.int .i64 (X ((P a) * 3 + 2))))) (first | exact ⟨⟨p0, p1, p2⟩, ⟨q0, q1, q2⟩⟩ | go_keep)
          (first
            | (go_at_call 62; refine (HC.out _).mono ?_; rintro e w1 ⟨rfl, hb1⟩
               have g5 : Below wr.heap.size wr w1 := Below.trans (Below.drew (Below.refl _ _)) (hb1.mono (by simp))
               have RQ := HR.out.below g5 hgl
               obtain ⟨p0, p1, p2⟩ := RQ.cells (p := h) (by omega)
               obtain ⟨q0, q1, q2⟩ := RQ.cells (p := a) (by omega)
               clear hb1))
        have HQ2 := Lib.hid RQ
        clear RQ
        go_wp2_with fail
        go_roundw
        case rel => exact ⟨i, h, by omega, by omega, by omega, rfl, rfl, HQ2.out, HI.out, .inr HL.out, HW.out.trans1 (wrote_below g5)⟩
        case measure => simp [intOf]; omega
      · have hrr : r < 0 := hr.2 hl
        have HL := Lib.hid hl
        clear hr hl
        go_wp2_with fail
        go_region_held3 (fun x => (x.cell? ⟨g, h * 3, none⟩ = some (.int .i64 (X ((P h) * 3))) ∧ x.cell? ⟨g, h * 3 + 1, none⟩ = some (.int .i64 (X ((P h) * 3 + 1))) ∧ x.cell? ⟨g, h * 3 + 2, none⟩ = some (.int .i64 (X ((P h) * 3 + 2)))) ∧ (x.cell? ⟨g, a * 3, none⟩ = some (.int .i64 (X ((P a) * 3))) ∧ x.cell? ⟨g, a * 3 + 1, none⟩ = some (.int .i64 (X ((P a) * 3 + 1))) ∧ x.cell? ⟨g, a * 3 + 2, none⟩ = some (.int .i64 (X ((P a) * 3 + 2))))) (first | exact ⟨⟨p0, p1, p2⟩, ⟨q0, q1, q2⟩⟩ | go_keep)
          (first
            | (go_at_call 62; refine (HC.out _).mono ?_; rintro e w1 ⟨rfl, hb1⟩
               have g5 : Below wr.heap.size wr w1 := Below.trans (Below.drew (Below.refl _ _)) (hb1.mono (by simp))
               have RQ := HR.out.below g5 hgl
               obtain ⟨p0, p1, p2⟩ := RQ.cells (p := h) (by omega)
               obtain ⟨q0, q1, q2⟩ := RQ.cells (p := a) (by omega)
               clear hb1))
        have HQ2 := Lib.hid RQ
        clear RQ
        go_wp2_with fail
        go_roundw
        case rel => exact ⟨h + 1, j, by omega, by omega, by omega, by go_num, rfl, HQ2.out, .inr HL.out, HJ.out, HW.out.trans1 (wrote_below g5)⟩
        case measure => simp [intOf]; omega
    · obtain rfl : i = j := by omega
      have HD := Lib.hid (HT.out.one_left (ltU_swo X) HM.out i1 i3 HI.out HJ.out)
      obtain ⟨i', rfl⟩ : ∃ i', i = i' + 1 := ⟨i - 1, by have := HM.out; omega⟩
      have ha' : a ≤ i' := by have := HM.out; omega
      rw [show ((i' + 1 : Nat) : Int) = (i' : Int) + 1 from rfl]
      have w1 : IntKind.i64.wrap ((i' : Int) + 1 - 1) = (i' : Int) := by rw [show (i' : Int) + 1 - 1 = i' by omega]; exact IntWalk.i64_in _ (by omega)
      have w2 : IntKind.i64.wrap (i' : Int) = (i' : Int) := IntWalk.i64_in _ (by omega)
      go_wp2_with fail
      go_outline
      go_loopw [13] (fun s wi => ∃ k : Nat, a ≤ k ∧ k ≤ i' ∧ s = .int .i64 k ∧ Hid (RowU X wi g n (mvR P a k)) ∧ WroteIn w wi g (g + 1)) (fun s _ => i' - (intOf s).toNat)
      case atStart => exact ⟨a, by omega, by omega, rfl, HR.out.congr (fun x _ => (mvR_zero P a x).symm), HW.out⟩
      case round =>
        obtain ⟨k, ka, ki, rfl, HK, hwk⟩ := hrel
        have HWK := Lib.hid hwk
        clear hwk
        by_cases hlt2 : k < i'
        · have hlt2' : (k : Int) < (i' : Int) := by omega
          obtain ⟨p0, p1, p2⟩ := HK.out.cells (p := k) (by omega)
          obtain ⟨q0, q1, q2⟩ := HK.out.cells (p := k + 1) (by omega)
          have pf0 := HK.out.frozen (k * 3)
          have qf0 := HK.out.frozen ((k + 1) * 3)
          have pf1 := HK.out.frozen (k * 3 + 1)
          have qf1 := HK.out.frozen ((k + 1) * 3 + 1)
          have pf2 := HK.out.frozen (k * 3 + 2)
          have qf2 := HK.out.frozen ((k + 1) * 3 + 2)
          have b1 : (0 : Int) ≤ (k : Int) := by omega
          have b2 : (k : Int) < (n : Int) := by omega
          have b3 : (0 : Int) ≤ (k : Int) + 1 := by omega
          have b4 : (k : Int) + 1 < (n : Int) := by omega
          have hs := Lib.hid ((HK.out.swap (i := k) (j := k + 1) (by omega)).congr (fun x _ => mvR_succ P ka x))
          go_wp2_with fail
          go_region
          go_wp2
          go_roundw
          case rel => exact ⟨k + 1, by omega, by omega, by go_num, hs.out.drew, (HWK.out.trans1 RowU.swapW).drew⟩
          case measure => simp [intOf]; omega
        · obtain rfl : k = i' := by omega
          have hnl : ¬ (k : Int) < (k : Int) := by omega
          go_wp2_with fail
          refine bodyPost_ret (results_none rfl _ _ _) rfl ?_
          exact ⟨rfl, _, HK.out, HD.out, HWK.out⟩

set_option maxHeartbeats 4000000 in
set_option maxRecDepth 100000 in
theorem symOneRU_c (X : Nat → Int) (g n c : Nat) (P : Nat → Nat) (a m b : Nat) (ai mi bi : Int) (w : World) (ha : ai = a) (hm : mi = m) (hb' : bi = b) (h0 : a + 1 < m) (h1 : b = m + 1) (h3 : b ≤ n) (hn : n ≤ 1048576) (ht : Two (ltU X) P a m b) (h : RowU X w g n P) :
    Calls Try.prog 97 #[.slice (some ⟨g, 0, none⟩) n c, .int .i64 ai, .int .i64 mi, .int .i64 bi, .func (.func 62) #[] #[]] w fun e w' => e = .returned (.tuple #[]) ∧ ∃ Q, RowU X w' g n Q ∧ Mgd (ltU X) P Q a b ∧ WroteIn w w' g (g + 1) := by
  subst ha hm hb'
  have H := Lib.hid h
  have HT := Lib.hid ht
  obtain ⟨d, hd, hd1⟩ : ∃ d : Int, (m : Int) - (a : Int) = d ∧ ¬ d = 1 := ⟨_, rfl, by omega⟩
  have e0 : (d == 1) = false := by simpa using hd1
  have hdr : IntKind.i64.wrap d = d := IntWalk.i64_in _ (by omega)
  have e1 : (b : Int) - (m : Int) = 1 := by omega
  have HM := Lib.hid h1
  have HM0 := Lib.hid h0
  clear h ht h1 h0
  go_enter Try.func97, Try.ntmps97
  go_wp2_with fail
  go_loopw [14, 15] (fun s t wr => ∃ i j : Nat, a ≤ i ∧ i ≤ j ∧ j ≤ m ∧ s = .int .i64 i ∧ t = .int .i64 j ∧ Hid (RowU X wr g n P) ∧ Hid (i = a ∨ ltU X (P m) (P (i - 1)) = false) ∧ Hid (j = m ∨ ltU X (P m) (P j) = true) ∧ WroteIn w wr g (g + 1)) (fun s t _ => (intOf t).toNat - (intOf s).toNat)
  case atStart => exact ⟨a, m, by omega, by have := HM0.out; omega, by omega, rfl, rfl, H.out, .inl rfl, .inl rfl, WroteIn.refl _ _ _⟩
  case round =>
    obtain ⟨i, j, i1, i2, i3, rfl, rfl, HR, HI, HJ, hw⟩ := hrel
    have HW := Lib.hid hw
    clear hw
    have hmb : m < n := by have := HM.out; omega
    by_cases hlt : i < j
    · have hlt' : (i : Int) < (j : Int) := by omega
      obtain ⟨h, k1, k2, k3, k4, k5⟩ := half_eq i j (by omega)
      have h1 : i ≤ h := by omega
      have h2 : h < j := by omega
      have K5 := Lib.hid k5
      clear k5
      obtain ⟨p0, p1, p2⟩ := HR.out.cells (p := m) (by omega)
      obtain ⟨q0, q1, q2⟩ := HR.out.cells (p := h) (by omega)
      have hgl := HR.out.lt
      have b1 : (0 : Int) ≤ (m : Int) := by omega
      have b2 : (m : Int) < (n : Int) := by omega
      have b3 : (0 : Int) ≤ (h : Int) := by omega
      have b4 : (h : Int) < (n : Int) := by omega
      obtain ⟨r, hr, HC⟩ := cmpU_ex X (P m) (P h)
      cases hl : ltU X (P m) (P h)
      · have hrr : ¬ r < 0 := fun h => by rw [hr.1 h] at hl; cases hl
        have HL := Lib.hid hl
        have hdr := decide_eq_false hrr
        clear hr hl
        go_wp2_with fail
        go_region_held3 (fun x => (x.cell? ⟨g, m * 3, none⟩ = some (.int .i64 (X ((P m) * 3))) ∧ x.cell? ⟨g, m * 3 + 1, none⟩ = some (.int .i64 (X ((P m) * 3 + 1))) ∧ x.cell? ⟨g, m * 3 + 2, none⟩ = some (.int .i64 (X ((P m) * 3 + 2)))) ∧ (x.cell? ⟨g, h * 3, none⟩ = some (.int .i64 (X ((P h) * 3))) ∧ x.cell? ⟨g, h * 3 + 1, none⟩ = some (.int .i64 (X ((P h) * 3 + 1))) ∧ x.cell? ⟨g, h * 3 + 2, none⟩ = some (.int .i64 (X ((P h) * 3 + 2))))) (first | exact ⟨⟨p0, p1, p2⟩, ⟨q0, q1, q2⟩⟩ | go_keep)
          (first
            | (go_at_call 62; refine (HC.out _).mono ?_; rintro e w1 ⟨rfl, hb1⟩
               have g5 : Below wr.heap.size wr w1 := Below.trans (Below.drew (Below.refl _ _)) (hb1.mono (by simp))
               have RQ := HR.out.below g5 hgl
               obtain ⟨p0, p1, p2⟩ := RQ.cells (p := m) (by omega)
               obtain ⟨q0, q1, q2⟩ := RQ.cells (p := h) (by omega)
               clear hb1))
        have HQ2 := Lib.hid RQ
        clear RQ
        go_wp2_with fail
        go_roundw
        case rel => exact ⟨h + 1, j, by omega, by omega, by omega, by go_num, rfl, HQ2.out, .inr HL.out, HJ.out, HW.out.trans1 (wrote_below g5)⟩
        case measure => simp [intOf]; omega
      · have hrr : r < 0 := hr.2 hl
        have HL := Lib.hid hl
        have hdr := decide_eq_true hrr
        clear hr hl
        go_wp2_with fail
        go_region_held3 (fun x => (x.cell? ⟨g, m * 3, none⟩ = some (.int .i64 (X ((P m) * 3))) ∧ x.cell? ⟨g, m * 3 + 1, none⟩ = some (.int .i64 (X ((P m) * 3 + 1))) ∧ x.cell? ⟨g, m * 3 + 2, none⟩ = some (.int .i64 (X ((P m) * 3 + 2)))) ∧ (x.cell? ⟨g, h * 3, none⟩ = some (.int .i64 (X ((P h) * 3))) ∧ x.cell? ⟨g, h * 3 + 1, none⟩ = some (.int .i64 (X ((P h) * 3 + 1))) ∧ x.cell? ⟨g, h * 3 + 2, none⟩ = some (.int .i64 (X ((P h) * 3 + 2))))) (first | exact ⟨⟨p0, p1, p2⟩, ⟨q0, q1, q2⟩⟩ | go_keep)
          (first
            | (go_at_call 62; refine (HC.out _).mono ?_; rintro e w1 ⟨rfl, hb1⟩
               have g5 : Below wr.heap.size wr w1 := Below.trans (Below.drew (Below.refl _ _)) (hb1.mono (by simp))
               have RQ := HR.out.below g5 hgl
               obtain ⟨p0, p1, p2⟩ := RQ.cells (p := m) (by omega)
               obtain ⟨q0, q1, q2⟩ := RQ.cells (p := h) (by omega)
               clear hb1))
        have HQ2 := Lib.hid RQ
        clear RQ
        go_wp2_with fail
        go_roundw
        case rel => exact ⟨i, h, by omega, by omega, by omega, rfl, rfl, HQ2.out, HI.out, .inr HL.out, HW.out.trans1 (wrote_below g5)⟩
        case measure => simp [intOf]; omega
    · obtain rfl : i = j := by omega
      have HD := Lib.hid (HT.out.one_right (ltU_swo X) HM.out i1 i3 HI.out HJ.out)
      go_wp2_with fail
      go_loopw [17] (fun s wi => ∃ k : Nat, i ≤ k ∧ k ≤ m ∧ s = .int .i64 k ∧ Hid (RowU X wi g n (mvL P m k)) ∧ WroteIn w wi g (g + 1)) (fun s _ => (intOf s).toNat)
      case atStart => exact ⟨m, by omega, by omega, rfl, HR.out.congr (fun x _ => (mvL_zero P m x).symm), HW.out⟩
      case round =>
        obtain ⟨k, ka, ki, rfl, HK, hwk⟩ := hrel
        have HWK := Lib.hid hwk
        clear hwk
        by_cases hlt2 : i < k
        · obtain ⟨k, rfl⟩ : ∃ k', k = k' + 1 := ⟨k - 1, by omega⟩
          have hlt2' : (i : Int) < (k : Int) + 1 := by omega
          obtain ⟨p0, p1, p2⟩ := HK.out.cells (p := k + 1) (by omega)
          obtain ⟨q0, q1, q2⟩ := HK.out.cells (p := k) (by omega)
          have pf0 := HK.out.frozen (k * 3)
          have qf0 := HK.out.frozen ((k + 1) * 3)
          have pf1 := HK.out.frozen (k * 3 + 1)
          have qf1 := HK.out.frozen ((k + 1) * 3 + 1)
          have pf2 := HK.out.frozen (k * 3 + 2)
          have qf2 := HK.out.frozen ((k + 1) * 3 + 2)
          have b1 : (0 : Int) ≤ (k : Int) := by omega
          have b2 : (k : Int) < (n : Int) := by omega
          have b3 : (0 : Int) ≤ (k : Int) + 1 := by omega
          have b4 : (k : Int) + 1 < (n : Int) := by omega
          have w2 : IntKind.i64.wrap (k : Int) = (k : Int) := IntWalk.i64_in _ (by omega)
          have w1 : IntKind.i64.wrap ((k : Int) + 1 - 1) = (k : Int) := by rw [show (k : Int) + 1 - 1 = k by omega]; exact w2
          have hs := Lib.hid ((HK.out.swap (i := k + 1) (j := k) (by omega)).congr (fun x _ => mvL_succ P (show k < m by omega) x))
          rw [show ((k + 1 : Nat) : Int) = (k : Int) + 1 from rfl]
          go_wp2_with fail
          go_region
          go_wp2
          go_roundw
          case rel => exact ⟨k, by omega, by omega, rfl, hs.out.drew, (HWK.out.trans1 RowU.swapW).drew⟩
          case measure => first | (simp [intOf]; done) | (simp [intOf]; omega)
        · obtain rfl : k = i := by omega
          have hnl : ¬ (k : Int) < (k : Int) := by omega
          go_wp2_with fail
          refine bodyPost_ret (results_none rfl _ _ _) rfl ?_
          exact ⟨rfl, _, HK.out, HD.out, HWK.out⟩

end Go.Proofs.Ytcpaenmhnoagdaa.rod
