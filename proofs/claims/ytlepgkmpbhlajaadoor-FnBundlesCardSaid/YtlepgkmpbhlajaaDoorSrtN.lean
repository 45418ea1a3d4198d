/-
  The insertion sort of the stable sort.
  symMerge of the stable sort: one element on a side.
  symMerge of the stable sort.
  The stable sort.
-/
import Derived.Test.YtlepgkmpbhlajaaDoorSwN
import Derived.Test.YtlepgkmpbhlajaaDoorScN
import Derived.Deep.CutRange
import Derived.BigRegion
import Derived.Deep.RegionWith
namespace Go.Proofs.YtlepgkmpbhlajaaDoor.rod
open Go.ChangeShapes Go.WideShapes Go.ChangeAt Go.RowKit Go.Proofs.YtlepgkmpbhlajaaDoor.mem Go.Proofs.YtlepgkmpbhlajaaDoor.stab
set_option linter.unusedVariables false

set_option maxHeartbeats 4000000 in
set_option maxRecDepth 100000 in
theorem insertionN_c (X : Nat → Int) (hb : Nat) (A : Option Addr) (cc : Nat) (g n c : Nat) (P : Nat → Nat) (a b : Nat) (ai bi : Int) (w : World) (ha : ai = a) (hb' : bi = b) (hab : a ≤ b) (h2 : b ≤ n) (hn : n ≤ 1048576) (hup : Up P a b) (hcap : Cap w g hb A n cc X) (h : RowN w g n P) :
    Calls Tryd.prog 104 #[.slice (some ⟨g, 0, none⟩) n c, .int .i64 ai, .int .i64 bi, .func (.func 80) #[] #[.pointer (some ⟨hb, 0, none⟩)]] w fun e w' => e = .returned (.tuple #[]) ∧ ∃ Q, RowN w' g n Q ∧ Mgd (ltN X) P Q a b ∧ WroteIn w w' g (g + 1) := by
  subst ha hb'
  have H := Lib.hid h
  have HCAP := Lib.hid hcap
  clear hcap
  have HUP := Lib.hid hup
  clear h hup
  go_enter Tryd.func104, Tryd.ntmps104
  go_wp2_with fail
  go_loopw [8] (fun s wr => ∃ (i : Nat) (R : Nat → Nat), a + 1 ≤ i ∧ (i ≤ b ∨ i = a + 1) ∧ s = .int .i64 i ∧ Hid (RowN wr g n R) ∧ Hid (Sh a i P R) ∧ Hid (Srt (ltN X) R a i) ∧ WroteIn w wr g (g + 1)) (fun s _ => b - (intOf s).toNat)
  case atStart => exact ⟨a + 1, P, by omega, by omega, by congr 1, H.out, Sh.refl _ _ _, fun i j h1 h2 h3 => absurd h3 (by omega), WroteIn.refl _ _ _⟩
  case round =>
    obtain ⟨i, R, hi, hib, rfl, HR, HS, HT, hw⟩ := hrel
    have HW := Lib.hid hw
    clear hw
    by_cases hlt : i < b
    · have hlt' : (i : Int) < (b : Int) := by omega
      have HI := Lib.hid (Ins.start HUP.out hlt (by omega) HS.out HT.out)
      go_wp2_with fail
      rename World => wo
      go_loopw [9] (fun s wi => ∃ (j : Nat) (Q : Nat → Nat), a ≤ j ∧ j ≤ i ∧ s = .int .i64 j ∧ Hid (RowN wi g n Q) ∧ Hid (Ins (ltN X) P Q a i j) ∧ WroteIn w wi g (g + 1)) (fun s _ => (intOf s).toNat)
      case atStart => exact ⟨i, R, by omega, by omega, rfl, HR.out, HI.out, HW.out⟩
      case round =>
        obtain ⟨j, Q, hj, hji, rfl, HQ, HJ, hwi⟩ := hrel
        have HWI := Lib.hid hwi
        have hgl := HQ.out.lt
        clear hwi
        by_cases hja : a < j
        · have hja' : (a : Int) < (j : Int) := by omega
          obtain ⟨k, rfl⟩ : ∃ k, j = k + 1 := ⟨j - 1, by omega⟩
          have p0 := HQ.out.cells (p := k + 1) (by omega)
          have q0 := HQ.out.cells (p := k) (by omega)
          have b1 : (0 : Int) ≤ (k : Int) + 1 := by omega
          have b2 : (k : Int) + 1 < (n : Int) := by omega
          have b3 : (0 : Int) ≤ (k : Int) := by omega
          have b4 : (k : Int) < (n : Int) := by omega
          have w2 : IntKind.i64.wrap (k : Int) = (k : Int) := IntWalk.i64_in _ (by omega)
          have w1 : IntKind.i64.wrap ((k : Int) + 1 - 1) = (k : Int) := by rw [show (k : Int) + 1 - 1 = k by omega]; exact w2
          have HCPW := Lib.hid (HCAP.out.wrote HWI.out)
          obtain ⟨r, hr, HC⟩ := cmpN_ex X hb A n cc (Q (k + 1)) (Q k) (HQ.out.bnd (by omega)) (HQ.out.bnd (by omega))
          cases hl : ltN X (Q (k + 1)) (Q k)
          · have hrr : ¬ r < 0 := fun h => by rw [hr.1 h] at hl; cases hl
            have HDN := Lib.hid (HJ.out.done (ltN_swo X) hj hji (.inr hl))
            clear hr hl
            rw [show ((k + 1 : Nat) : Int) = (k : Int) + 1 from rfl] at hja' ⊢
            go_wp2_with fail
            go_region_held3 (fun x => (x.cell? ⟨g, (k + 1), none⟩ = some (.int .i64 (((Q (k + 1)) : Nat) : Int))) ∧ (x.cell? ⟨g, k, none⟩ = some (.int .i64 (((Q k) : Nat) : Int)))) (first | exact ⟨p0, q0⟩ | go_keep)
              (first
                | (go_at_call 80; refine (HC.out _ (HCPW.out.drew)).mono ?_; rintro e w1 ⟨rfl, hb1⟩
                   have g5 : Below wr.heap.size wr w1 := Below.trans (Below.drew (Below.refl _ _)) (hb1.mono (by simp))
                   have RQ := HQ.out.below g5 hgl
                   have p0 := RQ.cells (p := k + 1) (by omega)
                   have q0 := RQ.cells (p := k) (by omega)
                   clear hb1))
            have HQ2 := Lib.hid RQ
            clear RQ
            go_wp2_with fail
            go_roundw
            case rel => exact ⟨i + 1, Q, by omega, by omega, by go_num, HQ2.out, HJ.out.sh, HDN.out, HWI.out.trans1 (wrote_below g5)⟩
            case measure => simp [intOf]; omega
          · have hrr : r < 0 := hr.2 hl
            have HST := Lib.hid (HJ.out.step hja hji hl)
            clear hr hl
            rw [show ((k + 1 : Nat) : Int) = (k : Int) + 1 from rfl] at hja' ⊢
            go_wp2_with fail
            go_region_held3 (fun x => (x.cell? ⟨g, (k + 1), none⟩ = some (.int .i64 (((Q (k + 1)) : Nat) : Int))) ∧ (x.cell? ⟨g, k, none⟩ = some (.int .i64 (((Q k) : Nat) : Int)))) (first | exact ⟨p0, q0⟩ | go_keep)
              (first
                | (go_at_call 80; refine (HC.out _ (HCPW.out.drew)).mono ?_; rintro e w1 ⟨rfl, hb1⟩
                   have g5 : Below wr.heap.size wr w1 := Below.trans (Below.drew (Below.refl _ _)) (hb1.mono (by simp))
                   have RQ := HQ.out.below g5 hgl
                   have p0 := RQ.cells (p := k + 1) (by omega)
                   have q0 := RQ.cells (p := k) (by omega)
                   clear hb1))
            have HQ2 := Lib.hid RQ
            have pf0 := HQ2.out.frozen ((k + 1))
            have qf0 := HQ2.out.frozen (k)
            skip
            clear RQ
            go_wp2_with fail
            go_region
            go_wp2
            have hs := HQ2.out.swap (i := k + 1) (j := k) (by omega)
            go_roundw
            case rel => exact ⟨k, _, by omega, by omega, rfl, hs.drew, HST.out, ((HWI.out.trans1 (wrote_below g5)).trans1 RowN.swapW).drew⟩
            case measure => first | (simp [intOf]; done) | (simp [intOf]; omega)
        · obtain rfl : j = a := by omega
          have hd : decide ((j : Int) < (j : Int)) = false := by simp
          have HDN := Lib.hid (HJ.out.done (ltN_swo X) hj hji (.inl rfl))
          go_wp2_with fail
          go_quiet (fail)
          go_wp2_with fail
          go_roundw
          case rel => exact ⟨i + 1, Q, by omega, by omega, by go_num, HQ.out.drewN _, HJ.out.sh, HDN.out, HWI.out.drewN _⟩
          case measure => simp [intOf]; omega
    · go_wp2
      go_end0
      refine ⟨rfl, R, HR.out, ?_, HW.out⟩
      by_cases e : i = b
      · subst e; exact ⟨HS.out, HT.out⟩
      · obtain rfl : i = a + 1 := by omega
        obtain rfl : b = a := by omega
        exact ⟨Sh.none _ (Sh.one HS.out), fun x y h1 h2 h3 => absurd h3 (by omega)⟩

end Go.Proofs.YtlepgkmpbhlajaaDoor.rod

namespace Go.Proofs.YtlepgkmpbhlajaaDoor.rod
open Go.ChangeShapes Go.WideShapes Go.ChangeAt Go.RowKit Go.Proofs.YtlepgkmpbhlajaaDoor.mem Go.Proofs.YtlepgkmpbhlajaaDoor.stab
set_option linter.unusedVariables false

theorem half_eq (i j : Nat) (hi : i + j < 4194304) : ∃ h : Nat, IntKind.i64.wrap ((i : Int) + j) = (i : Int) + j ∧ IntKind.u64.wrap ((i : Int) + j) = (i : Int) + j ∧ ((i : Int) + j) / 2 = (h : Int) ∧ IntKind.i64.wrap (h : Int) = (h : Int) ∧ h = (i + j) / 2 := by
  refine ⟨(i + j) / 2, IntWalk.i64_in _ (by omega), ?_, by omega, IntWalk.i64_in _ (by omega), rfl⟩
  show ((i : Int) + j) % 18446744073709551616 = _
  omega

set_option maxHeartbeats 4000000 in
set_option maxRecDepth 100000 in
theorem symOneN_c (X : Nat → Int) (hb : Nat) (A : Option Addr) (cc : Nat) (g n c : Nat) (P : Nat → Nat) (a m b : Nat) (ai mi bi : Int) (w : World) (ha : ai = a) (hm : mi = m) (hb' : bi = b) (h1 : m = a + 1) (h2 : m < b) (h3 : b ≤ n) (hn : n ≤ 1048576) (ht : Two (ltN X) P a m b) (hcap : Cap w g hb A n cc X) (h : RowN w g n P) :
    Calls Tryd.prog 105 #[.slice (some ⟨g, 0, none⟩) n c, .int .i64 ai, .int .i64 mi, .int .i64 bi, .func (.func 80) #[] #[.pointer (some ⟨hb, 0, none⟩)]] w fun e w' => e = .returned (.tuple #[]) ∧ ∃ Q, RowN w' g n Q ∧ Mgd (ltN X) P Q a b ∧ WroteIn w w' g (g + 1) := by
  subst ha hm hb'
  have H := Lib.hid h
  have HCAP := Lib.hid hcap
  clear hcap
  have HT := Lib.hid ht
  have e1 : (m : Int) - (a : Int) = 1 := by omega
  have HM := Lib.hid h1
  clear h ht h1
  go_enter Tryd.func105, Tryd.ntmps105
  go_wp2_with fail
  go_outline
  go_loopw [10, 11] (fun s t wr => ∃ i j : Nat, m ≤ i ∧ i ≤ j ∧ j ≤ b ∧ s = .int .i64 i ∧ t = .int .i64 j ∧ Hid (RowN wr g n P) ∧ Hid (i = m ∨ ltN X (P (i - 1)) (P a) = true) ∧ Hid (j = b ∨ ltN X (P j) (P a) = false) ∧ WroteIn w wr g (g + 1)) (fun s t _ => (intOf t).toNat - (intOf s).toNat)
  case atStart => exact ⟨m, b, by omega, by omega, by omega, rfl, rfl, H.out, .inl rfl, .inl rfl, WroteIn.refl _ _ _⟩
  case round =>
    obtain ⟨i, j, i1, i2, i3, rfl, rfl, HR, HI, HJ, hw⟩ := hrel
    have HW := Lib.hid hw
    clear hw
    by_cases hlt : i < j
    · have hlt' : (i : Int) < (j : Int) := by omega
      obtain ⟨h, k1, k2, k3, k4, k5⟩ := half_eq i j (by omega)
      have h1 : i ≤ h := by omega
      have h2 : h < j := by omega
      have K5 := Lib.hid k5
      clear k5
      have p0 := HR.out.cells (p := h) (by omega)
      have q0 := HR.out.cells (p := a) (by omega)
      have hgl := HR.out.lt
      have b1 : (0 : Int) ≤ (h : Int) := by omega
      have b2 : (h : Int) < (n : Int) := by omega
      have b3 : (0 : Int) ≤ (a : Int) := by omega
      have b4 : (a : Int) < (n : Int) := by omega
      have HCPW := Lib.hid (HCAP.out.wrote HW.out)
      obtain ⟨r, hr, HC⟩ := cmpN_ex X hb A n cc (P h) (P a) (HR.out.bnd (by omega)) (HR.out.bnd (by omega))
      cases hl : ltN X (P h) (P a)
      · have hrr : ¬ r < 0 := fun h => by rw [hr.1 h] at hl; cases hl
        have HL := Lib.hid hl
        clear hr hl
        go_wp2_with fail
        go_region_held3 (fun x => (x.cell? ⟨g, h, none⟩ = some (.int .i64 (((P h) : Nat) : Int))) ∧ (x.cell? ⟨g, a, none⟩ = some (.int .i64 (((P a) : Nat) : Int)))) (first | exact ⟨p0, q0⟩ | go_keep)
          (first
            | (go_at_call 80; refine (HC.out _ (HCPW.out.drew)).mono ?_; rintro e w1 ⟨rfl, hb1⟩
               have g5 : Below wr.heap.size wr w1 := Below.trans (Below.drew (Below.refl _ _)) (hb1.mono (by simp))
               have RQ := HR.out.below g5 hgl
               have p0 := RQ.cells (p := h) (by omega)
               have q0 := RQ.cells (p := a) (by omega)
               clear hb1))
        have HQ2 := Lib.hid RQ
        clear RQ
        go_wp2_with fail
        go_roundw
        case rel => exact ⟨i, h, by omega, by omega, by omega, rfl, rfl, HQ2.out, HI.out, .inr HL.out, HW.out.trans1 (wrote_below g5)⟩
        case measure => simp [intOf]; omega
      · have hrr : r < 0 := hr.2 hl
        have HL := Lib.hid hl
        clear hr hl
        go_wp2_with fail
        go_region_held3 (fun x => (x.cell? ⟨g, h, none⟩ = some (.int .i64 (((P h) : Nat) : Int))) ∧ (x.cell? ⟨g, a, none⟩ = some (.int .i64 (((P a) : Nat) : Int)))) (first | exact ⟨p0, q0⟩ | go_keep)
          (first
            | (go_at_call 80; refine (HC.out _ (HCPW.out.drew)).mono ?_; rintro e w1 ⟨rfl, hb1⟩
               have g5 : Below wr.heap.size wr w1 := Below.trans (Below.drew (Below.refl _ _)) (hb1.mono (by simp))
               have RQ := HR.out.below g5 hgl
               have p0 := RQ.cells (p := h) (by omega)
               have q0 := RQ.cells (p := a) (by omega)
               clear hb1))
        have HQ2 := Lib.hid RQ
        clear RQ
        go_wp2_with fail
        go_roundw
        case rel => exact ⟨h + 1, j, by omega, by omega, by omega, by go_num, rfl, HQ2.out, .inr HL.out, HJ.out, HW.out.trans1 (wrote_below g5)⟩
        case measure => simp [intOf]; omega
    · obtain rfl : i = j := by omega
      have HD := Lib.hid (HT.out.one_left (ltN_swo X) HM.out i1 i3 HI.out HJ.out)
      obtain ⟨i', rfl⟩ : ∃ i', i = i' + 1 := ⟨i - 1, by have := HM.out; omega⟩
      have ha' : a ≤ i' := by have := HM.out; omega
      rw [show ((i' + 1 : Nat) : Int) = (i' : Int) + 1 from rfl]
      have w1 : IntKind.i64.wrap ((i' : Int) + 1 - 1) = (i' : Int) := by rw [show (i' : Int) + 1 - 1 = i' by omega]; exact IntWalk.i64_in _ (by omega)
      have w2 : IntKind.i64.wrap (i' : Int) = (i' : Int) := IntWalk.i64_in _ (by omega)
      go_wp2_with fail
      go_outline
      go_loopw [13] (fun s wi => ∃ k : Nat, a ≤ k ∧ k ≤ i' ∧ s = .int .i64 k ∧ Hid (RowN wi g n (mvR P a k)) ∧ WroteIn w wi g (g + 1)) (fun s _ => i' - (intOf s).toNat)
      case atStart => exact ⟨a, by omega, by omega, rfl, HR.out.congr (fun x _ => (mvR_zero P a x).symm), HW.out⟩
      case round =>
        obtain ⟨k, ka, ki, rfl, HK, hwk⟩ := hrel
        have HWK := Lib.hid hwk
        clear hwk
        by_cases hlt2 : k < i'
        · have hlt2' : (k : Int) < (i' : Int) := by omega
          have p0 := HK.out.cells (p := k) (by omega)
          have q0 := HK.out.cells (p := k + 1) (by omega)
          have pf0 := HK.out.frozen (k)
          have qf0 := HK.out.frozen ((k + 1))
          have b1 : (0 : Int) ≤ (k : Int) := by omega
          have b2 : (k : Int) < (n : Int) := by omega
          have b3 : (0 : Int) ≤ (k : Int) + 1 := by omega
          have b4 : (k : Int) + 1 < (n : Int) := by omega
          have hs := Lib.hid ((HK.out.swap (i := k) (j := k + 1) (by omega)).congr (fun x _ => mvR_succ P ka x))
          go_wp2_with fail
          go_region
          go_wp2
          go_roundw
          case rel => exact ⟨k + 1, by omega, by omega, by go_num, hs.out.drew, (HWK.out.trans1 RowN.swapW).drew⟩
          case measure => simp [intOf]; omega
        · obtain rfl : k = i' := by omega
          have hnl : ¬ (k : Int) < (k : Int) := by omega
          go_wp2_with fail
          refine bodyPost_ret (results_none rfl _ _ _) rfl ?_
          exact ⟨rfl, _, HK.out, HD.out, HWK.out⟩

set_option maxHeartbeats 4000000 in
set_option maxRecDepth 100000 in
theorem symOneRN_c (X : Nat → Int) (hb : Nat) (A : Option Addr) (cc : Nat) (g n c : Nat) (P : Nat → Nat) (a m b : Nat) (ai mi bi : Int) (w : World) (ha : ai = a) (hm : mi = m) (hb' : bi = b) (h0 : a + 1 < m) (h1 : b = m + 1) (h3 : b ≤ n) (hn : n ≤ 1048576) (ht : Two (ltN X) P a m b) (hcap : Cap w g hb A n cc X) (h : RowN w g n P) :
    Calls Tryd.prog 105 #[.slice (some ⟨g, 0, none⟩) n c, .int .i64 ai, .int .i64 mi, .int .i64 bi, .func (.func 80) #[] #[.pointer (some ⟨hb, 0, none⟩)]] w fun e w' => e = .returned (.tuple #[]) ∧ ∃ Q, RowN w' g n Q ∧ Mgd (ltN X) P Q a b ∧ WroteIn w w' g (g + 1) := by
  subst ha hm hb'
  have H := Lib.hid h
  have HCAP := Lib.hid hcap
  clear hcap
  have HT := Lib.hid ht
  obtain ⟨d, hd, hd1⟩ : ∃ d : Int, (m : Int) - (a : Int) = d ∧ ¬ d = 1 := ⟨_, rfl, by omega⟩
  have e0 : (d == 1) = false := by simpa using hd1
  have hdr : IntKind.i64.wrap d = d := IntWalk.i64_in _ (by omega)
  have e1 : (b : Int) - (m : Int) = 1 := by omega
  have HM := Lib.hid h1
  have HM0 := Lib.hid h0
  clear h ht h1 h0
  go_enter Tryd.func105, Tryd.ntmps105
  go_wp2_with fail
  go_loopw [14, 15] (fun s t wr => ∃ i j : Nat, a ≤ i ∧ i ≤ j ∧ j ≤ m ∧ s = .int .i64 i ∧ t = .int .i64 j ∧ Hid (RowN wr g n P) ∧ Hid (i = a ∨ ltN X (P m) (P (i - 1)) = false) ∧ Hid (j = m ∨ ltN X (P m) (P j) = true) ∧ WroteIn w wr g (g + 1)) (fun s t _ => (intOf t).toNat - (intOf s).toNat)
  case atStart => exact ⟨a, m, by omega, by have := HM0.out; omega, by omega, rfl, rfl, H.out, .inl rfl, .inl rfl, WroteIn.refl _ _ _⟩
  case round =>
    obtain ⟨i, j, i1, i2, i3, rfl, rfl, HR, HI, HJ, hw⟩ := hrel
    have HW := Lib.hid hw
    clear hw
    have hmb : m < n := by have := HM.out; omega
    by_cases hlt : i < j
    · have hlt' : (i : Int) < (j : Int) := by omega
      obtain ⟨h, k1, k2, k3, k4, k5⟩ := half_eq i j (by omega)
      have h1 : i ≤ h := by omega
      have h2 : h < j := by omega
      have K5 := Lib.hid k5
      clear k5
      have p0 := HR.out.cells (p := m) (by omega)
      have q0 := HR.out.cells (p := h) (by omega)
      have hgl := HR.out.lt
      have b1 : (0 : Int) ≤ (m : Int) := by omega
      have b2 : (m : Int) < (n : Int) := by omega
      have b3 : (0 : Int) ≤ (h : Int) := by omega
      have b4 : (h : Int) < (n : Int) := by omega
      have HCPW := Lib.hid (HCAP.out.wrote HW.out)
      obtain ⟨r, hr, HC⟩ := cmpN_ex X hb A n cc (P m) (P h) (HR.out.bnd (by omega)) (HR.out.bnd (by omega))
      cases hl : ltN X (P m) (P h)
      · have hrr : ¬ r < 0 := fun h => by rw [hr.1 h] at hl; cases hl
        have HL := Lib.hid hl
        have hdr := decide_eq_false hrr
        clear hr hl
        go_wp2_with fail
        go_region_held3 (fun x => (x.cell? ⟨g, m, none⟩ = some (.int .i64 (((P m) : Nat) : Int))) ∧ (x.cell? ⟨g, h, none⟩ = some (.int .i64 (((P h) : Nat) : Int)))) (first | exact ⟨p0, q0⟩ | go_keep)
          (first
            | (go_at_call 80; refine (HC.out _ (HCPW.out.drew)).mono ?_; rintro e w1 ⟨rfl, hb1⟩
               have g5 : Below wr.heap.size wr w1 := Below.trans (Below.drew (Below.refl _ _)) (hb1.mono (by simp))
               have RQ := HR.out.below g5 hgl
               have p0 := RQ.cells (p := m) (by omega)
               have q0 := RQ.cells (p := h) (by omega)
               clear hb1))
        have HQ2 := Lib.hid RQ
        clear RQ
        go_wp2_with fail
        go_roundw
        case rel => exact ⟨h + 1, j, by omega, by omega, by omega, by go_num, rfl, HQ2.out, .inr HL.out, HJ.out, HW.out.trans1 (wrote_below g5)⟩
        case measure => simp [intOf]; omega
      · have hrr : r < 0 := hr.2 hl
        have HL := Lib.hid hl
        have hdr := decide_eq_true hrr
        clear hr hl
        go_wp2_with fail
        go_region_held3 (fun x => (x.cell? ⟨g, m, none⟩ = some (.int .i64 (((P m) : Nat) : Int))) ∧ (x.cell? ⟨g, h, none⟩ = some (.int .i64 (((P h) : Nat) : Int)))) (first | exact ⟨p0, q0⟩ | go_keep)
          (first
            | (go_at_call 80; refine (HC.out _ (HCPW.out.drew)).mono ?_; rintro e w1 ⟨rfl, hb1⟩
               have g5 : Below wr.heap.size wr w1 := Below.trans (Below.drew (Below.refl _ _)) (hb1.mono (by simp))
               have RQ := HR.out.below g5 hgl
               have p0 := RQ.cells (p := m) (by omega)
               have q0 := RQ.cells (p := h) (by omega)
               clear hb1))
        have HQ2 := Lib.hid RQ
        clear RQ
        go_wp2_with fail
        go_roundw
        case rel => exact ⟨i, h, by omega, by omega, by omega, rfl, rfl, HQ2.out, HI.out, .inr HL.out, HW.out.trans1 (wrote_below g5)⟩
        case measure => simp [intOf]; omega
    · obtain rfl : i = j := by omega
      have HD := Lib.hid (HT.out.one_right (ltN_swo X) HM.out i1 i3 HI.out HJ.out)
      go_wp2_with fail
      go_loopw [17] (fun s wi => ∃ k : Nat, i ≤ k ∧ k ≤ m ∧ s = .int .i64 k ∧ Hid (RowN wi g n (mvL P m k)) ∧ WroteIn w wi g (g + 1)) (fun s _ => (intOf s).toNat)
      case atStart => exact ⟨m, by omega, by omega, rfl, HR.out.congr (fun x _ => (mvL_zero P m x).symm), HW.out⟩
      case round =>
        obtain ⟨k, ka, ki, rfl, HK, hwk⟩ := hrel
        have HWK := Lib.hid hwk
        clear hwk
        by_cases hlt2 : i < k
        · obtain ⟨k, rfl⟩ : ∃ k', k = k' + 1 := ⟨k - 1, by omega⟩
          have hlt2' : (i : Int) < (k : Int) + 1 := by omega
          have p0 := HK.out.cells (p := k + 1) (by omega)
          have q0 := HK.out.cells (p := k) (by omega)
          have pf0 := HK.out.frozen (k)
          have qf0 := HK.out.frozen ((k + 1))
          have b1 : (0 : Int) ≤ (k : Int) := by omega
          have b2 : (k : Int) < (n : Int) := by omega
          have b3 : (0 : Int) ≤ (k : Int) + 1 := by omega
          have b4 : (k : Int) + 1 < (n : Int) := by omega
          have w2 : IntKind.i64.wrap (k : Int) = (k : Int) := IntWalk.i64_in _ (by omega)
          have w1 : IntKind.i64.wrap ((k : Int) + 1 - 1) = (k : Int) := by rw [show (k : Int) + 1 - 1 = k by omega]; exact w2
          have hs := Lib.hid ((HK.out.swap (i := k + 1) (j := k) (by omega)).congr (fun x _ => mvL_succ P (show k < m by omega) x))
          rw [show ((k + 1 : Nat) : Int) = (k : Int) + 1 from rfl]
          go_wp2_with fail
          go_region
          go_wp2
          go_roundw
          case rel => exact ⟨k, by omega, by omega, rfl, hs.out.drew, (HWK.out.trans1 RowN.swapW).drew⟩
          case measure => first | (simp [intOf]; done) | (simp [intOf]; omega)
        · obtain rfl : k = i := by omega
          have hnl : ¬ (k : Int) < (k : Int) := by omega
          go_wp2_with fail
          refine bodyPost_ret (results_none rfl _ _ _) rfl ?_
          exact ⟨rfl, _, HK.out, HD.out, HWK.out⟩

end Go.Proofs.YtlepgkmpbhlajaaDoor.rod

namespace Go.Proofs.YtlepgkmpbhlajaaDoor.rod
open Go.ChangeShapes Go.WideShapes Go.ChangeAt Go.RowKit Go.Proofs.YtlepgkmpbhlajaaDoor.mem Go.Proofs.YtlepgkmpbhlajaaDoor.stab
set_option linter.unusedVariables false

theorem rot_id {P : Nat → Nat} {s m e : Nat} (h1 : s ≤ m) (h2 : m ≤ e) (h : s = m ∨ e = m) (x : Nat) : rot P s m e x = P x := by
  unfold rot
  by_cases g : s ≤ x ∧ x < e
  · rw [if_pos g]
    rcases h with h | h
    · rw [if_pos (by omega)]; congr 1; omega
    · rw [if_neg (by omega)]; congr 1; omega
  · rw [if_neg g]

set_option maxHeartbeats 8000000 in
set_option maxRecDepth 100000 in
theorem symMergeN_c (X : Nat → Int) (hb : Nat) (A : Option Addr) (cc : Nat) (g n c : Nat) (hn : n ≤ 1048576) : ∀ (d : Nat) (P : Nat → Nat) (a m b : Nat) (ai mi bi : Int) (w : World), b - a ≤ d → ai = a → mi = m → bi = b → a < m → m < b → b ≤ n → Two (ltN X) P a m b → Cap w g hb A n cc X → RowN w g n P →
    Calls Tryd.prog 105 #[.slice (some ⟨g, 0, none⟩) n c, .int .i64 ai, .int .i64 mi, .int .i64 bi, .func (.func 80) #[] #[.pointer (some ⟨hb, 0, none⟩)]] w fun e w' => e = .returned (.tuple #[]) ∧ ∃ Q, RowN w' g n Q ∧ Mgd (ltN X) P Q a b ∧ WroteIn w w' g (g + 1) := by
  intro d
  induction d with
  | zero => intro P a m b ai mi bi w hd _ _ _ h1 h2 _ _ _ _; omega
  | succ d ih =>
    intro P a m b ai mi bi w hd ha hm hb' h1 h2 h3 ht hcap h
    by_cases c1 : m = a + 1
    · exact symOneN_c X hb A cc g n c P a m b ai mi bi w ha hm hb' c1 h2 h3 hn ht hcap h
    by_cases c2 : b = m + 1
    · exact symOneRN_c X hb A cc g n c P a m b ai mi bi w ha hm hb' (by omega) c2 h3 hn ht hcap h
    have IH := Lib.hid ih
    clear ih
    subst ha hm hb'
    have H := Lib.hid h
    have HCAP := Lib.hid hcap
    clear hcap
    have HT := Lib.hid ht
    obtain ⟨q1, hq1, hq1'⟩ : ∃ d : Int, (m : Int) - (a : Int) = d ∧ ¬ d = 1 := ⟨_, rfl, by omega⟩
    have e0 : (q1 == 1) = false := by simpa using hq1'
    have hq1w : IntKind.i64.wrap q1 = q1 := IntWalk.i64_in _ (by omega)
    obtain ⟨q2, hq2, hq2'⟩ : ∃ d : Int, (b : Int) - (m : Int) = d ∧ ¬ d = 1 := ⟨_, rfl, by omega⟩
    have e1 : (q2 == 1) = false := by simpa using hq2'
    have hq2w : IntKind.i64.wrap q2 = q2 := IntWalk.i64_in _ (by omega)
    obtain ⟨D, k1, k2, k3, k4, k5⟩ := half_eq a b (by omega)
    have d1 : a < D := by omega
    have d2 : D < b := by omega
    have d3 : D + D ≤ a + b := by omega
    have d4 : a + b ≤ D + D + 1 := by omega
    have k6 : IntKind.i64.wrap ((D : Int) + m) = (D : Int) + m := IntWalk.i64_in _ (by omega)
    clear h ht k5
    by_cases hDm : D < m
    · have hDm' : (D : Int) < (m : Int) := by omega
      obtain ⟨s0, hs0⟩ : ∃ s0 : Nat, D + m - b = s0 := ⟨_, rfl⟩
      have hs0i : (D : Int) + m - b = (s0 : Int) := by omega
      have hs0w : IntKind.i64.wrap (s0 : Int) = (s0 : Int) := IntWalk.i64_in _ (by omega)
      obtain ⟨r0, hr0⟩ : ∃ r0 : Nat, D = r0 := ⟨_, rfl⟩
      subst hr0
      go_enter Tryd.func105, Tryd.ntmps105
      go_wp2_with fail
      go_loopw [20, 21] (fun x y wr => ∃ s r : Nat, s0 ≤ s ∧ s ≤ r ∧ r ≤ D ∧ x = .int .i64 s ∧ y = .int .i64 r ∧ Hid (RowN wr g n P) ∧ Hid (s = s0 ∨ ltN X (P (D + m - s)) (P (s - 1)) = false) ∧ Hid (r = D ∨ ltN X (P (D + m - s - 1 + s - r)) (P r) = true) ∧ WroteIn w wr g (g + 1)) (fun x y _ => (intOf y).toNat - (intOf x).toNat)
      case atStart => exact ⟨s0, D, Nat.le_refl _, by omega, Nat.le_refl _, rfl, rfl, H.out, .inl rfl, .inl rfl, WroteIn.refl _ _ _⟩
      case round =>
        obtain ⟨s, r, s1, s2, s3, rfl, rfl, HR, HI, HJ, hw⟩ := hrel
        have HW := Lib.hid hw
        clear hw
        by_cases hlt : s < r
        · have hlt' : (s : Int) < (r : Int) := by omega
          obtain ⟨h, k1, k2, k3, k4, k5⟩ := half_eq s r (by omega)
          have h1 : s ≤ h := by omega
          have h2 : h < r := by omega
          clear k5
          obtain ⟨q, hq⟩ : ∃ q : Nat, D + m - 1 - h = q := ⟨_, rfl⟩
          have hqi : (D : Int) + m - 1 - h = (q : Int) := by omega
          have hqw : IntKind.i64.wrap (q : Int) = (q : Int) := IntWalk.i64_in _ (by omega)
          have hqn : q < n := by omega
          have p0 := HR.out.cells (p := q) (by omega)
          have q0 := HR.out.cells (p := h) (by omega)
          have hgl := HR.out.lt
          have b1 : (0 : Int) ≤ (q : Int) := by omega
          have b2 : (q : Int) < (n : Int) := by omega
          have b3 : (0 : Int) ≤ (h : Int) := by omega
          have b4 : (h : Int) < (n : Int) := by omega
          have HCPW := Lib.hid (HCAP.out.wrote HW.out)
          obtain ⟨r', hr, HC⟩ := cmpN_ex X hb A n cc (P q) (P h) (HR.out.bnd (by omega)) (HR.out.bnd (by omega))
          cases hl : ltN X (P q) (P h)
          · have hrr : ¬ r' < 0 := fun h => by rw [hr.1 h] at hl; cases hl
            have HL := Lib.hid (show ltN X (P (D + m - (h + 1))) (P (h + 1 - 1)) = false by rw [show D + m - (h + 1) = q by omega, show h + 1 - 1 = h by omega]; exact hl)
            have HJ2 := Lib.hid (show r = D ∨ ltN X (P (D + m - (h + 1) - 1 + (h + 1) - r)) (P r) = true by rw [show D + m - (h + 1) - 1 + (h + 1) - r = D + m - s - 1 + s - r by omega]; exact HJ.out)
            have hdr := decide_eq_false hrr
            clear hr hl
            go_wp2_with fail
            go_region_held3 (fun x => (x.cell? ⟨g, q, none⟩ = some (.int .i64 (((P q) : Nat) : Int))) ∧ (x.cell? ⟨g, h, none⟩ = some (.int .i64 (((P h) : Nat) : Int)))) (first | exact ⟨p0, q0⟩ | go_keep)
              (first
                | (go_at_call 80; refine (HC.out _ (HCPW.out.drew)).mono ?_; rintro e w1 ⟨rfl, hb1⟩
                   have g5 : Below wr.heap.size wr w1 := Below.trans (Below.drew (Below.refl _ _)) (hb1.mono (by simp))
                   have RQ := HR.out.below g5 hgl
                   have p0 := RQ.cells (p := q) (by omega)
                   have q0 := RQ.cells (p := h) (by omega)
                   clear hb1))
            have HQ2 := Lib.hid RQ
            clear RQ
            go_wp2_with fail
            go_roundw
            case rel => exact ⟨h + 1, r, by omega, by omega, by omega, by go_num, rfl, HQ2.out, .inr HL.out, HJ2.out, HW.out.trans1 (wrote_below g5)⟩
            case measure => simp [intOf]; omega
          · have hrr : r' < 0 := hr.2 hl
            have HL := Lib.hid (show ltN X (P (D + m - s - 1 + s - h)) (P h) = true by rw [show D + m - s - 1 + s - h = q by omega]; exact hl)
            have hdr := decide_eq_true hrr
            clear hr hl
            go_wp2_with fail
            go_region_held3 (fun x => (x.cell? ⟨g, q, none⟩ = some (.int .i64 (((P q) : Nat) : Int))) ∧ (x.cell? ⟨g, h, none⟩ = some (.int .i64 (((P h) : Nat) : Int)))) (first | exact ⟨p0, q0⟩ | go_keep)
              (first
                | (go_at_call 80; refine (HC.out _ (HCPW.out.drew)).mono ?_; rintro e w1 ⟨rfl, hb1⟩
                   have g5 : Below wr.heap.size wr w1 := Below.trans (Below.drew (Below.refl _ _)) (hb1.mono (by simp))
                   have RQ := HR.out.below g5 hgl
                   have p0 := RQ.cells (p := q) (by omega)
                   have q0 := RQ.cells (p := h) (by omega)
                   clear hb1))
            have HQ2 := Lib.hid RQ
            clear RQ
            go_wp2_with fail
            go_roundw
            case rel => exact ⟨s, h, by omega, by omega, by omega, rfl, rfl, HQ2.out, HI.out, .inr HL.out, HW.out.trans1 (wrote_below g5)⟩
            case measure => simp [intOf]; omega
        · obtain rfl : s = r := by omega
          have hnl : ¬ (s : Int) < (s : Int) := by omega
          obtain ⟨e, he⟩ : ∃ e : Nat, D + m - s = e := ⟨_, rfl⟩
          have hei : (D : Int) + m - s = (e : Int) := by omega
          have hew : IntKind.i64.wrap (e : Int) = (e : Int) := IntWalk.i64_in _ (by omega)
          have f1 : a ≤ s := by omega
          have f2 : s ≤ m := by omega
          have f3 : m ≤ e := by omega
          have f4 : e ≤ b := by omega
          have f5 : s ≤ D := by omega
          have f6 : D ≤ e := by omega
          have cc1 : s = a ∨ e = b ∨ ltN X (P e) (P (s - 1)) = false := by
            rcases HI.out with h | h
            · exact .inr (.inl (by omega))
            · rw [he] at h; exact .inr (.inr h)
          have cc2 : s = m ∨ e = m ∨ ltN X (P (e - 1)) (P s) = true := by
            by_cases hz : s = D
            · exact .inr (.inl (by omega))
            · rcases HJ.out with h | h
              · exact absurd h hz
              · rw [show D + m - s - 1 + s - s = e - 1 by omega] at h; exact .inr (.inr h)
          have HH := Lib.hid (HT.out.halves (d := D) (ltN_swo X) f1 f2 f3 f4 (by omega) cc1 cc2)
          have HRS := Lib.hid (Sh.wide (Sh.rot (R := P) f2 f3) f1 f4)
          clear cc1 cc2
          by_cases g1 : s < m ∧ m < e
          · obtain ⟨g1, g2⟩ := g1
            have i1 : (s : Int) < (m : Int) := by omega
            have i2 : (m : Int) < (e : Int) := by omega
            have i3 : (s : Int) < (D : Int) := by omega
            have i4 : (D : Int) < (e : Int) := by omega
            by_cases g3 : a < s
            · have i5 : (a : Int) < (s : Int) := by omega
              by_cases g4 : e < b
              · have i6 : (e : Int) < (b : Int) := by omega
                go_wp2_with fail
                refine (rotateN_c _ g n c P s m e _ _ _ _ rfl rfl rfl g1 g2 (by omega) hn HR.out).mono ?_
                rintro e1 w1 ⟨rfl, hr1, hw1⟩
                have HR1 := Lib.hid hr1
                clear hr1
                go_wp2_with fail
                refine (IH.out _ a s D _ _ _ _ (by omega) rfl rfl rfl (by omega) (by omega) (by omega) HH.out.one (HCAP.out.wrote (HW.out.trans1 hw1)) HR1.out).mono ?_
                rintro e2 w2 ⟨rfl, Q1, hq1, hm1, hw2⟩
                have HQ1 := Lib.hid hq1
                have HM1 := Lib.hid hm1
                clear hq1 hm1
                go_wp2_with fail
                refine (IH.out _ D e b _ _ _ _ (by omega) rfl rfl rfl (by omega) (by omega) (by omega) (HH.out.two.keep HM1.out.sh (by omega)) (HCAP.out.wrote ((HW.out.trans1 hw1).trans1 hw2)) HQ1.out).mono ?_
                rintro e3 w3 ⟨rfl, Q2, hq2, hm2, hw3⟩
                go_wp2
                go_end0
                exact ⟨rfl, Q2, hq2, HH.out.join (by omega) (by omega) HRS.out HM1.out hm2, ((HW.out.trans1 hw1).trans1 hw2).trans1 hw3⟩
              · obtain rfl : e = b := by omega
                have i6 : ¬ (e : Int) < (e : Int) := by omega
                go_wp2_with fail
                refine (rotateN_c _ g n c P s m e _ _ _ _ rfl rfl rfl g1 g2 (by omega) hn HR.out).mono ?_
                rintro e1 w1 ⟨rfl, hr1, hw1⟩
                have HR1 := Lib.hid hr1
                clear hr1
                go_wp2_with fail
                refine (IH.out _ a s D _ _ _ _ (by omega) rfl rfl rfl (by omega) (by omega) (by omega) HH.out.one (HCAP.out.wrote (HW.out.trans1 hw1)) HR1.out).mono ?_
                rintro e2 w2 ⟨rfl, Q1, hq1, hm1, hw2⟩
                have HQ1 := Lib.hid hq1
                have HM1 := Lib.hid hm1
                clear hq1 hm1
                go_wp2_with fail
                go_end0
                exact ⟨rfl, Q1, HQ1.out, HH.out.join (by omega) (by omega) HRS.out HM1.out (Mgd.refl ((HH.out.two.keep HM1.out.sh (by omega)).id_left rfl)), (HW.out.trans1 hw1).trans1 hw2⟩
            · obtain rfl : s = a := by omega
              have i5 : ¬ (s : Int) < (s : Int) := by omega
              by_cases g4 : e < b
              · have i6 : (e : Int) < (b : Int) := by omega
                go_wp2_with fail
                refine (rotateN_c _ g n c P s m e _ _ _ _ rfl rfl rfl g1 g2 (by omega) hn HR.out).mono ?_
                rintro e1 w1 ⟨rfl, hr1, hw1⟩
                have HR1 := Lib.hid hr1
                clear hr1
                go_wp2_with fail
                refine (IH.out _ D e b _ _ _ _ (by omega) rfl rfl rfl (by omega) (by omega) (by omega) HH.out.two (HCAP.out.wrote (HW.out.trans1 hw1)) HR1.out).mono ?_
                rintro e3 w3 ⟨rfl, Q2, hq2, hm2, hw3⟩
                go_wp2
                go_end0
                exact ⟨rfl, Q2, hq2, HH.out.join (by omega) (by omega) HRS.out (Mgd.refl (HH.out.one.id_right rfl)) hm2, (HW.out.trans1 hw1).trans1 hw3⟩
              · obtain rfl : e = b := by omega
                have i6 : ¬ (e : Int) < (e : Int) := by omega
                go_wp2_with fail
                refine (rotateN_c _ g n c P s m e _ _ _ _ rfl rfl rfl g1 g2 (by omega) hn HR.out).mono ?_
                rintro e1 w1 ⟨rfl, hr1, hw1⟩
                have HR1 := Lib.hid hr1
                clear hr1
                go_wp2_with fail
                go_end0
                exact ⟨rfl, _, HR1.out, HH.out.join (by omega) (by omega) HRS.out (Mgd.refl (HH.out.one.id_right rfl)) (Mgd.refl (HH.out.two.id_left rfl)), HW.out.trans1 hw1⟩
          · have HR1 := Lib.hid (HR.out.congr (fun x _ => (rot_id (P := P) f2 f3 (by omega) x).symm))
            by_cases g2 : s = m
            · subst g2
              obtain rfl : D = e := by omega
              have i1 : ¬ (s : Int) < (s : Int) := by omega
              have i2 : (a : Int) < (s : Int) := by omega
              have i4 : ¬ (D : Int) < (D : Int) := by omega
              by_cases g3 : s < D
              · have i3 : (s : Int) < (D : Int) := by omega
                go_wp2_with fail
                refine (IH.out _ a s D _ _ _ _ (by omega) rfl rfl rfl (by omega) (by omega) (by omega) HH.out.one (HCAP.out.wrote HW.out) HR1.out).mono ?_
                rintro e2 w2 ⟨rfl, Q1, hq1, hm1, hw2⟩
                have HQ1 := Lib.hid hq1
                have HM1 := Lib.hid hm1
                clear hq1 hm1
                go_wp2_with fail
                go_end0
                exact ⟨rfl, Q1, HQ1.out, HH.out.join (by omega) (by omega) HRS.out HM1.out (Mgd.refl ((HH.out.two.keep HM1.out.sh (by omega)).id_right rfl)), HW.out.trans1 hw2⟩
              · obtain rfl : s = D := by omega
                go_wp2_with fail
                go_end0
                exact ⟨rfl, _, HR1.out, HH.out.join (by omega) (by omega) HRS.out (Mgd.refl (HH.out.one.id_left rfl)) (Mgd.refl (HH.out.two.id_right rfl)), HW.out⟩
            · obtain rfl : e = m := by omega
              obtain rfl : s = D := by omega
              have i1 : (s : Int) < (e : Int) := by omega
              have i2 : ¬ (e : Int) < (e : Int) := by omega
              have i3 : (a : Int) < (s : Int) := by omega
              have i4 : ¬ (s : Int) < (s : Int) := by omega
              have i5 : (e : Int) < (b : Int) := by omega
              go_wp2_with fail
              refine (IH.out _ s e b _ _ _ _ (by omega) rfl rfl rfl (by omega) (by omega) (by omega) HH.out.two (HCAP.out.wrote HW.out) HR1.out).mono ?_
              rintro e3 w3 ⟨rfl, Q2, hq2, hm2, hw3⟩
              go_wp2
              go_end0
              exact ⟨rfl, Q2, hq2, HH.out.join (by omega) (by omega) HRS.out (Mgd.refl (HH.out.one.id_left rfl)) hm2, HW.out.trans1 hw3⟩
    · have hDm' : ¬ (D : Int) < (m : Int) := by omega
      go_enter Tryd.func105, Tryd.ntmps105
      go_wp2_with fail
      go_loopw [20, 21] (fun x y wr => ∃ s r : Nat, a ≤ s ∧ s ≤ r ∧ r ≤ m ∧ x = .int .i64 s ∧ y = .int .i64 r ∧ Hid (RowN wr g n P) ∧ Hid (s = a ∨ ltN X (P (D + m - s)) (P (s - 1)) = false) ∧ Hid (r = m ∨ ltN X (P (D + m - s - 1 + s - r)) (P r) = true) ∧ WroteIn w wr g (g + 1)) (fun x y _ => (intOf y).toNat - (intOf x).toNat)
      case atStart => exact ⟨a, m, Nat.le_refl _, by omega, Nat.le_refl _, rfl, rfl, H.out, .inl rfl, .inl rfl, WroteIn.refl _ _ _⟩
      case round =>
        obtain ⟨s, r, s1, s2, s3, rfl, rfl, HR, HI, HJ, hw⟩ := hrel
        have HW := Lib.hid hw
        clear hw
        by_cases hlt : s < r
        · have hlt' : (s : Int) < (r : Int) := by omega
          obtain ⟨h, k1, k2, k3, k4, k5⟩ := half_eq s r (by omega)
          have h1 : s ≤ h := by omega
          have h2 : h < r := by omega
          clear k5
          obtain ⟨q, hq⟩ : ∃ q : Nat, D + m - 1 - h = q := ⟨_, rfl⟩
          have hqi : (D : Int) + m - 1 - h = (q : Int) := by omega
          have hqw : IntKind.i64.wrap (q : Int) = (q : Int) := IntWalk.i64_in _ (by omega)
          have hqn : q < n := by omega
          have p0 := HR.out.cells (p := q) (by omega)
          have q0 := HR.out.cells (p := h) (by omega)
          have hgl := HR.out.lt
          have b1 : (0 : Int) ≤ (q : Int) := by omega
          have b2 : (q : Int) < (n : Int) := by omega
          have b3 : (0 : Int) ≤ (h : Int) := by omega
          have b4 : (h : Int) < (n : Int) := by omega
          have HCPW := Lib.hid (HCAP.out.wrote HW.out)
          obtain ⟨r', hr, HC⟩ := cmpN_ex X hb A n cc (P q) (P h) (HR.out.bnd (by omega)) (HR.out.bnd (by omega))
          cases hl : ltN X (P q) (P h)
          · have hrr : ¬ r' < 0 := fun h => by rw [hr.1 h] at hl; cases hl
            have HL := Lib.hid (show ltN X (P (D + m - (h + 1))) (P (h + 1 - 1)) = false by rw [show D + m - (h + 1) = q by omega, show h + 1 - 1 = h by omega]; exact hl)
            have HJ2 := Lib.hid (show r = m ∨ ltN X (P (D + m - (h + 1) - 1 + (h + 1) - r)) (P r) = true by rw [show D + m - (h + 1) - 1 + (h + 1) - r = D + m - s - 1 + s - r by omega]; exact HJ.out)
            have hdr := decide_eq_false hrr
            clear hr hl
            go_wp2_with fail
            go_region_held3 (fun x => (x.cell? ⟨g, q, none⟩ = some (.int .i64 (((P q) : Nat) : Int))) ∧ (x.cell? ⟨g, h, none⟩ = some (.int .i64 (((P h) : Nat) : Int)))) (first | exact ⟨p0, q0⟩ | go_keep)
              (first
                | (go_at_call 80; refine (HC.out _ (HCPW.out.drew)).mono ?_; rintro e w1 ⟨rfl, hb1⟩
                   have g5 : Below wr.heap.size wr w1 := Below.trans (Below.drew (Below.refl _ _)) (hb1.mono (by simp))
                   have RQ := HR.out.below g5 hgl
                   have p0 := RQ.cells (p := q) (by omega)
                   have q0 := RQ.cells (p := h) (by omega)
                   clear hb1))
            have HQ2 := Lib.hid RQ
            clear RQ
            go_wp2_with fail
            go_roundw
            case rel => exact ⟨h + 1, r, by omega, by omega, by omega, by go_num, rfl, HQ2.out, .inr HL.out, HJ2.out, HW.out.trans1 (wrote_below g5)⟩
            case measure => simp [intOf]; omega
          · have hrr : r' < 0 := hr.2 hl
            have HL := Lib.hid (show ltN X (P (D + m - s - 1 + s - h)) (P h) = true by rw [show D + m - s - 1 + s - h = q by omega]; exact hl)
            have hdr := decide_eq_true hrr
            clear hr hl
            go_wp2_with fail
            go_region_held3 (fun x => (x.cell? ⟨g, q, none⟩ = some (.int .i64 (((P q) : Nat) : Int))) ∧ (x.cell? ⟨g, h, none⟩ = some (.int .i64 (((P h) : Nat) : Int)))) (first | exact ⟨p0, q0⟩ | go_keep)
              (first
                | (go_at_call 80; refine (HC.out _ (HCPW.out.drew)).mono ?_; rintro e w1 ⟨rfl, hb1⟩
                   have g5 : Below wr.heap.size wr w1 := Below.trans (Below.drew (Below.refl _ _)) (hb1.mono (by simp))
                   have RQ := HR.out.below g5 hgl
                   have p0 := RQ.cells (p := q) (by omega)
                   have q0 := RQ.cells (p := h) (by omega)
                   clear hb1))
            have HQ2 := Lib.hid RQ
            clear RQ
            go_wp2_with fail
            go_roundw
            case rel => exact ⟨s, h, by omega, by omega, by omega, rfl, rfl, HQ2.out, HI.out, .inr HL.out, HW.out.trans1 (wrote_below g5)⟩
            case measure => simp [intOf]; omega
        · obtain rfl : s = r := by omega
          have hnl : ¬ (s : Int) < (s : Int) := by omega
          obtain ⟨e, he⟩ : ∃ e : Nat, D + m - s = e := ⟨_, rfl⟩
          have hei : (D : Int) + m - s = (e : Int) := by omega
          have hew : IntKind.i64.wrap (e : Int) = (e : Int) := IntWalk.i64_in _ (by omega)
          have f1 : a ≤ s := by omega
          have f2 : s ≤ m := by omega
          have f3 : m ≤ e := by omega
          have f4 : e ≤ b := by omega
          have f5 : s ≤ D := by omega
          have f6 : D ≤ e := by omega
          have cc1 : s = a ∨ e = b ∨ ltN X (P e) (P (s - 1)) = false := by
            rcases HI.out with h | h
            · exact .inl h
            · rw [he] at h; exact .inr (.inr h)
          have cc2 : s = m ∨ e = m ∨ ltN X (P (e - 1)) (P s) = true := by
            by_cases hz : s = m
            · exact .inl hz
            · rcases HJ.out with h | h
              · exact absurd h hz
              · rw [show D + m - s - 1 + s - s = e - 1 by omega] at h; exact .inr (.inr h)
          have HH := Lib.hid (HT.out.halves (d := D) (ltN_swo X) f1 f2 f3 f4 (by omega) cc1 cc2)
          have HRS := Lib.hid (Sh.wide (Sh.rot (R := P) f2 f3) f1 f4)
          clear cc1 cc2
          by_cases g1 : s < m ∧ m < e
          · obtain ⟨g1, g2⟩ := g1
            have i1 : (s : Int) < (m : Int) := by omega
            have i2 : (m : Int) < (e : Int) := by omega
            have i3 : (s : Int) < (D : Int) := by omega
            have i4 : (D : Int) < (e : Int) := by omega
            by_cases g3 : a < s
            · have i5 : (a : Int) < (s : Int) := by omega
              by_cases g4 : e < b
              · have i6 : (e : Int) < (b : Int) := by omega
                go_wp2_with fail
                refine (rotateN_c _ g n c P s m e _ _ _ _ rfl rfl rfl g1 g2 (by omega) hn HR.out).mono ?_
                rintro e1 w1 ⟨rfl, hr1, hw1⟩
                have HR1 := Lib.hid hr1
                clear hr1
                go_wp2_with fail
                refine (IH.out _ a s D _ _ _ _ (by omega) rfl rfl rfl (by omega) (by omega) (by omega) HH.out.one (HCAP.out.wrote (HW.out.trans1 hw1)) HR1.out).mono ?_
                rintro e2 w2 ⟨rfl, Q1, hq1, hm1, hw2⟩
                have HQ1 := Lib.hid hq1
                have HM1 := Lib.hid hm1
                clear hq1 hm1
                go_wp2_with fail
                refine (IH.out _ D e b _ _ _ _ (by omega) rfl rfl rfl (by omega) (by omega) (by omega) (HH.out.two.keep HM1.out.sh (by omega)) (HCAP.out.wrote ((HW.out.trans1 hw1).trans1 hw2)) HQ1.out).mono ?_
                rintro e3 w3 ⟨rfl, Q2, hq2, hm2, hw3⟩
                go_wp2
                go_end0
                exact ⟨rfl, Q2, hq2, HH.out.join (by omega) (by omega) HRS.out HM1.out hm2, ((HW.out.trans1 hw1).trans1 hw2).trans1 hw3⟩
              · obtain rfl : e = b := by omega
                have i6 : ¬ (e : Int) < (e : Int) := by omega
                go_wp2_with fail
                refine (rotateN_c _ g n c P s m e _ _ _ _ rfl rfl rfl g1 g2 (by omega) hn HR.out).mono ?_
                rintro e1 w1 ⟨rfl, hr1, hw1⟩
                have HR1 := Lib.hid hr1
                clear hr1
                go_wp2_with fail
                refine (IH.out _ a s D _ _ _ _ (by omega) rfl rfl rfl (by omega) (by omega) (by omega) HH.out.one (HCAP.out.wrote (HW.out.trans1 hw1)) HR1.out).mono ?_
                rintro e2 w2 ⟨rfl, Q1, hq1, hm1, hw2⟩
                have HQ1 := Lib.hid hq1
                have HM1 := Lib.hid hm1
                clear hq1 hm1
                go_wp2_with fail
                go_end0
                exact ⟨rfl, Q1, HQ1.out, HH.out.join (by omega) (by omega) HRS.out HM1.out (Mgd.refl ((HH.out.two.keep HM1.out.sh (by omega)).id_left rfl)), (HW.out.trans1 hw1).trans1 hw2⟩
            · obtain rfl : s = a := by omega
              have i5 : ¬ (s : Int) < (s : Int) := by omega
              by_cases g4 : e < b
              · have i6 : (e : Int) < (b : Int) := by omega
                go_wp2_with fail
                refine (rotateN_c _ g n c P s m e _ _ _ _ rfl rfl rfl g1 g2 (by omega) hn HR.out).mono ?_
                rintro e1 w1 ⟨rfl, hr1, hw1⟩
                have HR1 := Lib.hid hr1
                clear hr1
                go_wp2_with fail
                refine (IH.out _ D e b _ _ _ _ (by omega) rfl rfl rfl (by omega) (by omega) (by omega) HH.out.two (HCAP.out.wrote (HW.out.trans1 hw1)) HR1.out).mono ?_
                rintro e3 w3 ⟨rfl, Q2, hq2, hm2, hw3⟩
                go_wp2
                go_end0
                exact ⟨rfl, Q2, hq2, HH.out.join (by omega) (by omega) HRS.out (Mgd.refl (HH.out.one.id_right rfl)) hm2, (HW.out.trans1 hw1).trans1 hw3⟩
              · obtain rfl : e = b := by omega
                have i6 : ¬ (e : Int) < (e : Int) := by omega
                go_wp2_with fail
                refine (rotateN_c _ g n c P s m e _ _ _ _ rfl rfl rfl g1 g2 (by omega) hn HR.out).mono ?_
                rintro e1 w1 ⟨rfl, hr1, hw1⟩
                have HR1 := Lib.hid hr1
                clear hr1
                go_wp2_with fail
                go_end0
                exact ⟨rfl, _, HR1.out, HH.out.join (by omega) (by omega) HRS.out (Mgd.refl (HH.out.one.id_right rfl)) (Mgd.refl (HH.out.two.id_left rfl)), HW.out.trans1 hw1⟩
          · have HR1 := Lib.hid (HR.out.congr (fun x _ => (rot_id (P := P) f2 f3 (by omega) x).symm))
            by_cases g2 : s = m
            · subst g2
              obtain rfl : D = e := by omega
              have i1 : ¬ (s : Int) < (s : Int) := by omega
              have i2 : (a : Int) < (s : Int) := by omega
              have i4 : ¬ (D : Int) < (D : Int) := by omega
              by_cases g3 : s < D
              · have i3 : (s : Int) < (D : Int) := by omega
                go_wp2_with fail
                refine (IH.out _ a s D _ _ _ _ (by omega) rfl rfl rfl (by omega) (by omega) (by omega) HH.out.one (HCAP.out.wrote HW.out) HR1.out).mono ?_
                rintro e2 w2 ⟨rfl, Q1, hq1, hm1, hw2⟩
                have HQ1 := Lib.hid hq1
                have HM1 := Lib.hid hm1
                clear hq1 hm1
                go_wp2_with fail
                go_end0
                exact ⟨rfl, Q1, HQ1.out, HH.out.join (by omega) (by omega) HRS.out HM1.out (Mgd.refl ((HH.out.two.keep HM1.out.sh (by omega)).id_right rfl)), HW.out.trans1 hw2⟩
              · obtain rfl : s = D := by omega
                go_wp2_with fail
                go_end0
                exact ⟨rfl, _, HR1.out, HH.out.join (by omega) (by omega) HRS.out (Mgd.refl (HH.out.one.id_left rfl)) (Mgd.refl (HH.out.two.id_right rfl)), HW.out⟩
            · obtain rfl : e = m := by omega
              obtain rfl : s = D := by omega
              have i1 : (s : Int) < (e : Int) := by omega
              have i2 : ¬ (e : Int) < (e : Int) := by omega
              have i3 : (a : Int) < (s : Int) := by omega
              have i4 : ¬ (s : Int) < (s : Int) := by omega
              have i5 : (e : Int) < (b : Int) := by omega
              go_wp2_with fail
              refine (IH.out _ s e b _ _ _ _ (by omega) rfl rfl rfl (by omega) (by omega) (by omega) HH.out.two (HCAP.out.wrote HW.out) HR1.out).mono ?_
              rintro e3 w3 ⟨rfl, Q2, hq2, hm2, hw3⟩
              go_wp2
              go_end0
              exact ⟨rfl, Q2, hq2, HH.out.join (by omega) (by omega) HRS.out (Mgd.refl (HH.out.one.id_left rfl)) hm2, HW.out.trans1 hw3⟩
end Go.Proofs.YtlepgkmpbhlajaaDoor.rod

namespace Go.Proofs.YtlepgkmpbhlajaaDoor.rod
open Go.ChangeShapes Go.WideShapes Go.ChangeAt Go.RowKit Go.Proofs.YtlepgkmpbhlajaaDoor.mem Go.Proofs.YtlepgkmpbhlajaaDoor.stab
set_option linter.unusedVariables false

theorem up_id (n : Nat) : Up (fun i => i) 0 n := fun i j _ h _ => h
/-- behind the blocks: two sorted parts, the tags of the left one the lesser -/
theorem two_of {lt : Nat → Nat → Bool} {Q R : Nat → Nat} {m n : Nat} (h1 : Mgd lt (fun i => i) Q 0 m) (h2 : Mgd lt Q R m n) (hmn : m ≤ n) : Two lt R 0 m n where
  left := fun i j a b c => by rw [h2.sh.out i (by omega), h2.sh.out j (by omega)]; exact h1.srt i j a b c
  right := h2.srt
  tag := fun i j _ a b c => by
    rw [h2.sh.out i (by omega)]
    obtain ⟨x, _, x2, e⟩ := h1.sh.frm i (Nat.zero_le _) a
    obtain ⟨y, y1, _, e2⟩ := h2.sh.frm j b c
    have e3 : Q y = y := h1.sh.out y (by omega)
    rw [e, e2, e3]
    show x < y
    omega
theorem mgd_ord {lt : Nat → Nat → Bool} {Q : Nat → Nat} {n : Nat} (h : Mgd lt (fun i => i) Q 0 n) : Ord lt n Q := Ord.of_sh h.sh h.srt

set_option maxHeartbeats 4000000 in
set_option maxRecDepth 100000 in
theorem stableN_c (X : Nat → Int) (hb : Nat) (A : Option Addr) (cc : Nat) (g n c : Nat) (w : World) (hn : n ≤ 39) (hcap : Cap w g hb A n cc X) (h : RowN w g n (fun i => i)) :
    Calls Tryd.prog 90 #[.slice (some ⟨g, 0, none⟩) n c, .int .i64 (n : Int), .func (.func 80) #[] #[.pointer (some ⟨hb, 0, none⟩)]] w fun e w' => e = .returned (.tuple #[]) ∧ ∃ Q, RowN w' g n Q ∧ Ord (ltN X) n Q ∧ WroteIn w w' g (g + 1) := by
  have H := Lib.hid h
  have HCAP := Lib.hid hcap
  clear hcap
  clear h
  by_cases h20 : n < 20
  · have i1 : ¬ (20 : Int) ≤ (n : Int) := by omega
    have i2 : ¬ (20 : Int) < (n : Int) := by omega
    go_enter Tryd.func90, Tryd.ntmps90
    go_wp2_with fail
    go_loopw [7, 8] (fun x y wr => x = .int .i64 0 ∧ y = .int .i64 20 ∧ wr = w) (fun x y _ => 0)
    case atStart => exact ⟨rfl, rfl, rfl⟩
    case round =>
      obtain ⟨rfl, rfl, rfl⟩ := hrel
      go_wp2_with fail
      refine (insertionN_c X hb A cc g n c (fun i => i) 0 n _ _ _ rfl rfl (by omega) (by omega) (by omega) (up_id n) (HCAP.out) H.out).mono ?_
      rintro e w1 ⟨rfl, Q, hq, hm, hw⟩
      have HQ := Lib.hid hq
      have HM := Lib.hid hm
      clear hq hm
      go_wp2_with fail
      go_loopw [6] (fun x wr => x = .int .i64 20 ∧ wr = w1) (fun x _ => 0)
      case atStart => exact ⟨rfl, rfl⟩
      case round =>
        obtain ⟨rfl, rfl⟩ := hrel
        go_wp2_with fail
        go_end0
        exact ⟨rfl, Q, HQ.out, mgd_ord HM.out, hw⟩
  · have i1 : (20 : Int) ≤ (n : Int) := by omega
    have i3 : ¬ (40 : Int) ≤ (n : Int) := by omega
    go_enter Tryd.func90, Tryd.ntmps90
    go_wp2_with fail
    go_loopw [7, 8] (fun x y wr => (x = .int .i64 0 ∧ y = .int .i64 20 ∧ wr = w) ∨ (x = .int .i64 20 ∧ y = .int .i64 40 ∧ Hid (∃ Q, RowN wr g n Q ∧ Mgd (ltN X) (fun i => i) Q 0 20 ∧ WroteIn w wr g (g + 1)))) (fun x _ _ => 40 - (intOf x).toNat)
    case atStart => exact .inl ⟨rfl, rfl, rfl⟩
    case round =>
      rcases hrel with ⟨rfl, rfl, rfl⟩ | ⟨rfl, rfl, HE⟩
      · go_wp2_with fail
        refine (insertionN_c X hb A cc g n c (fun i => i) 0 20 _ _ _ rfl rfl (by omega) (by omega) (by omega) (up_id 20) (HCAP.out) H.out).mono ?_
        rintro e w1 ⟨rfl, Q, hq, hm, hw⟩
        have HQ := Lib.hid (show ∃ Q, RowN w1 g n Q ∧ Mgd (ltN X) (fun i => i) Q 0 20 ∧ WroteIn wr w1 g (g + 1) from ⟨Q, hq, hm, hw⟩)
        clear hq hm hw
        go_wp2
        go_roundw
        case rel => exact .inr ⟨rfl, rfl, HQ.out⟩
        case measure => simp [intOf]
      · obtain ⟨Q, hq, hm, hw⟩ := HE.out
        have HQ := Lib.hid hq
        have HM := Lib.hid hm
        clear hq hm HE
        go_wp2_with fail
        refine (insertionN_c X hb A cc g n c Q 20 n _ _ _ rfl rfl (by omega) (by omega) (by omega) (fun i j a b c => by rw [HM.out.sh.out i (by omega), HM.out.sh.out j (by omega)]; exact b) (HCAP.out.wrote hw) HQ.out).mono ?_
        rintro e w1 ⟨rfl, R, hr, hm2, hw1⟩
        have HR := Lib.hid hr
        have HM2 := Lib.hid hm2
        clear hr hm2
        by_cases h20' : n = 20
        · subst h20'
          have i2 : ¬ (20 : Int) < ((20 : Nat) : Int) := by omega
          go_wp2_with fail
          go_loopw [6] (fun x wr => x = .int .i64 20 ∧ wr = w1) (fun x _ => 0)
          case atStart => exact ⟨rfl, rfl⟩
          case round =>
            obtain ⟨rfl, rfl⟩ := hrel
            go_wp2_with fail
            go_end0
            refine ⟨rfl, R, HR.out, mgd_ord ⟨HM.out.sh.trans (HM2.out.sh.wide (by omega) (by omega)), fun i j a b c => ?_⟩, hw.trans1 hw1⟩
            rw [HM2.out.sh.out i (by omega), HM2.out.sh.out j (by omega)]
            exact HM.out.srt i j a b c
        · have i2 : (20 : Int) < (n : Int) := by omega
          have i4 : ¬ (40 : Int) < (n : Int) := by omega
          have HT := Lib.hid (two_of HM.out HM2.out (by omega))
          go_wp2_with fail
          go_loopw [6] (fun x wx => (x = .int .i64 20 ∧ wx = w1) ∨ (x = .int .i64 40 ∧ Hid (∃ S, RowN wx g n S ∧ Ord (ltN X) n S ∧ WroteIn w wx g (g + 1)))) (fun x _ => 40 - (intOf x).toNat)
          case atStart => exact .inl ⟨rfl, rfl⟩
          case round =>
            rcases hrel with ⟨rfl, rfl⟩ | ⟨rfl, HE⟩
            · go_wp2_with fail
              go_loopw [7, 8] (fun x y wy => x = .int .i64 0 ∧ y = .int .i64 40 ∧ wy = wr) (fun x y _ => 0)
              case atStart => exact ⟨rfl, rfl, rfl⟩
              case round =>
                obtain ⟨rfl, rfl, rfl⟩ := hrel
                go_wp2_with fail
                refine (symMergeN_c X hb A cc g n c (by omega) n R 0 20 n _ _ _ _ (by omega) rfl rfl rfl (by omega) (by omega) (by omega) HT.out (HCAP.out.wrote (hw.trans1 hw1)) HR.out).mono ?_
                rintro e w2 ⟨rfl, S, hs, hm3, hw2⟩
                have HS := Lib.hid (show ∃ S, RowN w2 g n S ∧ Ord (ltN X) n S ∧ WroteIn w w2 g (g + 1) from ⟨S, hs, mgd_ord ⟨(HM.out.sh.wide (by omega) (by omega)).trans ((HM2.out.sh.wide (by omega) (by omega)).trans hm3.sh), hm3.srt⟩, (hw.trans1 hw1).trans1 hw2⟩)
                clear hs hm3 hw2
                go_wp2
                go_roundw
                case rel => exact .inr ⟨rfl, HS.out⟩
                case measure => simp [intOf]
            · obtain ⟨S, hs, ho, hw3⟩ := HE.out
              go_wp2_with fail
              go_end0
              exact ⟨rfl, S, hs, ho, hw3⟩

theorem sortStableN_c (X : Nat → Int) (hb : Nat) (A : Option Addr) (cc : Nat) (g n c : Nat) (w : World) (hn : n ≤ 39) (hcap : Cap w g hb A n cc X) (h : RowN w g n (fun i => i)) :
    Calls Tryd.prog 79 #[.slice (some ⟨g, 0, none⟩) n c, .func (.func 80) #[] #[.pointer (some ⟨hb, 0, none⟩)]] w fun e w' => e = .returned (.tuple #[]) ∧ ∃ Q, RowN w' g n Q ∧ Ord (ltN X) n Q ∧ WroteIn w w' g (g + 1) := by
  have H := Lib.hid h
  have HCAP := Lib.hid hcap
  clear hcap
  clear h
  go_enter Tryd.func79, Tryd.ntmps79
  go_wp2_with fail
  refine (stableN_c X hb A cc g n c _ hn (HCAP.out) H.out).mono ?_
  rintro e w1 ⟨rfl, h⟩
  go_wp2
  go_end0
  exact ⟨rfl, h⟩

end Go.Proofs.YtlepgkmpbhlajaaDoor.rod
