/-
  The insertion sort of the stable sort.
-/
import Derived.Test.YtcpaenmhnoagdaaSwU
import Derived.Test.YtcpaenmhnoagdaaScU
import Derived.Deep.CutRange
import Derived.BigRegion
import Derived.Deep.RegionWith
namespace Go.Proofs.Ytcpaenmhnoagdaa.rod
open Go.ChangeShapes Go.WideShapes Go.ChangeAt Go.RowKit Go.Proofs.Ytcpaenmhnoagdaa.mem Go.Proofs.Ytcpaenmhnoagdaa.stab
set_option linter.unusedVariables false

set_option maxHeartbeats 4000000 in
set_option maxRecDepth 100000 in
theorem insertionU_c (X : Nat → Int) (g n c : Nat) (P : Nat → Nat) (a b : Nat) (ai bi : Int) (w : World) (ha : ai = a) (hb' : bi = b) (hab : a ≤ b) (h2 : b ≤ n) (hn : n ≤ 1048576) (hup : Up P a b) (h : RowU X w g n P) :
    Calls Try.prog 96 #[.slice (some ⟨g, 0, none⟩) n c, .int .i64 ai, .int .i64 bi, .func (.func 62) #[] #[]] w fun e w' => e = .returned (.tuple #[]) ∧ ∃ Q, RowU X w' g n Q ∧ Mgd (ltU X) P Q a b ∧ WroteIn w w' g (g + 1) := by
  subst ha hb'
  have H := Lib.hid h
  have HUP := Lib.hid hup
  clear h hup
  go_enter Try.func96, Try.ntmps96
  go_wp2_with fail
  go_loopw [8] (fun s wr => ∃ (i : Nat) (R : Nat → Nat), a + 1 ≤ i ∧ (i ≤ b ∨ i = a + 1) ∧ s = .int .i64 i ∧ Hid (RowU X wr g n R) ∧ Hid (Sh a i P R) ∧ Hid (Srt (ltU X) R a i) ∧ WroteIn w wr g (g + 1)) (fun s _ => b - (intOf s).toNat)
  case atStart => exact ⟨a + 1, P, by omega, by omega, by congr 1, H.out, Sh.refl _ _ _, fun i j h1 h2 h3 => absurd h3 (by omega), WroteIn.refl _ _ _⟩
  case round =>
    obtain ⟨i, R, hi, hib, rfl, HR, HS, HT, hw⟩ := hrel
    have HW := Lib.hid hw
    clear hw
    by_cases hlt : i < b
    · have hlt' : (i : Int) < (b : Int) := by omega
      have HI := Lib.hid (Ins.start HUP.out hlt (by omega) HS.out HT.out)
      go_wp2_with fail
      rename World => wo
      go_loopw [9] (fun s wi => ∃ (j : Nat) (Q : Nat → Nat), a ≤ j ∧ j ≤ i ∧ s = .int .i64 j ∧ Hid (RowU X wi g n Q) ∧ Hid (Ins (ltU X) P Q a i j) ∧ WroteIn w wi g (g + 1)) (fun s _ => (intOf s).toNat)
      case atStart => exact ⟨i, R, by omega, by omega, rfl, HR.out, HI.out, HW.out⟩
      case round =>
        obtain ⟨j, Q, hj, hji, rfl, HQ, HJ, hwi⟩ := hrel
        have HWI := Lib.hid hwi
        have hgl := HQ.out.lt
        clear hwi
        by_cases hja : a < j
        · have hja' : (a : Int) < (j : Int) := by omega
          obtain ⟨k, rfl⟩ : ∃ k, j = k + 1 := ⟨j - 1, by omega⟩
          obtain ⟨p0, p1, p2⟩ := HQ.out.cells (p := k + 1) (by omega)
          obtain ⟨q0, q1, q2⟩ := HQ.out.cells (p := k) (by omega)
          have b1 : (0 : Int) ≤ (k : Int) + 1 := by omega
          have b2 : (k : Int) + 1 < (n : Int) := by omega
          have b3 : (0 : Int) ≤ (k : Int) := by omega
          have b4 : (k : Int) < (n : Int) := by omega
          have w2 : IntKind.i64.wrap (k : Int) = (k : Int) := IntWalk.i64_in _ (by omega)
          have w1 : IntKind.i64.wrap ((k : Int) + 1 - 1) = (k : Int) := by rw [show (k : Int) + 1 - 1 = k by omega]; exact w2
          obtain ⟨r, hr, HC⟩ := cmpU_ex X (Q (k + 1)) (Q k)
          cases hl : ltU X (Q (k + 1)) (Q k)
          · have hrr : ¬ r < 0 := fun h => by rw [hr.1 h] at hl; cases hl
            have HDN := Lib.hid (HJ.out.done (ltU_swo X) hj hji (.inr hl))
            clear hr hl
            rw [show ((k + 1 : Nat) : Int) = (k : Int) + 1 from rfl] at hja' ⊢
            go_wp2_with fail
            go_region_held3 (fun x => (x.cell? ⟨g, (k + 1) * 3, none⟩ = some (.int .i64 (X ((Q (k + 1)) * 3))) ∧ x.cell? ⟨g, (k + 1) * 3 + 1, none⟩ = some (.int .i64 (X ((Q (k + 1)) * 3 + 1))) ∧ x.cell? ⟨g, (k + 1) * 3 + 2, none⟩ = some (.int .i64 (X ((Q (k + 1)) * 3 + 2)))) ∧ (x.cell? ⟨g, k * 3, none⟩ = some (.int .i64 (X ((Q k) * 3))) ∧ x.cell? ⟨g, k * 3 + 1, none⟩ = some (.int .i64 (X ((Q k) * 3 + 1))) ∧ x.cell? ⟨g, k * 3 + 2, none⟩ = some (.int .i64 (X ((Q k) * 3 + 2))))) (first | exact ⟨⟨p0, p1, p2⟩, ⟨q0, q1, q2⟩⟩ | go_keep)
              (first
                | (go_at_call 62; refine (HC.out _).mono ?_; rintro e w1 ⟨rfl, hb1⟩
                   have g5 : Below wr.heap.size wr w1 := Below.trans (Below.drew (Below.refl _ _)) (hb1.mono (by simp))
                   have RQ := HQ.out.below g5 hgl
                   obtain ⟨p0, p1, p2⟩ := RQ.cells (p := k + 1) (by omega)
                   obtain ⟨q0, q1, q2⟩ := RQ.cells (p := k) (by omega)
                   clear hb1))
            have HQ2 := Lib.hid RQ
            clear RQ
            go_wp2_with fail
            go_roundw
            case rel => exact ⟨i + 1, Q, by omega, by omega, by go_num, HQ2.out, HJ.out.sh, HDN.out, HWI.out.trans1 (wrote_below g5)⟩
            case measure => simp [intOf]; omega
          · have hrr : r < 0 := hr.2 hl
            have HST := Lib.hid (HJ.out.step hja hji hl)
            clear hr hl
            rw [show ((k + 1 : Nat) : Int) = (k : Int) + 1 from rfl] at hja' ⊢
            go_wp2_with fail
            go_region_held3 (fun x => (x.cell? ⟨g, (k + 1) * 3, none⟩ = some (.int .i64 (X ((Q (k + 1)) * 3))) ∧ x.cell? ⟨g, (k + 1) * 3 + 1, none⟩ = some (.int .i64 (X ((Q (k + 1)) * 3 + 1))) ∧ x.cell? ⟨g, (k + 1) * 3 + 2, none⟩ = some (.int .i64 (X ((Q (k + 1)) * 3 + 2)))) ∧ (x.cell? ⟨g, k * 3, none⟩ = some (.int .i64 (X ((Q k) * 3))) ∧ x.cell? ⟨g, k * 3 + 1, none⟩ = some (.int .i64 (X ((Q k) * 3 + 1))) ∧ x.cell? ⟨g, k * 3 + 2, none⟩ = some (.int .i64 (X ((Q k) * 3 + 2))))) (first | exact ⟨⟨p0, p1, p2⟩, ⟨q0, q1, q2⟩⟩ | go_keep)
              (first
                | (go_at_call 62; refine (HC.out _).mono ?_; rintro e w1 ⟨rfl, hb1⟩
                   have g5 : Below wr.heap.size wr w1 := Below.trans (Below.drew (Below.refl _ _)) (hb1.mono (by simp))
                   have RQ := HQ.out.below g5 hgl
                   obtain ⟨p0, p1, p2⟩ := RQ.cells (p := k + 1) (by omega)
                   obtain ⟨q0, q1, q2⟩ := RQ.cells (p := k) (by omega)
                   clear hb1))
            have HQ2 := Lib.hid RQ
            have pf0 := HQ2.out.frozen ((k + 1) * 3)
            have qf0 := HQ2.out.frozen (k * 3)
            have pf1 := HQ2.out.frozen ((k + 1) * 3 + 1)
            have qf1 := HQ2.out.frozen (k * 3 + 1)
            have pf2 := HQ2.out.frozen ((k + 1) * 3 + 2)
            have qf2 := HQ2.out.frozen (k * 3 + 2)
            clear RQ
            go_wp2_with fail
            go_region
            go_wp2
            have hs := HQ2.out.swap (i := k + 1) (j := k) (by omega)
            go_roundw
            case rel => exact ⟨k, _, by omega, by omega, rfl, hs.drew, HST.out, ((HWI.out.trans1 (wrote_below g5)).trans1 RowU.swapW).drew⟩
            case measure => first | (simp [intOf]; done) | (simp [intOf]; omega)
        · obtain rfl : j = a := by omega
          have hd : decide ((j : Int) < (j : Int)) = false := by simp
          have HDN := Lib.hid (HJ.out.done (ltU_swo X) hj hji (.inl rfl))
          go_wp2_with fail
          go_quiet (fail)
          go_wp2_with fail
          go_roundw
          case rel => exact ⟨i + 1, Q, by omega, by omega, by go_num, HQ.out.drewN _, HJ.out.sh, HDN.out, HWI.out.drewN _⟩
          case measure => simp [intOf]; omega
    · go_wp2
      go_end0
      refine ⟨rfl, R, HR.out, ?_, HW.out⟩
      by_cases e : i = b
      · subst e; exact ⟨HS.out, HT.out⟩
      · obtain rfl : i = a + 1 := by omega
        obtain rfl : b = a := by omega
        exact ⟨Sh.none _ (Sh.one HS.out), fun x y h1 h2 h3 => absurd h3 (by omega)⟩

end Go.Proofs.Ytcpaenmhnoagdaa.rod
