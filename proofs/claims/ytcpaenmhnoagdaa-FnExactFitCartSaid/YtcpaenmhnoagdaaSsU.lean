/-
  The stable sort.
-/
import Derived.Test.YtcpaenmhnoagdaaSmU
import Derived.Deep.CutRange
import Derived.BigRegion
import Derived.Deep.RegionWith
namespace Go.Proofs.Ytcpaenmhnoagdaa.rod
open Go.ChangeShapes Go.WideShapes Go.ChangeAt Go.RowKit Go.Proofs.Ytcpaenmhnoagdaa.mem Go.Proofs.Ytcpaenmhnoagdaa.stab
set_option linter.unusedVariables false

theorem up_id (n : Nat) : Up (fun i => i) 0 n := fun i j _ h _ => h
/-- behind the blocks: two sorted parts, the tags of the left one the lesser -/
theorem two_of {lt : Nat → Nat → Bool} {Q R : Nat → Nat} {m n : Nat} (h1 : Mgd lt (fun i => i) Q 0 m) (h2 : Mgd lt Q R m n) (hmn : m ≤ n) : Two lt R 0 m n where
  left := fun i j a b c => by rw [h2.sh.out i (by omega), h2.sh.out j (by omega)]; exact h1.srt i j a b c
  right := h2.srt
  tag := fun i j _ a b c => by
    rw [h2.sh.out i (by omega)]
    obtain ⟨x, _, x2, e⟩ := h1.sh.frm i (Nat.zero_le _) a
    obtain ⟨y, y1, _, e2⟩ := h2.sh.frm j b c
    have e3 : Q y = y := h1.sh.out y (by omega)
    rw [e, e2, e3]
    show x < y
    omega
theorem mgd_ord {lt : Nat → Nat → Bool} {Q : Nat → Nat} {n : Nat} (h : Mgd lt (fun i => i) Q 0 n) : Ord lt n Q := Ord.of_sh h.sh h.srt

set_option maxHeartbeats 4000000 in
set_option maxRecDepth 100000 in
theorem stableU_c (X : Nat → Int) (g n c : Nat) (w : World) (hn : n ≤ 39) (h : RowU X w g n (fun i => i)) :
    Calls Try.prog 83 #[.slice (some ⟨g, 0, none⟩) n c, .int .i64 (n : Int), .func (.func 62) #[] #[]] w fun e w' => e = .returned (.tuple #[]) ∧ ∃ Q, RowU X w' g n Q ∧ Ord (ltU X) n Q ∧ WroteIn w w' g (g + 1) := by
  have H := Lib.hid h
  clear h
  by_cases h20 : n < 20
  · have i1 : ¬ (20 : Int) ≤ (n : Int) := by omega
    have i2 : ¬ (20 : Int) < (n : Int) := by omega
    go_enter Try.func83, Try.ntmps83
    go_wp2_with fail
    go_loopw [7, 8] (fun x y wr => x = .int .i64 0 ∧ y = .int .i64 20 ∧ wr = w) (fun x y _ => 0)
    case atStart => exact ⟨rfl, rfl, rfl⟩
    case round =>
      obtain ⟨rfl, rfl, rfl⟩ := hrel
      go_wp2_with fail
      refine (insertionU_c X g n c (fun i => i) 0 n _ _ _ rfl rfl (by omega) (by omega) (by omega) (up_id n) H.out).mono ?_
      rintro e w1 ⟨rfl, Q, hq, hm, hw⟩
      have HQ := Lib.hid hq
      have HM := Lib.hid hm
      clear hq hm
      go_wp2_with fail
      go_loopw [6] (fun x wr => x = .int .i64 20 ∧ wr = w1) (fun x _ => 0)
      case atStart => exact ⟨rfl, rfl⟩
      case round =>
        obtain ⟨rfl, rfl⟩ := hrel
        go_wp2_with fail
        go_end0
        exact ⟨rfl, Q, HQ.out, mgd_ord HM.out, hw⟩
  · have i1 : (20 : Int) ≤ (n : Int) := by omega
    have i3 : ¬ (40 : Int) ≤ (n : Int) := by omega
    go_enter Try.func83, Try.ntmps83
    go_wp2_with fail
    go_loopw [7, 8] (fun x y wr => (x = .int .i64 0 ∧ y = .int .i64 20 ∧ wr = w) ∨ (x = .int .i64 20 ∧ y = .int .i64 40 ∧ Hid (∃ Q, RowU X wr g n Q ∧ Mgd (ltU X) (fun i => i) Q 0 20 ∧ WroteIn w wr g (g + 1)))) (fun x _ _ => 40 - (intOf x).toNat)
    case atStart => exact .inl ⟨rfl, rfl, rfl⟩
    case round =>
      rcases hrel with ⟨rfl, rfl, rfl⟩ | ⟨rfl, rfl, HE⟩
      · go_wp2_with fail
        refine (insertionU_c X g n c (fun i => i) 0 20 _ _ _ rfl rfl (by omega) (by omega) (by omega) (up_id 20) H.out).mono ?_
        rintro e w1 ⟨rfl, Q, hq, hm, hw⟩
        have HQ := Lib.hid (show ∃ Q, RowU X w1 g n Q ∧ Mgd (ltU X) (fun i => i) Q 0 20 ∧ WroteIn wr w1 g (g + 1) from ⟨Q, hq, hm, hw⟩)
        clear hq hm hw
        go_wp2
        go_roundw
        case rel => exact .inr ⟨rfl, rfl, HQ.out⟩
        case measure => simp [intOf]
      · obtain ⟨Q, hq, hm, hw⟩ := HE.out
        have HQ := Lib.hid hq
        have HM := Lib.hid hm
        clear hq hm HE
        go_wp2_with fail
        refine (insertionU_c X g n c Q 20 n _ _ _ rfl rfl (by omega) (by omega) (by omega) (fun i j a b c => by rw [HM.out.sh.out i (by omega), HM.out.sh.out j (by omega)]; exact b) HQ.out).mono ?_
        rintro e w1 ⟨rfl, R, hr, hm2, hw1⟩
        have HR := Lib.hid hr
        have HM2 := Lib.hid hm2
        clear hr hm2
        by_cases h20' : n = 20
        · subst h20'
          have i2 : ¬ (20 : Int) < ((20 : Nat) : Int) := by omega
          go_wp2_with fail
          go_loopw [6] (fun x wr => x = .int .i64 20 ∧ wr = w1) (fun x _ => 0)
          case atStart => exact ⟨rfl, rfl⟩
          case round =>
            obtain ⟨rfl, rfl⟩ := hrel
            go_wp2_with fail
            go_end0
            refine ⟨rfl, R, HR.out, mgd_ord ⟨HM.out.sh.trans (HM2.out.sh.wide (by omega) (by omega)), fun i j a b c => ?_⟩, hw.trans1 hw1⟩
            rw [HM2.out.sh.out i (by omega), HM2.out.sh.out j (by omega)]
            exact HM.out.srt i j a b c
        · have i2 : (20 : Int) < (n : Int) := by omega
          have i4 : ¬ (40 : Int) < (n : Int) := by omega
          have HT := Lib.hid (two_of HM.out HM2.out (by omega))
          go_wp2_with fail
          go_loopw [6] (fun x wx => (x = .int .i64 20 ∧ wx = w1) ∨ (x = .int .i64 40 ∧ Hid (∃ S, RowU X wx g n S ∧ Ord (ltU X) n S ∧ WroteIn w wx g (g + 1)))) (fun x _ => 40 - (intOf x).toNat)
          case atStart => exact .inl ⟨rfl, rfl⟩
          case round =>
            rcases hrel with ⟨rfl, rfl⟩ | ⟨rfl, HE⟩
            · go_wp2_with fail
              go_loopw [7, 8] (fun x y wy => x = .int .i64 0 ∧ y = .int .i64 40 ∧ wy = wr) (fun x y _ => 0)
              case atStart => exact ⟨rfl, rfl, rfl⟩
              case round =>
                obtain ⟨rfl, rfl, rfl⟩ := hrel
                go_wp2_with fail
                refine (symMergeU_c X g n c (by omega) n R 0 20 n _ _ _ _ (by omega) rfl rfl rfl (by omega) (by omega) (by omega) HT.out HR.out).mono ?_
                rintro e w2 ⟨rfl, S, hs, hm3, hw2⟩
                have HS := Lib.hid (show ∃ S, RowU X w2 g n S ∧ Ord (ltU X) n S ∧ WroteIn w w2 g (g + 1) from ⟨S, hs, mgd_ord ⟨(HM.out.sh.wide (by omega) (by omega)).trans ((HM2.out.sh.wide (by omega) (by omega)).trans hm3.sh), hm3.srt⟩, (hw.trans1 hw1).trans1 hw2⟩)
                clear hs hm3 hw2
                go_wp2
                go_roundw
                case rel => exact .inr ⟨rfl, HS.out⟩
                case measure => simp [intOf]
            · obtain ⟨S, hs, ho, hw3⟩ := HE.out
              go_wp2_with fail
              go_end0
              exact ⟨rfl, S, hs, ho, hw3⟩

theorem sortStableU_c (X : Nat → Int) (g n c : Nat) (w : World) (hn : n ≤ 39) (h : RowU X w g n (fun i => i)) :
    Calls Try.prog 61 #[.slice (some ⟨g, 0, none⟩) n c, .func (.func 62) #[] #[]] w fun e w' => e = .returned (.tuple #[]) ∧ ∃ Q, RowU X w' g n Q ∧ Ord (ltU X) n Q ∧ WroteIn w w' g (g + 1) := by
  have H := Lib.hid h
  clear h
  go_enter Try.func61, Try.ntmps61
  go_wp2_with fail
  refine (stableU_c X g n c _ hn H.out).mono ?_
  rintro e w1 ⟨rfl, h⟩
  go_wp2
  go_end0
  exact ⟨rfl, h⟩

end Go.Proofs.Ytcpaenmhnoagdaa.rod
