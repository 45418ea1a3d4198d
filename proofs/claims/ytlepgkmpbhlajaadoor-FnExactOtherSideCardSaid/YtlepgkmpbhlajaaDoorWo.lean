/-
  Contracts of RoundOf, of the model and of the program, and of the model's other side.
-/
import Derived.Test.YtlepgkmpbhlajaaDoorWt
namespace Go.Proofs.YtlepgkmpbhlajaaDoor.wk
open Go.ChangeShapes Go.WideShapes Go.ChangeAt Go.RowKit
open Go.Proofs.YtlepgkmpbhlajaaDoor.mem Go.Proofs.YtlepgkmpbhlajaaDoor.rod Go.Proofs.YtlepgkmpbhlajaaDoor.wv
set_option linter.unusedVariables false

/-! ### the other side, of the model -/
def flip (b : UInt8) : UInt8 := if b = 70 then 66 else 70
def otherB (s : ByteArray) : ByteArray := mkB (fun i => flip (byteU s i)) s.size
set_option maxHeartbeats 4000000 in
theorem other_s (s : ByteArray) (w : World) (hst : strokeB s = true) :
    Calls Tryd.prog 29 #[.string s] w fun e w' => e = .returned (.tuple #[.string (otherB s), .int .i64 0]) ∧ Below w.heap.size w w' := by
  obtain ⟨h0, hs, _⟩ := stroke_of hst
  have HC := Lib.hid (fun W => ok_s s W (by omega))
  rw [hst] at HC
  obtain ⟨i0, hi0, hz0, hz1, hz2⟩ := info_parts info_u8
  obtain ⟨g, hg⟩ : ∃ g, g = fun i => flip (byteU s i) := ⟨_, rfl⟩
  have HG := Lib.hid hg
  obtain ⟨O, hO⟩ : ∃ O, O = mkB g s.size := ⟨_, rfl⟩
  have hOO : otherB s = O := by rw [hO, hg]; rfl
  rw [hOO]
  have HOO := Lib.hid hO
  clear hg hO hOO hst
  go_enter Tryd.func29, Tryd.ntmps29
  go_wp2_with (go_at_call 68; refine (HC.out _).mono ?_; rintro e w' ⟨rfl, rfl⟩)
  go_loopw [5, 4] (fun i v wr => ∃ k : Nat, k ≤ s.size ∧ i = .int .i64 (k : Int) ∧ Hid (wr.ownsRow w.heap.size 5 1 v k ((mkL g k).map bv)) ∧ Below w.heap.size w wr) (fun i _ _ => s.size - (intOf i).toNat)
  case atStart => exact ⟨0, by omega, rfl, ownsB_empty w _ _ (Nat.le_refl _), by go_grown⟩
  case round =>
    obtain ⟨k, hk, rfl, hown, hbl⟩ := hrel
    have HB := Lib.hid hbl
    have hzz := hbl.size
    clear hbl
    by_cases hlt : k < s.size
    · have hlt' : (k : Int) < (s.size : Int) := by omega
      have hk0 : (0 : Int) ≤ (k : Int) := by omega
      have hl1 : k + 1 ≤ maxLen := by unfold maxLen; omega
      have hl2 : (k + 1) * 1 ≤ 140737488355328 := by omega
      have HS := Lib.hid (mkL_succ g k)
      have hbU : byteU s k = s[k]'hlt := dif_pos hlt
      by_cases h70 : s[k]'hlt = 70
      · have hgk := Lib.hid (show g k = 66 by rw [HG.out]; show flip (byteU s k) = 66; rw [hbU, h70]; rfl)
        have e1 : (((s[k]'hlt).toNat : Int) == 70) = true := by rw [h70]; rfl
        have e2 : (((s[k]'hlt).toNat : Int) != 70) = false := by rw [bne, e1]; rfl
        clear hbU h70
        go_wp2_with (at_builtin; refine wpList_append_own _ rfl _ _ 22 rfl w.heap.size 5 i0 (.int .u8 0) 1 1 Tryd.underlying22 hi0 hz0 hz1 hz2 rfl (by decide) _ _ _ rfl (hown.out.alloc _) ⟨wr.heap.size, 0, none⟩ 1 1 [bv 66] rfl rfl ?c1 ?c2 hl1 hl2 ?c5 ?_)
        case c1 => intro j u hj; rcases j with _ | j <;> simp at hj; subst hj; show _ = some (Value.int .u8 66); go_simp
        case c2 => intro u hu; simp at hu; subst hu; rfl
        case c5 => simp; omega
        intro v' w1 hown1 hgrow1 _
        have g1 : Below w.heap.size w w1 := Below.grown (HB.out.alloc hzz _) hgrow1 (by simp; omega) (owns_block hown.out)
        have HO := Lib.hid (ownsB_snoc hown1)
        clear hown1 hgrow1
        go_wp2
        go_roundw
        case rel => exact ⟨k + 1, by omega, by go_num, by rw [HS.out, hgk.out]; exact HO.out, g1⟩
        case measure => simp [intOf]; omega
      · have hgk := Lib.hid (show g k = 70 by rw [HG.out]; show flip (byteU s k) = 70; rw [hbU]; exact if_neg h70)
        have e1 : (((s[k]'hlt).toNat : Int) == 70) = false := beq_false_of_ne fun e => h70 (UInt8.toNat_inj.1 (by show _ = 70; omega))
        have e2 : (((s[k]'hlt).toNat : Int) != 70) = true := by rw [bne, e1]; rfl
        clear hbU h70
        go_wp2_with (at_builtin; refine wpList_append_own _ rfl _ _ 22 rfl w.heap.size 5 i0 (.int .u8 0) 1 1 Tryd.underlying22 hi0 hz0 hz1 hz2 rfl (by decide) _ _ _ rfl (hown.out.alloc _) ⟨wr.heap.size, 0, none⟩ 1 1 [bv 70] rfl rfl ?c1 ?c2 hl1 hl2 ?c5 ?_)
        case c1 => intro j u hj; rcases j with _ | j <;> simp at hj; subst hj; show _ = some (Value.int .u8 70); go_simp
        case c2 => intro u hu; simp at hu; subst hu; rfl
        case c5 => simp; omega
        intro v' w1 hown1 hgrow1 _
        have g1 : Below w.heap.size w w1 := Below.grown (HB.out.alloc hzz _) hgrow1 (by simp; omega) (owns_block hown.out)
        have HO := Lib.hid (ownsB_snoc hown1)
        clear hown1 hgrow1
        go_wp2
        go_roundw
        case rel => exact ⟨k + 1, by omega, by go_num, by rw [HS.out, hgk.out]; exact HO.out, g1⟩
        case measure => simp [intOf]; omega
    · obtain ⟨m, hm⟩ : ∃ m, m = s.size := ⟨_, rfl⟩
      have hkm : k = s.size := by omega
      have hcv : (convert 22 9 u4).run Tryd.prog wr = .ok (.string O) wr := by rw [HOO.out, ← hkm]; exact str_of_owns (P := Tryd.prog) 22 9 5 Tryd.underlying22 Tryd.underlying5 Tryd.underlying9 (mkL g k) hown.out
      clear hkm hm
      go_wp2
      go_ret2
      exact ⟨rfl, HB.out⟩
theorem other_s_no (s : ByteArray) (w : World) (hs : s.size ≤ 1048576) (hst : strokeB s = false) :
    Calls Tryd.prog 29 #[.string s] w fun e w' => e = .returned (.tuple #[.string ⟨#[]⟩, .int .i64 1]) ∧ Below w.heap.size w w' := by
  have HC := Lib.hid (fun W => ok_s s W hs)
  rw [hst] at HC
  clear hst
  go_enter Tryd.func29, Tryd.ntmps29
  go_wp2_with (go_at_call 68; refine (HC.out _).mono ?_; rintro e w' ⟨rfl, rfl⟩)
  go_ret2
  exact ⟨rfl, Below.refl _ _⟩

end Go.Proofs.YtlepgkmpbhlajaaDoor.wk
