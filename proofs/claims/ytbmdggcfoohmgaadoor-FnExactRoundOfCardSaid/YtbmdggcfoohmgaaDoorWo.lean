/-
  Contracts of RoundOf, of the model and of the program, and of the model's other side.
-/
import Derived.Test.YtbmdggcfoohmgaaDoorWt
namespace Go.Proofs.YtbmdggcfoohmgaaDoor.wk
open Go.ChangeShapes Go.WideShapes Go.ChangeAt Go.RowKit
open Go.Proofs.YtbmdggcfoohmgaaDoor.mem Go.Proofs.YtbmdggcfoohmgaaDoor.rod Go.Proofs.YtbmdggcfoohmgaaDoor.wv
set_option linter.unusedVariables false

set_option maxHeartbeats 4000000 in
theorem roundOf_s (s : ByteArray) (n r : Nat) (w : World) (hst : strokeB s = true) (n3 : 3 ≤ n) (hn : n ≤ 60) (hr : r ≤ 100) :
    Calls Tryd.prog 49 #[.string s, .int .i64 (n : Int), .int .i64 (r : Int)] w fun e w' => e = .returned (.tuple #[.string (mkB (fun k => sideU s n r k) n), .int .i64 0]) ∧ Below w.heap.size w w' := by
  obtain ⟨h0, hs, _⟩ := stroke_of hst
  have hc : codeW s n = 0 := codeW_0.2 ⟨hst, inB_yes (by omega) (by omega)⟩
  have HC := Lib.hid (fun W => code_s s n W (by omega))
  rw [hc] at HC
  have hir : inB (r : Int) 0 100 = true := inB_yes (by omega) (by omega)
  have HI := Lib.hid hir
  obtain ⟨i0, hi0, hz0, hz1, hz2⟩ := info_parts info_u8
  obtain ⟨g, hg⟩ : ∃ g, g = fun k => sideU s n r k := ⟨_, rfl⟩
  have HA := Lib.hid (fun (k : Nat) (hk : k ≤ 60) (W : World) => (show Calls Tryd.prog 114 #[.string s, .int .i64 (n : Int), .int .i64 (r : Int), .int .i64 (k : Int)] W fun e w' => e = .returned (.int .u8 ((g k).toNat : Int)) ∧ W = w' by rw [hg]; exact at_s s n r k W h0 hs hn hr hk))
  obtain ⟨O, hO⟩ : ∃ O, O = mkB g n := ⟨_, rfl⟩
  rw [← hg, ← hO]
  have HOO := Lib.hid hO
  clear hg hO hc hst hir
  go_enter Tryd.func49, Tryd.ntmps49
  go_wp2_with (first
    | (go_at_call 113; refine (HC.out _).mono ?_; rintro e w' ⟨rfl, rfl⟩)
    | (go_at_call 81; refine (in_s _ _ _ _).mono ?_; rintro e w' ⟨rfl, rfl⟩; rw [HI.out]))
  go_loopw [10, 9] (fun i v wr => ∃ k : Nat, k ≤ n ∧ i = .int .i64 (k : Int) ∧ Hid (wr.ownsRow w.heap.size 5 1 v k ((mkL g k).map bv)) ∧ Below w.heap.size w wr) (fun i _ _ => n - (intOf i).toNat)
  case atStart => exact ⟨0, by omega, rfl, ownsB_empty w _ _ (Nat.le_refl _), by go_grown⟩
  case round =>
    obtain ⟨k, hk, rfl, hown, hbl⟩ := hrel
    have HB := Lib.hid hbl
    have hzz := hbl.size
    clear hbl
    by_cases hlt : k < n
    · have hlt' : (k : Int) < (n : Int) := by omega
      have hl1 : k + 1 ≤ maxLen := by unfold maxLen; omega
      have hl2 : (k + 1) * 1 ≤ 140737488355328 := by omega
      have HA2 := Lib.hid (HA.out k (by omega))
      have HS := Lib.hid (mkL_succ g k)
      have hbv := Lib.hid (show bv (g k) = .int .u8 ((g k).toNat : Int) from rfl)
      generalize g k = b at *
      go_wp2_with (first
        | (go_at_call 114; refine (HA2.out _).mono ?_; rintro e w' ⟨rfl, rfl⟩)
        | (at_builtin; refine wpList_append_own _ rfl _ _ 22 rfl w.heap.size 5 i0 (.int .u8 0) 1 1 Tryd.underlying22 hi0 hz0 hz1 hz2 rfl (by decide) _ _ _ rfl (hown.out.alloc _) ⟨wr.heap.size, 0, none⟩ 1 1 [bv b] rfl rfl ?c1 ?c2 hl1 hl2 ?c5 ?_))
      case c1 => intro j u hj; rcases j with _ | j <;> simp at hj; subst hj; rw [hbv.out]; go_simp
      case c2 => intro u hu; simp at hu; subst hu; rfl
      case c5 => simp; omega
      intro v' w1 hown1 hgrow1 _
      have g1 : Below w.heap.size w w1 := Below.grown (HB.out.alloc hzz _) hgrow1 (by simp; omega) (owns_block hown.out)
      have HO := Lib.hid (ownsB_snoc hown1)
      clear hown1 hgrow1
      go_wp2
      go_roundw
      case rel => exact ⟨k + 1, by omega, by go_num, by rw [HS.out]; exact HO.out, g1⟩
      case measure => simp [intOf]; omega
    · obtain rfl : k = n := by omega
      have hcv : (convert 22 9 u9).run Tryd.prog wr = .ok (.string O) wr := by rw [HOO.out]; exact str_of_owns (P := Tryd.prog) 22 9 5 Tryd.underlying22 Tryd.underlying5 Tryd.underlying9 (mkL g k) hown.out
      go_wp2
      go_ret2
      exact ⟨rfl, HB.out⟩
set_option maxHeartbeats 1000000 in
theorem roundOf_s_no (s : ByteArray) (a r : Int) (w : World) (hs : s.size ≤ 1048576) (hc : codeW s a ≠ 0) :
    Calls Tryd.prog 49 #[.string s, .int .i64 a, .int .i64 r] w fun e w' => e = .returned (.tuple #[.string ⟨#[]⟩, .int .i64 (codeW s a)]) ∧ Below w.heap.size w w' := by
  have HC := Lib.hid (fun W => code_s s a W hs)
  generalize codeW s a = v at *
  have e1 : (v == 0) = false := by simpa using hc
  have e2 : (v != 0) = true := by rw [bne, e1]; rfl
  clear hc
  go_enter Tryd.func49, Tryd.ntmps49
  go_wp2_with (first
    | (go_at_call 113; refine (HC.out _).mono ?_; rintro e w' ⟨rfl, rfl⟩)
    | (go_at_call 81; refine (in_s _ _ _ _).mono ?_; rintro e w' ⟨rfl, rfl⟩))
  go_ret2
  exact ⟨rfl, Below.refl _ _⟩
set_option maxHeartbeats 1000000 in
theorem roundOf_s_far (s : ByteArray) (a r : Int) (w : World) (hs : s.size ≤ 1048576) (hc : codeW s a = 0) (hr : inB r 0 100 = false) :
    Calls Tryd.prog 49 #[.string s, .int .i64 a, .int .i64 r] w fun e w' => e = .returned (.tuple #[.string ⟨#[]⟩, .int .i64 2]) ∧ Below w.heap.size w w' := by
  have HC := Lib.hid (fun W => code_s s a W hs)
  rw [hc] at HC
  have HI := Lib.hid hr
  clear hc hr
  go_enter Tryd.func49, Tryd.ntmps49
  go_wp2_with (first
    | (go_at_call 113; refine (HC.out _).mono ?_; rintro e w' ⟨rfl, rfl⟩)
    | (go_at_call 81; refine (in_s _ _ _ _).mono ?_; rintro e w' ⟨rfl, rfl⟩; rw [HI.out]))
  go_ret2
  exact ⟨rfl, Below.refl _ _⟩

set_option maxHeartbeats 1000000 in
theorem roundOf_i (s : ByteArray) (n r : Nat) (w : World) (hst : strokeB s = true) (n3 : 3 ≤ n) (hn : n ≤ 60) (hr : r ≤ 100) :
    Calls Tryd.prog 50 #[.string s, .int .i64 (n : Int), .int .i64 (r : Int)] w fun e w' => e = .returned (.tuple #[.string (mkB (fun k => sideU s n r k) n), .int .i64 0]) ∧ Below w.heap.size w w' := by
  obtain ⟨h0, hs, _⟩ := stroke_of hst
  have HS := Lib.hid hst
  have hir : inB (r : Int) 0 100 = true := inB_yes (by omega) (by omega)
  have HI := Lib.hid hir
  have HR := Lib.hid (fun W => inRound_i s n r W h0 hs hn hr)
  generalize mkB (fun k => sideU s n r k) n = O at *
  clear hst hir
  go_enter Tryd.func50, Tryd.ntmps50
  go_wp2_with fail
  refine (new_i s n _ HS.out n3 hn).mono ?_
  rintro e w1 ⟨rfl, b1⟩
  have z1 := b1.size
  go_wp2_with (go_at_call 71; refine (in_i _ _ _ _).mono ?_; rintro e w' ⟨rfl, rfl⟩; rw [HI.out])
  refine (HR.out _).mono ?_
  rintro e w2 ⟨rfl, b2⟩
  have g2 : Below w.heap.size w w2 := (b1.alloc z1 _).trans (b2.mono (by simp; omega))
  go_wp2
  go_ret2
  exact ⟨rfl, g2⟩
set_option maxHeartbeats 1000000 in
theorem roundOf_i_far (s : ByteArray) (n : Nat) (r : Int) (w : World) (hst : strokeB s = true) (n3 : 3 ≤ n) (hn : n ≤ 60) (hr : inB r 0 100 = false) :
    Calls Tryd.prog 50 #[.string s, .int .i64 (n : Int), .int .i64 r] w fun e w' => e = .returned (.tuple #[.string ⟨#[]⟩, .int .i64 2]) ∧ Below w.heap.size w w' := by
  obtain ⟨h0, hs, _⟩ := stroke_of hst
  have HS := Lib.hid hst
  have HI := Lib.hid hr
  clear hst hr
  go_enter Tryd.func50, Tryd.ntmps50
  go_wp2_with fail
  refine (new_i s n _ HS.out n3 hn).mono ?_
  rintro e w1 ⟨rfl, b1⟩
  have z1 := b1.size
  go_wp2_with (go_at_call 71; refine (in_i _ _ _ _).mono ?_; rintro e w' ⟨rfl, rfl⟩; rw [HI.out])
  go_ret2
  exact ⟨rfl, b1.alloc z1 _⟩
set_option maxHeartbeats 1000000 in
theorem roundOf_i_no (s : ByteArray) (a r : Int) (w : World) (hs : s.size ≤ 1048576) (hc : codeW s a ≠ 0) :
    Calls Tryd.prog 50 #[.string s, .int .i64 a, .int .i64 r] w fun e w' => e = .returned (.tuple #[.string ⟨#[]⟩, .int .i64 (codeW s a)]) ∧ Below w.heap.size w w' := by
  have HN := Lib.hid (fun W => new_i_no s a W hs hc)
  generalize codeW s a = v at *
  have e1 : (v == 0) = false := by simpa using hc
  have e2 : (v != 0) = true := by rw [bne, e1]; rfl
  clear hc
  go_enter Tryd.func50, Tryd.ntmps50
  go_wp2_with fail
  refine (HN.out _).mono ?_
  rintro e w1 ⟨rfl, b1⟩
  go_wp2
  go_ret2
  exact ⟨rfl, b1.alloc b1.size _⟩

/-! ### the other side, of the model -/
def flip (b : UInt8) : UInt8 := if b = 70 then 66 else 70
def otherB (s : ByteArray) : ByteArray := mkB (fun i => flip (byteU s i)) s.size
set_option maxHeartbeats 4000000 in
theorem other_s (s : ByteArray) (w : World) (hst : strokeB s = true) :
    Calls Tryd.prog 63 #[.string s] w fun e w' => e = .returned (.tuple #[.string (otherB s), .int .i64 0]) ∧ Below w.heap.size w w' := by
  obtain ⟨h0, hs, _⟩ := stroke_of hst
  have HC := Lib.hid (fun W => ok_s s W (by omega))
  rw [hst] at HC
  obtain ⟨i0, hi0, hz0, hz1, hz2⟩ := info_parts info_u8
  obtain ⟨g, hg⟩ : ∃ g, g = fun i => flip (byteU s i) := ⟨_, rfl⟩
  have HG := Lib.hid hg
  obtain ⟨O, hO⟩ : ∃ O, O = mkB g s.size := ⟨_, rfl⟩
  have hOO : otherB s = O := by rw [hO, hg]; rfl
  rw [hOO]
  have HOO := Lib.hid hO
  clear hg hO hOO hst
  go_enter Tryd.func63, Tryd.ntmps63
  go_wp2_with (go_at_call 111; refine (HC.out _).mono ?_; rintro e w' ⟨rfl, rfl⟩)
  go_loopw [5, 4] (fun i v wr => ∃ k : Nat, k ≤ s.size ∧ i = .int .i64 (k : Int) ∧ Hid (wr.ownsRow w.heap.size 5 1 v k ((mkL g k).map bv)) ∧ Below w.heap.size w wr) (fun i _ _ => s.size - (intOf i).toNat)
  case atStart => exact ⟨0, by omega, rfl, ownsB_empty w _ _ (Nat.le_refl _), by go_grown⟩
  case round =>
    obtain ⟨k, hk, rfl, hown, hbl⟩ := hrel
    have HB := Lib.hid hbl
    have hzz := hbl.size
    clear hbl
    by_cases hlt : k < s.size
    · have hlt' : (k : Int) < (s.size : Int) := by omega
      have hk0 : (0 : Int) ≤ (k : Int) := by omega
      have hl1 : k + 1 ≤ maxLen := by unfold maxLen; omega
      have hl2 : (k + 1) * 1 ≤ 140737488355328 := by omega
      have HS := Lib.hid (mkL_succ g k)
      have hbU : byteU s k = s[k]'hlt := dif_pos hlt
      by_cases h70 : s[k]'hlt = 70
      · have hgk := Lib.hid (show g k = 66 by rw [HG.out]; show flip (byteU s k) = 66; rw [hbU, h70]; rfl)
        have e1 : (((s[k]'hlt).toNat : Int) == 70) = true := by rw [h70]; rfl
        have e2 : (((s[k]'hlt).toNat : Int) != 70) = false := by rw [bne, e1]; rfl
        clear hbU h70
        go_wp2_with (at_builtin; refine wpList_append_own _ rfl _ _ 22 rfl w.heap.size 5 i0 (.int .u8 0) 1 1 Tryd.underlying22 hi0 hz0 hz1 hz2 rfl (by decide) _ _ _ rfl (hown.out.alloc _) ⟨wr.heap.size, 0, none⟩ 1 1 [bv 66] rfl rfl ?c1 ?c2 hl1 hl2 ?c5 ?_)
        case c1 => intro j u hj; rcases j with _ | j <;> simp at hj; subst hj; show _ = some (Value.int .u8 66); go_simp
        case c2 => intro u hu; simp at hu; subst hu; rfl
        case c5 => simp; omega
        intro v' w1 hown1 hgrow1 _
        have g1 : Below w.heap.size w w1 := Below.grown (HB.out.alloc hzz _) hgrow1 (by simp; omega) (owns_block hown.out)
        have HO := Lib.hid (ownsB_snoc hown1)
        clear hown1 hgrow1
        go_wp2
        go_roundw
        case rel => exact ⟨k + 1, by omega, by go_num, by rw [HS.out, hgk.out]; exact HO.out, g1⟩
        case measure => simp [intOf]; omega
      · have hgk := Lib.hid (show g k = 70 by rw [HG.out]; show flip (byteU s k) = 70; rw [hbU]; exact if_neg h70)
        have e1 : (((s[k]'hlt).toNat : Int) == 70) = false := beq_false_of_ne fun e => h70 (UInt8.toNat_inj.1 (by show _ = 70; omega))
        have e2 : (((s[k]'hlt).toNat : Int) != 70) = true := by rw [bne, e1]; rfl
        clear hbU h70
        go_wp2_with (at_builtin; refine wpList_append_own _ rfl _ _ 22 rfl w.heap.size 5 i0 (.int .u8 0) 1 1 Tryd.underlying22 hi0 hz0 hz1 hz2 rfl (by decide) _ _ _ rfl (hown.out.alloc _) ⟨wr.heap.size, 0, none⟩ 1 1 [bv 70] rfl rfl ?c1 ?c2 hl1 hl2 ?c5 ?_)
        case c1 => intro j u hj; rcases j with _ | j <;> simp at hj; subst hj; show _ = some (Value.int .u8 70); go_simp
        case c2 => intro u hu; simp at hu; subst hu; rfl
        case c5 => simp; omega
        intro v' w1 hown1 hgrow1 _
        have g1 : Below w.heap.size w w1 := Below.grown (HB.out.alloc hzz _) hgrow1 (by simp; omega) (owns_block hown.out)
        have HO := Lib.hid (ownsB_snoc hown1)
        clear hown1 hgrow1
        go_wp2
        go_roundw
        case rel => exact ⟨k + 1, by omega, by go_num, by rw [HS.out, hgk.out]; exact HO.out, g1⟩
        case measure => simp [intOf]; omega
    · obtain ⟨m, hm⟩ : ∃ m, m = s.size := ⟨_, rfl⟩
      have hkm : k = s.size := by omega
      have hcv : (convert 22 9 u4).run Tryd.prog wr = .ok (.string O) wr := by rw [HOO.out, ← hkm]; exact str_of_owns (P := Tryd.prog) 22 9 5 Tryd.underlying22 Tryd.underlying5 Tryd.underlying9 (mkL g k) hown.out
      clear hkm hm
      go_wp2
      go_ret2
      exact ⟨rfl, HB.out⟩
theorem other_s_no (s : ByteArray) (w : World) (hs : s.size ≤ 1048576) (hst : strokeB s = false) :
    Calls Tryd.prog 63 #[.string s] w fun e w' => e = .returned (.tuple #[.string ⟨#[]⟩, .int .i64 1]) ∧ Below w.heap.size w w' := by
  have HC := Lib.hid (fun W => ok_s s W hs)
  rw [hst] at HC
  clear hst
  go_enter Tryd.func63, Tryd.ntmps63
  go_wp2_with (go_at_call 111; refine (HC.out _).mono ?_; rintro e w' ⟨rfl, rfl⟩)
  go_ret2
  exact ⟨rfl, Below.refl _ _⟩

end Go.Proofs.YtbmdggcfoohmgaaDoor.wk
