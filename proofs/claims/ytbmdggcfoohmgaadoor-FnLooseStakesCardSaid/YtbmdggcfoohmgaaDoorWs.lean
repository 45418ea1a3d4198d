/-
  Contracts: how a weaver lies at the stakes of a round and at a stake in the rounds, of the model.
-/
import Derived.Test.YtbmdggcfoohmgaaDoorWb
import Derived.Test.YtbmdggcfoohmgaaDoorWn
namespace Go.Proofs.YtbmdggcfoohmgaaDoor.wk
open Go.ChangeShapes Go.WideShapes Go.ChangeAt Go.RowKit
open Go.Proofs.YtbmdggcfoohmgaaDoor.mem Go.Proofs.YtbmdggcfoohmgaaDoor.rod Go.Proofs.YtbmdggcfoohmgaaDoor.wv
set_option linter.unusedVariables false

theorem info_u8 : (Tryd.prog.info? 5).map (fun i => (i.zero, i.size, i.bytes)) = some (some (.int .u8 0), 1, 1) := by kernel_rfl

set_option maxHeartbeats 1000000 in
theorem at_s (s : ByteArray) (n r k : Nat) (w : World) (h0 : 0 < s.size) (hs : s.size ≤ 12) (hn : n ≤ 60) (hr : r ≤ 100) (hk : k ≤ 60) :
    Calls Tryd.prog 114 #[.string s, .int .i64 (n : Int), .int .i64 (r : Int), .int .i64 (k : Int)] w fun e w' => e = .returned (.int .u8 ((sideU s n r k).toNat : Int)) ∧ w = w' := by
  obtain ⟨m0, m1⟩ := prod_bd (k := k) hr hn
  obtain ⟨p, hp⟩ : ∃ p, (r * n + k) % s.size = p := ⟨_, rfl⟩
  have hlt : p < s.size := by rw [← hp]; exact Nat.mod_lt _ h0
  have hlt' : (p : Int) < (s.size : Int) := by omega
  have hp0 : (0 : Int) ≤ (p : Int) := by omega
  have e3 : ¬ (s.size : Int) = 0 := by omega
  have e1 : ((s.size : Int) == 0) = false := beq_false_of_ne e3
  have h2 : (1 : Int) ≤ (s.size : Int) := by omega
  have ip : ((r : Int) * (n : Int) + (k : Int)) % (s.size : Int) = (p : Int) := by rw [← hp]; push_cast; rfl
  rw [← sideU_at, side_byte s n r k p hp, byteAt_eq hlt]
  clear hp
  go_enter Tryd.func114, Tryd.ntmps114
  go_wp2
  go_ret
  exact ⟨rfl, rfl⟩

set_option maxHeartbeats 4000000 in
theorem stack_s (s : ByteArray) (n k : Nat) (w : World) (h0 : 0 < s.size) (hs : s.size ≤ 12) (hn : n ≤ 60) (hk : k ≤ 60) :
    Calls Tryd.prog 123 #[.string s, .int .i64 (n : Int), .int .i64 (k : Int)] w fun e w' => e = .returned (.string (mkB (fun r => sideU s n r k) (rnd s.size n))) ∧ Below w.heap.size w w' := by
  have hR12 := rnd_le s.size n
  have HAG := Lib.hid (fun W => again_s s n W h0 hs hn)
  generalize rnd s.size n = R at *
  obtain ⟨i0, hi0, hz0, hz1, hz2⟩ := info_parts info_u8
  obtain ⟨g, hg⟩ : ∃ g, g = fun r => sideU s n r k := ⟨_, rfl⟩
  have HA := Lib.hid (fun (r : Nat) (hr : r ≤ 100) (W : World) => (show Calls Tryd.prog 114 #[.string s, .int .i64 (n : Int), .int .i64 (r : Int), .int .i64 (k : Int)] W fun e w' => e = .returned (.int .u8 ((g r).toNat : Int)) ∧ W = w' by rw [hg]; exact at_s s n r k W h0 hs hn hr hk))
  rw [← hg]
  clear hg
  obtain ⟨O, hO⟩ : ∃ O, O = mkB g R := ⟨_, rfl⟩
  rw [← hO]
  have HOO := Lib.hid hO
  clear hO
  go_enter Tryd.func123, Tryd.ntmps123
  go_wp2_with fail
  go_loopw [8, 7] (fun i v wr => ∃ r : Nat, r ≤ R ∧ i = .int .i64 (r : Int) ∧ Hid (wr.ownsRow w.heap.size 5 1 v r ((mkL g r).map bv)) ∧ Below w.heap.size w wr) (fun i _ _ => R - (intOf i).toNat)
  case atStart => exact ⟨0, by omega, rfl, ownsB_empty w _ _ (Nat.le_refl _), by go_grown⟩
  case round =>
    obtain ⟨r, hr, rfl, hown, hbl⟩ := hrel
    have HB := Lib.hid hbl
    have hzz := hbl.size
    clear hbl
    by_cases hlt : r < R
    · have hlt' : (r : Int) < (R : Int) := by omega
      have hl1 : r + 1 ≤ maxLen := by unfold maxLen; omega
      have hl2 : (r + 1) * 1 ≤ 140737488355328 := by omega
      have HA2 := Lib.hid (HA.out r (by omega))
      have HS := Lib.hid (mkL_succ g r)
      have hbv := Lib.hid (show bv (g r) = .int .u8 ((g r).toNat : Int) from rfl)
      generalize g r = b at *
      go_wp2_with (first
        | (go_at_call 118; refine (HAG.out _).mono ?_; rintro e w' ⟨rfl, rfl⟩)
        | (go_at_call 114; refine (HA2.out _).mono ?_; rintro e w' ⟨rfl, rfl⟩)
        | (at_builtin; refine wpList_append_own _ rfl _ _ 22 rfl w.heap.size 5 i0 (.int .u8 0) 1 1 Tryd.underlying22 hi0 hz0 hz1 hz2 rfl (by decide) _ _ _ rfl (hown.out.alloc _) ⟨wr.heap.size, 0, none⟩ 1 1 [bv b] rfl rfl ?c1 ?c2 hl1 hl2 ?c5 ?_))
      case c1 => intro j u hj; rcases j with _ | j <;> simp at hj; subst hj; rw [hbv.out]; go_simp
      case c2 => intro u hu; simp at hu; subst hu; rfl
      case c5 => simp; omega
      intro v' w1 hown1 hgrow1 _
      have g1 : Below w.heap.size w w1 := Below.grown (HB.out.alloc hzz _) hgrow1 (by simp; omega) (owns_block hown.out)
      have HO := Lib.hid (ownsB_snoc hown1)
      clear hown1 hgrow1
      go_wp2
      go_roundw
      case rel => exact ⟨r + 1, by omega, by go_num, by rw [HS.out]; exact HO.out, g1⟩
      case measure => simp [intOf]; omega
    · obtain rfl : r = R := by omega
      have hcv : (convert 22 9 u7).run Tryd.prog wr = .ok (.string O) wr := by rw [HOO.out]; exact str_of_owns (P := Tryd.prog) 22 9 5 Tryd.underlying22 Tryd.underlying5 Tryd.underlying9 (mkL g r) hown.out
      go_wp2_with (go_at_call 118; refine (HAG.out _).mono ?_; rintro e w' ⟨rfl, rfl⟩)
      go_ret
      exact ⟨rfl, HB.out⟩

end Go.Proofs.YtbmdggcfoohmgaaDoor.wk
