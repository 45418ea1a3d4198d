/-
  Sets of small numbers as bits: contracts of the program's operations on one number; the numbers that bits tell, of the model.
-/
import Derived.Test.YtlepgkmpbhlajaaDoorIn
import Derived.Test.YtlepgkmpbhlajaaDoorNums
import Derived.Test.YtlepgkmpbhlajaaDoorBits
import Derived.Test.YtlepgkmpbhlajaaDoorAppend
import Derived.Laws.BitsAllLaws
namespace Go.Proofs.YtlepgkmpbhlajaaDoor.rod
open Go.ChangeShapes Go.WideShapes Go.ChangeAt Go.RowKit Go.Proofs.YtlepgkmpbhlajaaDoor.mem Go.Proofs.YtlepgkmpbhlajaaDoor.nums
set_option linter.unusedVariables false

theorem u32_wraps (n : Int) (h0 : 0 ≤ n) (h1 : n < 2 ^ 32) : IntKind.u32.wrap n = n := by
  show n % 4294967296 = n
  omega
theorem u32_or_nat {a b : Nat} (ha : a < 2 ^ 32) (hb : b < 2 ^ 32) : bits .or .u32 (a : Int) (b : Int) = ((a ||| b : Nat) : Int) := (bits_nat .u32 32 (by decide) u32_wraps a b ha hb).2
theorem u32_and_nat {a b : Nat} (ha : a < 2 ^ 32) (hb : b < 2 ^ 32) : bits .and .u32 (a : Int) (b : Int) = ((a &&& b : Nat) : Int) := (bits_nat .u32 32 (by decide) u32_wraps a b ha hb).1

theorem or_step16 {C : Nat → Int} {i : Nat} (h : orC C i < 2 ^ 32) (ht : (C i).toNat < 32) : Value.int .u32 (bits .or .u32 (orC C i : Nat) (IntKind.u32.wrap (2 ^ (C i).toNat))) = .int .u32 ((orC C (i + 1) : Nat) : Int) := by
  have h1 : 2 ^ (C i).toNat < 2 ^ 32 := Nat.pow_lt_pow_right (by decide) ht
  obtain ⟨q, hq⟩ : ∃ q : Nat, 2 ^ (C i).toNat = q := ⟨_, rfl⟩
  have h2 : (2 : Int) ^ (C i).toNat = (q : Int) := by rw [← hq]; simp
  rw [hq] at h1
  rw [h2, u32_wraps _ (by omega) (by omega), u32_or_nat (by omega) (by omega), ← hq]
  rfl

set_option maxHeartbeats 2000000 in
theorem picksOf_i (A : Option Addr) (n c : Nat) (C : Nat → Int) (w : World) (hn : n ≤ maxLen) (hC : ∀ i, i < n → 0 ≤ C i ∧ C i < 32) (h : Sl w A n 1 C) :
    Calls Tryd.prog 81 #[.slice A n c] w fun e w' => e = .returned (.int .u32 (orC C n : Nat)) ∧ w = w' := by
  unfold maxLen at hn
  have H := Lib.hid h
  have HC := Lib.hid hC
  have HO := Lib.hid (show ∀ i, i ≤ n → orC C i < 2 ^ 32 from fun i hi => orC_lt fun j hj => by have := hC j (by omega); omega)
  clear h hC
  go_enter Tryd.func81, Tryd.ntmps81
  go_wp2_with fail
  go_loop [3, 8] (fun p s => ∃ i : Nat, i ≤ n ∧ s = .int .i64 i ∧ p = .int .u32 (orC C i : Nat)) (fun _ s => n - (intOf s).toNat)
  case atStart => exact ⟨0, by omega, rfl, rfl⟩
  case round =>
    obtain ⟨i, hi, rfl, rfl⟩ := hrel
    by_cases hlt : i < n
    · have hlt' : (i : Int) < (n : Int) := by omega
      obtain ⟨b, o, rfl, hb, hX⟩ := H.out (by omega)
      have h0 := hX i (by omega)
      obtain ⟨e1, e2⟩ := HC.out i hlt
      clear hX
      have HE := Lib.hid (or_step16 (C := C) (i := i) (HO.out i hi) (by omega))
      go_wp2_with fail
      go_round
      case rel => exact ⟨i + 1, by omega, by go_num, HE.out⟩
      case measure => simp [intOf]; omega
    · obtain rfl : i = n := by omega
      go_wp2
      go_ret
      exact ⟨rfl, rfl⟩

theorem u32_bit (B k : Nat) (hB : B < 2 ^ 32) : (bits .and .u32 ((B : Int) / 2 ^ k) 1 == 1) = B.testBit k := by
  have h1 : B / 2 ^ k < 2 ^ 32 := Nat.lt_of_le_of_lt (Nat.div_le_self _ _) hB
  rw [shr_nat, show (1 : Int) = ((1 : Nat) : Int) from rfl, u32_and_nat h1 (by decide), Nat.testBit_eq_decide_div_mod_eq, Nat.and_one_is_mod]
  apply Bool.eq_iff_iff.2
  simp only [beq_iff_eq, decide_eq_true_eq]
  omega

set_option maxHeartbeats 2000000 in
theorem pickHas_i (B k : Nat) (w : World) (hB : B < 2 ^ 32) (hk : k < 32) :
    Calls Tryd.prog 77 #[.int .u32 B, .int .i64 k] w fun e w' => e = .returned (.bool (B.testBit k)) ∧ w = w' := by
  go_enter Tryd.func77, Tryd.ntmps77
  go_wp2_with fail
  go_ret
  exact ⟨by rw [← u32_bit B k hB]; rfl, rfl⟩

set_option maxHeartbeats 2000000 in
theorem list_s (B n : Nat) (w : World) (hB : B < 2 ^ 62) (hn : n ≤ 32) :
    Calls Tryd.prog 53 #[.int .i64 B, .int .i64 n] w fun e w' => ∃ A c, e = .returned (.slice A (idxs B.testBit n).length c) ∧ (idxs B.testBit n).length ≤ c ∧ c ≤ maxLen ∧ Row w' w.heap.size w'.heap.size A (idxs B.testBit n).length 1 2 (fun j => (idxs B.testBit n).getD j 0) ∧ Below w.heap.size w w' := by
  obtain ⟨i0, hi0, hz0, hz1, hz2⟩ := info_parts info_num
  go_enter Tryd.func53, Tryd.ntmps53
  go_wp2_with fail
  go_loopw [6, 5] (fun s v wr => ∃ k : Nat, k ≤ n ∧ s = .int .i64 k ∧ Hid (wr.ownsRow w.heap.size 2 1 v (idxs B.testBit k).length ((idxs B.testBit k).map (Value.int .i64))) ∧ Below w.heap.size w wr) (fun s _ _ => n - (intOf s).toNat)
  case atStart => exact ⟨0, by omega, rfl, owns_empty w w.heap.size 2 (Nat.le_refl _), by go_grown⟩
  case round =>
    obtain ⟨k, hk, rfl, hown, hbl⟩ := hrel
    have HB := Lib.hid hbl
    have hzz := hbl.size
    clear hbl
    by_cases hlt : k < n
    · have hlt' : (k : Int) < (n : Int) := by omega
      have hlt2 : (k : Int) < 64 := by omega
      have hlen := idxs_len B.testBit k
      have hbt := i64_bit B k hB
      cases hp : B.testBit k
      · have HP := Lib.hid hp
        rw [hp] at hbt
        clear hp
        go_wp2_with fail
        go_roundw
        case rel => exact ⟨k + 1, by omega, by go_num, by rw [idxs_no HP.out]; exact hown.out, HB.out⟩
        case measure => simp [intOf]; omega
      · have HP := Lib.hid hp
        rw [hp] at hbt
        clear hp
        have hl1 : (idxs B.testBit k).length + 1 ≤ maxLen := by unfold maxLen; omega
        have hl2 : ((idxs B.testBit k).length + 1) * 8 ≤ 140737488355328 := by omega
        generalize hL : idxs B.testBit k = l at *
        have HL := Lib.hid hL
        clear hL
        go_wp2_with (at_builtin; refine wpList_append_own _ rfl _ _ 32 rfl w.heap.size 2 i0 (.int .i64 0) 1 8 Tryd.underlying32 hi0 hz0 hz1 hz2 rfl (by decide) _ _ _ rfl (hown.out.alloc _) ⟨wr.heap.size, 0, none⟩ 1 1 [.int .i64 k] rfl rfl ?c1 ?c2 hl1 hl2 ?c5 ?_)
        case c1 => intro j u hj; rcases j with _ | j <;> simp at hj; subst hj; go_simp
        case c2 => intro u hu; simp at hu; subst hu; rfl
        case c5 => simp; omega
        intro v' w1 hown1 hgrow1 _
        have g1 : Below w.heap.size w w1 := Below.grown (HB.out.alloc hzz _) hgrow1 (by simp; omega) (owns_block hown.out)
        have HO := Lib.hid (owns_snoc hown1)
        clear hown1 hgrow1
        go_wp2
        go_roundw
        case rel => exact ⟨k + 1, by omega, by go_num, by rw [idxs_yes HP.out, HL.out]; exact HO.out, g1⟩
        case measure => simp [intOf]; omega
    · obtain rfl : k = n := by omega
      obtain ⟨A', c', rfl, hc1, hc2, hrow⟩ := row_of_owns hown.out
      have HW := Lib.hid hrow
      clear hrow
      go_wp2
      go_ret
      exact ⟨_, _, rfl, hc1, hc2, HW.out, HB.out⟩

end Go.Proofs.YtlepgkmpbhlajaaDoor.rod
