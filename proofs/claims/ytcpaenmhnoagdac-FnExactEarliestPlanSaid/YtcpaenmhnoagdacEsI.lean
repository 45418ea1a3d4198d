/-
  The program's least hour with room for a batch: its parts.
-/
import Derived.Test.YtcpaenmhnoagdacPlanS
import Derived.Test.YtcpaenmhnoagdacTm
import Derived.Stop.RegionWithIn
namespace Go.Proofs.Ytcpaenmhnoagdac.ag
open Go.Proofs.Ytcpaenmhnoagdac.src Go.Proofs.Ytcpaenmhnoagdac.rod Go.Proofs.Ytcpaenmhnoagdac.rf Go.Proofs.Ytcpaenmhnoagdac.hp
open Go.ChangeShapes Go.WideShapes Go.ChangeAt Go.RowKit Go.Proofs.Ytcpaenmhnoagdac.mem
set_option linter.unusedVariables false
attribute [local go_sem] Oper.semAt_some wide_fn wide_depth wideR_fn wideR_depth

set_option maxHeartbeats 2000000 in
theorem meets_i (T E c S F B : Int) (b : Bool) (w : World) (hb : b = decide (T < F ∧ S < E)) :
    Calls Try.prog 121 #[.agg #[.int .i64 T, .int .i64 E, .int .i64 c], .agg #[.int .i64 S, .int .i64 F, .int .i64 B]] w fun e w' => e = .returned (.bool b) ∧ Below w.heap.size w w' := by
  by_cases h1 : T < F
  · by_cases h2 : S < E
    · obtain rfl : b = true := by rw [hb]; simp [h1, h2]
      clear hb
      go_enter Try.func121, Try.ntmps121
      go_wp2
      go_ret
      exact ⟨rfl, by go_grown⟩
    · obtain rfl : b = false := by rw [hb]; simp [h2]
      clear hb
      go_enter Try.func121, Try.ntmps121
      go_wp2
      go_ret
      exact ⟨rfl, by go_grown⟩
  · obtain rfl : b = false := by rw [hb]; simp [h1]
    clear hb
    go_enter Try.func121, Try.ntmps121
    go_wp2
    go_ret
    exact ⟨rfl, by go_grown⟩

theorem large_i (S K Q B room : Int) (rb : Nat) (w : World) (hr : w.cell? ⟨rb, 0, none⟩ = some (.int .i64 room)) :
    Calls Try.prog 96 #[.agg #[.int .i64 S, .int .i64 K, .int .i64 Q, .int .i64 B], .pointer (some ⟨rb, 0, none⟩)] w fun e w' => e = .returned (.bool (decide (room < B))) ∧ Below w.heap.size w w' := by
  have hl := lt_of_cell hr
  by_cases h : room < B
  · rw [decide_eq_true h]
    go_enter Try.func96, Try.ntmps96
    go_wp2
    go_ret
    exact ⟨rfl, by go_grown⟩
  · rw [decide_eq_false h]
    go_enter Try.func96, Try.ntmps96
    go_wp2
    go_ret
    exact ⟨rfl, by go_grown⟩

set_option maxHeartbeats 4000000 in
set_option maxRecDepth 100000 in
theorem index_i (A : Option Addr) (n c : Nat) (X : Nat → Int) (room : Int) (rb : Nat) (w : World) (hn : n ≤ 10) (hr : Sl w A n 4 X) (hc : w.cell? ⟨rb, 0, none⟩ = some (.int .i64 room)) :
    Calls Try.prog 120 #[.slice A n c, .func (.func 96) #[] #[.pointer (some ⟨rb, 0, none⟩)]] w fun e w' => ∃ r : Int, e = .returned (.int .i64 r) ∧ ((r = -1 ∧ ∀ k, k < n → X (k * 4 + 3) ≤ room) ∨ (0 ≤ r ∧ ∃ k, k < n ∧ room < X (k * 4 + 3))) ∧ Below w.heap.size w w' := by
  have HR := Lib.hid hr
  have HC := Lib.hid hc
  have hl := lt_of_cell hc
  clear hr hc
  go_enter Try.func120, Try.ntmps120
  go_wp2_with fail
  go_loopw [8] (fun s wr => ∃ (k : Nat), k ≤ n ∧ s = .int .i64 k ∧ (∀ j, j < k → X (j * 4 + 3) ≤ room) ∧ Below w.heap.size w wr) (fun s _ => n - (intOf s).toNat)
  case atStart => exact ⟨0, by omega, rfl, fun j hj => absurd hj (by omega), Below.refl _ _⟩
  case round =>
    obtain ⟨k, hk, rfl, hj, hd⟩ := hrel
    have hzz := hd.size
    have HD := Lib.hid hd
    have HJ := Lib.hid hj
    clear hd hj
    by_cases hlt : k < n
    · have hlt' : (k : Int) < (n : Int) := by omega
      have hk0 : (0 : Int) ≤ (k : Int) := by omega
      obtain ⟨b, o, rfl, hb, hX⟩ := HR.out (by omega)
      have p0 := hX.below HD.out hb (k * 4) (by omega)
      have p1 := hX.below HD.out hb (k * 4 + 1) (by omega)
      have p2 := hX.below HD.out hb (k * 4 + 2) (by omega)
      have p3 := hX.below HD.out hb (k * 4 + 3) (by omega)
      simp only [← Nat.add_assoc] at p1 p2 p3
      clear hX
      by_cases hq : room < X (k * 4 + 3)
      · go_wp2_with (go_at_call 96; refine (large_i _ _ _ _ room rb _ ((HD.out.cell (p := ⟨rb, 0, none⟩) hl).trans HC.out)).mono ?_; rintro e w2 ⟨rfl, hb2⟩; rw [decide_eq_true hq])
        go_ret
        exact ⟨k, rfl, .inr ⟨hk0, k, hlt, hq⟩, HD.out.trans (hb2.mono hzz)⟩
      · have hdec := decide_eq_false hq
        have HQ0 := Lib.hid (show ∀ j, j < k + 1 → X (j * 4 + 3) ≤ room from fun j h => by
          rcases Nat.lt_or_ge j k with e | e
          · exact HJ.out j e
          · obtain rfl : j = k := by omega
            exact Int.not_lt.1 hq)
        have HDEC := Lib.hid hdec
        clear hdec
        replace hq := Int.not_lt.1 hq
        go_wp2_with (go_at_call 96; refine (large_i _ _ _ _ room rb _ ((HD.out.cell (p := ⟨rb, 0, none⟩) hl).trans HC.out)).mono ?_; rintro e w2 ⟨rfl, hb2⟩; rw [HDEC.out]; have g2 := HD.out.trans (hb2.mono hzz); clear hb2)
        go_roundw
        case rel => exact ⟨k + 1, by omega, by go_num, HQ0.out, g2⟩
        case measure => simp [intOf]; omega
    · obtain rfl : k = n := by omega
      go_wp2
      go_ret
      exact ⟨-1, rfl, .inl ⟨rfl, HJ.out⟩, HD.out⟩

theorem contains_i (A : Option Addr) (n c : Nat) (X : Nat → Int) (room : Int) (rb : Nat) (b : Bool) (w : World) (hn : n ≤ 10) (hr : Sl w A n 4 X) (hc : w.cell? ⟨rb, 0, none⟩ = some (.int .i64 room))
    (hb : (b = false ∧ ∀ k, k < n → X (k * 4 + 3) ≤ room) ∨ (b = true ∧ ∃ k, k < n ∧ room < X (k * 4 + 3))) :
    Calls Try.prog 97 #[.slice A n c, .func (.func 96) #[] #[.pointer (some ⟨rb, 0, none⟩)]] w fun e w' => e = .returned (.bool b) ∧ Below w.heap.size w w' := by
  have HB := Lib.hid hb
  go_enter Try.func97, Try.ntmps97
  go_wp2_with fail
  refine (index_i A n c X room rb _ hn hr hc).mono ?_
  rintro e w1 ⟨r, rfl, hrr, hb1⟩
  rcases hrr with ⟨rfl, h⟩ | ⟨h0, k, hk, h⟩
  · obtain rfl : b = false := by
      rcases HB.out with ⟨q, _⟩ | ⟨_, j, hj, q⟩
      · exact q
      · have := h j hj; omega
    go_wp2
    go_ret
    exact ⟨rfl, hb1⟩
  · obtain rfl : b = true := by
      rcases HB.out with ⟨_, q⟩ | ⟨q, _⟩
      · have := q k hk; omega
      · exact q
    go_wp2
    go_ret
    exact ⟨rfl, hb1⟩
end Go.Proofs.Ytcpaenmhnoagdac.ag
