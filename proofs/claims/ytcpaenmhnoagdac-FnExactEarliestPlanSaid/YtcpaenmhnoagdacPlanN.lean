/-
  The model's plan of batches, where it is refused.
-/
import Derived.Test.YtcpaenmhnoagdacPlanS
namespace Go.Proofs.Ytcpaenmhnoagdac.rod
open Go.Proofs.Ytcpaenmhnoagdac.src
open Go.ChangeShapes Go.WideShapes Go.ChangeAt Go.RowKit Go.Proofs.Ytcpaenmhnoagdac.mem
set_option linter.unusedVariables false

set_option maxHeartbeats 2000000 in
theorem plan_s_no (A : Option Addr) (n c : Nat) (X Z : Nat → Int) (room code : Int) (w : World) (hn : n ≤ maxLen) (hr : Sl w A n 4 X)
    (hv : listT n X = false ∧ code = 1 ∨ listT n X = true ∧ inB room 0 100 = false ∧ code = 2) :
    Calls Try.prog 39 #[.slice A n c, .int .i64 room] w fun e w' => ∃ A' c', e = .returned (.tuple #[.slice A' 0 c', .int .i64 code]) ∧ 0 ≤ c' ∧ c' ≤ maxLen ∧ Row w' w.heap.size w'.heap.size A' 0 4 64 Z ∧ Below w.heap.size w w' := by
  have HR := Lib.hid hr
  have HQ := Lib.hid (show listT n X = false ∧ code = 1 ∨ listT n X = true ∧ inB room 0 100 = false ∧ code = 2 ∨ listT n X = true ∧ inB room 0 100 = true ∧ code = 0 from by rcases hv with h | h; exact .inl h; exact .inr (.inl h))
  have h12 : code = 1 ∨ code = 2 := by rcases hv with ⟨_, h⟩ | ⟨_, _, h⟩ <;> omega
  clear hr hv
  rcases h12 with rfl | rfl
  all_goals
    go_enter Try.func39, Try.ntmps39
    go_wp2_with (go_at_call 93; refine (room_s A n c X room _ _ hn HR.out HQ.out).mono ?_; rintro e w1 ⟨rfl, b1⟩)
    go_ret2
    exact ⟨none, 0, rfl, Nat.le_refl _, by unfold maxLen; omega, Row.none_, b1⟩

set_option maxHeartbeats 4000000 in
set_option maxRecDepth 100000 in
theorem plan_s_full (A : Option Addr) (n c : Nat) (X Z : Nat → Int) (room code : Int) (w : World) (hn : n ≤ maxLen) (hr : Sl w A n 4 X) (hv : listT n X = true) (h1 : inB room 0 100 = true) (hB : ∃ k, k < n ∧ room < X (k * 4 + 3)) (hc : code = 5) :
    Calls Try.prog 39 #[.slice A n c, .int .i64 room] w fun e w' => ∃ A' c', e = .returned (.tuple #[.slice A' 0 c', .int .i64 code]) ∧ 0 ≤ c' ∧ c' ≤ maxLen ∧ Row w' w.heap.size w'.heap.size A' 0 4 64 Z ∧ Below w.heap.size w w' := by
  subst hc
  have hva := (listT_of hv).2
  have hn10 := (listT_of hv).1
  have HR := Lib.hid hr
  have HB := Lib.hid hB
  clear hr hB
  go_enter Try.func39, Try.ntmps39
  go_wp2_with (go_at_call 93; refine (room_s A n c X room 0 _ hn HR.out (.inr (.inr ⟨hv, h1, rfl⟩))).mono ?_; rintro e w1 ⟨rfl, b1⟩)
  have B1 := Lib.hid b1
  clear b1
  go_loopw [7] (fun s wr => ∃ (k : Nat), k ≤ n ∧ s = .int .i64 k ∧ (∀ j, j < k → X (j * 4 + 3) ≤ room) ∧ Below w.heap.size w wr) (fun s _ => n - (intOf s).toNat)
  case atStart => exact ⟨0, by omega, rfl, fun j hj => absurd hj (by omega), B1.out⟩
  case round =>
    obtain ⟨k, hk, rfl, hj, hd⟩ := hrel
    have hzz := hd.size
    have HD := Lib.hid hd
    have HJ := Lib.hid hj
    clear hd hj
    by_cases hlt : k < n
    · have hlt' : (k : Int) < (n : Int) := by omega
      have hk0 : (0 : Int) ≤ (k : Int) := by omega
      obtain ⟨b, o, rfl, hb, hX⟩ := HR.out (by omega)
      have p3 := hX.below HD.out hb (k * 4 + 3) (by omega)
      simp only [← Nat.add_assoc] at p3
      clear hX
      obtain ⟨v1, v2, v3, v4, v5, v6, v7, v8⟩ := allT_bd hva hlt
      by_cases hq : room < X (k * 4 + 3)
      · go_wp2
        go_ret2
        exact ⟨none, 0, rfl, Nat.le_refl _, by unfold maxLen; omega, Row.none_, HD.out⟩
      · have hdec := decide_eq_false hq
        have HQ0 := Lib.hid (show ∀ j, j < k + 1 → X (j * 4 + 3) ≤ room from fun j h => by
          rcases Nat.lt_or_ge j k with e | e
          · exact HJ.out j e
          · obtain rfl : j = k := by omega
            exact Int.not_lt.1 hq)
        have HDEC := Lib.hid hdec
        clear hdec
        replace hq := Int.not_lt.1 hq
        go_wp2
        go_roundw
        case rel => exact ⟨k + 1, by omega, by go_num, HQ0.out, HD.out⟩
        case measure => simp [intOf]; omega
    · exfalso
      obtain ⟨j, h2, h3⟩ := HB.out
      have := HJ.out j (by omega)
      omega
end Go.Proofs.Ytcpaenmhnoagdac.rod
