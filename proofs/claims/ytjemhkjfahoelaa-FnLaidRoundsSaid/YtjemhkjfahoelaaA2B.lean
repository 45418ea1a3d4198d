/-
  The laws' own helpers on lists of numbers, where no rods lie beside them: has it a number, does it rise.
-/
import Derived.Test.YtjemhkjfahoelaaNums
import Derived.Test.YtjemhkjfahoelaaOwnV
import Derived.BigQuiet
import Derived.Lib.MinMax
namespace Go.Proofs.Ytjemhkjfahoelaa.rod
open Go.ChangeShapes Go.WideShapes Go.ChangeAt Go.RowKit Go.Proofs.Ytjemhkjfahoelaa.mem Go.Proofs.Ytjemhkjfahoelaa.nums
set_option linter.unusedVariables false

set_option maxHeartbeats 2000000 in
theorem a2Has_c (A : Option Addr) (n c : Nat) (X : Nat → Int) (x : Int) (r : Bool) (w : World) (hn : n ≤ 100) (hr : Sl w A n 1 X) (hb : r = true ↔ ∃ i, i < n ∧ X i = x) :
    Calls Try.prog 31 #[.slice A n c, .int .i64 x] w fun e w' => e = .returned (.bool r) ∧ w' = w := by
  have HR := Lib.hid hr
  have HB := Lib.hid hb
  clear hr hb
  go_enter Try.func31, Try.ntmps31
  go_wp2_with fail
  go_loopw [5] (fun s wr => ∃ k : Nat, k ≤ n ∧ s = .int .i64 k ∧ (∀ i, i < k → X i ≠ x) ∧ wr = w) (fun s _ => n - (intOf s).toNat)
  case atStart => exact ⟨0, by omega, rfl, fun i hi => absurd hi (by omega), rfl⟩
  case round =>
    obtain ⟨k, hk, rfl, hne, rfl⟩ := hrel
    have HN := Lib.hid hne
    clear hne
    by_cases hlt : k < n
    · have hlt' : (k : Int) < (n : Int) := by omega
      have hk0 : (0 : Int) ≤ (k : Int) := by omega
      obtain ⟨b, o, rfl, hb, hX⟩ := HR.out (by omega)
      have p0 := hX k (by omega)
      clear hX
      by_cases hx : X k = x
      · obtain rfl : r = true := HB.out.2 ⟨k, hlt, hx⟩
        rw [hx] at p0
        clear hx
        go_wp2
        go_ret
        exact ⟨rfl, rfl⟩
      · have hx2 : (X k == x) = false := by simpa using hx
        have HN2 := Lib.hid (show ∀ i, i < k + 1 → X i ≠ x from fun i hi => by
          by_cases e : i = k
          · subst e; exact hx
          · exact HN.out i (by omega))
        clear hx
        go_wp2
        go_roundw
        case rel => exact ⟨k + 1, by omega, by go_num, HN2.out, by simp⟩
        case measure => simp [intOf]; omega
    · obtain rfl : k = n := by omega
      obtain rfl : r = false := by
        cases r
        · rfl
        · obtain ⟨i, hi, e⟩ := HB.out.1 rfl
          exact absurd e (HN.out i hi)
      go_wp2
      go_ret
      exact ⟨rfl, rfl⟩

set_option maxHeartbeats 4000000 in
theorem a2Rises_c (A : Option Addr) (n c : Nat) (X : Nat → Int) (x : Int) (w : World) (hn : n ≤ 100) (hr : Sl w A n 1 X) (hb : ∀ i, i < n → 0 ≤ X i ∧ X i < x) (hs : ∀ i, i + 1 < n → X i < X (i + 1)) :
    Calls Try.prog 30 #[.slice A n c, .int .i64 x] w fun e w' => e = .returned (.bool true) ∧ ∃ m, w' = w.drewN m := by
  have HR := Lib.hid hr
  have HB := Lib.hid hb
  have HS := Lib.hid hs
  clear hr hb hs
  go_enter Try.func30, Try.ntmps30
  go_wp2_with fail
  go_loopw [5] (fun s wr => ∃ k : Nat, k ≤ n ∧ s = .int .i64 k ∧ Drew w wr) (fun s _ => n - (intOf s).toNat)
  case atStart => exact ⟨0, by omega, rfl, Drew.refl _⟩
  case round =>
    obtain ⟨k, hk, rfl, hd⟩ := hrel
    have HD := Lib.hid hd
    clear hd
    by_cases hlt : k < n
    · have hlt' : (k : Int) < (n : Int) := by omega
      have hk0 : (0 : Int) ≤ (k : Int) := by omega
      have hx0 : decide (X k < 0) = false := decide_eq_false (by have := HB.out k hlt; omega)
      have hx1 : decide (x ≤ X k) = false := decide_eq_false (by have := HB.out k hlt; omega)
      obtain ⟨b, o, rfl, hb, hX⟩ := (HD.out.sl HR.out) (by omega)
      have p0 := hX k (by omega)
      by_cases h1 : k = 0
      · have hk1 : decide (0 < k) = false := decide_eq_false (by omega)
        clear hX h1
        go_wp2_with fail
        go_quiet (fail)
        go_wp2
        go_roundw
        case rel => exact ⟨k + 1, by omega, by go_num, HD.out.drewN _⟩
        case measure => simp [intOf]; omega
      · obtain ⟨j, hj⟩ : ∃ j, k = j + 1 := ⟨k - 1, by omega⟩
        have q0 := hX j (by omega)
        have hs := HS.out j (by omega)
        rw [← hj] at hs
        have hs2 : decide (X k ≤ X j) = false := decide_eq_false (by omega)
        have e1 : (k : Int) - 1 = (j : Int) := by omega
        have hj0 : (0 : Int) ≤ (j : Int) := by omega
        have hjl : (j : Int) < (n : Int) := by omega
        have hk1 : decide (0 < k) = true := decide_eq_true (by omega)
        have hwj : IntKind.i64.wrap (j : Int) = j := IntWalk.i64_in _ (by omega)
        clear hj
        clear hX
        go_wp2_with fail
        go_quiet (fail)
        go_wp2
        go_roundw
        case rel => exact ⟨k + 1, by omega, by go_num, HD.out.drewN _⟩
        case measure => simp [intOf]; omega
    · obtain rfl : k = n := by omega
      go_wp2
      go_ret
      exact ⟨rfl, HD.out⟩

end Go.Proofs.Ytjemhkjfahoelaa.rod
