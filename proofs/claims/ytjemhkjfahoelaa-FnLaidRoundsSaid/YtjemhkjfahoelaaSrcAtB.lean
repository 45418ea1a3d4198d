/-
  The laws' own words: an argument that is too long, a number out of a byte of an argument.
-/
import Derived.Test.YtjemhkjfahoelaaSrcB
namespace Go.Proofs.Ytjemhkjfahoelaa.src
open Go.ChangeShapes Go.WideShapes Go.ChangeAt Go.RowKit Go.Proofs.Ytjemhkjfahoelaa.mem
set_option linter.unusedVariables false

set_option maxHeartbeats 1000000 in
theorem long_c (A1 A2 : Option Addr) (n m c d : Nat) (w : World) (hn : n ≤ 3000) (hm : m ≤ 3000) :
    Calls Try.prog 26 #[.slice A1 n c, .slice A2 m d] w fun e w' => e = .returned (.bool false) ∧ w = w' := by
  have h1 : ¬ (3000 : Int) < (n : Int) := by omega
  have h2 : ¬ (3000 : Int) < (m : Int) := by omega
  go_enter Try.func26, Try.ntmps26
  go_wp2
  go_ret
  exact ⟨rfl, rfl⟩
set_option maxHeartbeats 1000000 in
theorem long_no (A1 A2 : Option Addr) (n m c d : Nat) (w : World) (h : 3000 < n ∨ 3000 < m) (hn : n ≤ maxLen) (hm : m ≤ maxLen) :
    Calls Try.prog 26 #[.slice A1 n c, .slice A2 m d] w fun e w' => e = .returned (.bool true) ∧ w = w' := by
  unfold maxLen at hn hm
  by_cases h1 : 3000 < n
  · have h1' : (3000 : Int) < (n : Int) := by omega
    go_enter Try.func26, Try.ntmps26
    go_wp2
    go_ret
    exact ⟨rfl, rfl⟩
  · have h1' : ¬ (3000 : Int) < (n : Int) := by omega
    have h2' : (3000 : Int) < (m : Int) := by omega
    go_enter Try.func26, Try.ntmps26
    go_wp2
    go_ret
    exact ⟨rfl, rfl⟩

/-- the answer is a number from 0 to h, and the world is as it was -/
def AtMost (w : World) (h : Int) (e : Ending) (w' : World) : Prop := ∃ v : Int, e = .returned (.int .i64 v) ∧ 0 ≤ v ∧ v ≤ h ∧ w = w'

set_option maxHeartbeats 1000000 in
theorem at_c (A : Option Addr) (n c : Nat) (X : Nat → Int) (k : Nat) (m h : Int) (w : World) (hn : n ≤ 3000) (hk : k ≤ 100) (hm : m - 1 ≤ h) (h0 : 0 ≤ h) (hx : Sb w A n X) :
    Calls Try.prog 28 #[.slice A n c, .int .i64 k, .int .i64 m] w (AtMost w h) := by
  have HX := Lib.hid hx
  clear hx
  by_cases h1 : k < n
  · have h1' : ¬ (n : Int) ≤ (k : Int) := by omega
    have hk0 : (0 : Int) ≤ (k : Int) := by omega
    have hk1 : (k : Int) < (n : Int) := by omega
    obtain ⟨b, o, rfl, hb, hX⟩ := HX.out (by omega)
    obtain ⟨p0, p1, p2⟩ := hX k h1
    clear hX
    generalize X k = x at *
    by_cases h2 : m < 1
    · go_enter Try.func28, Try.ntmps28
      go_wp2
      go_ret
      exact ⟨0, rfl, by omega, h0, rfl⟩
    · have h3 : 1 ≤ m := by omega
      have m0 : 0 ≤ x % m := Int.emod_nonneg x (by omega)
      have m1 : x % m ≤ m - 1 := by have := Int.emod_lt_of_pos x (show 0 < m by omega); omega
      go_enter Try.func28, Try.ntmps28
      go_wp2
      go_ret
      exact ⟨_, rfl, m0, by omega, rfl⟩
  · have h1' : (n : Int) ≤ (k : Int) := by omega
    go_enter Try.func28, Try.ntmps28
    go_wp2
    go_ret
    exact ⟨0, rfl, by omega, h0, rfl⟩
theorem long_b (A1 A2 : Option Addr) (n m c d : Nat) (w : World) (hn : n ≤ 3000) (hm : m ≤ 3000) :
    Calls Try.prog 26 #[.slice A1 n c, .slice A2 m d] w fun e w' => e = .returned (.bool false) ∧ Below w.heap.size w w' :=
  (long_c A1 A2 n m c d w hn hm).mono fun _ _ ⟨p, q⟩ => ⟨p, by rw [← q]; exact Below.refl _ _⟩
/-- the answer is a number from 0 to h, and what was there is as it was -/
def Most (w : World) (h : Int) (e : Ending) (w' : World) : Prop := ∃ v : Int, e = .returned (.int .i64 v) ∧ 0 ≤ v ∧ v ≤ h ∧ Below w.heap.size w w'
theorem at_b (A : Option Addr) (n c : Nat) (X : Nat → Int) (k : Nat) (m h : Int) (w : World) (hn : n ≤ 3000) (hk : k ≤ 100) (hm : m - 1 ≤ h) (h0 : 0 ≤ h) (hx : Sb w A n X) :
    Calls Try.prog 28 #[.slice A n c, .int .i64 k, .int .i64 m] w (Most w h) :=
  (at_c A n c X k m h w hn hk hm h0 hx).mono fun _ _ ⟨v, p, q, r, s⟩ => ⟨v, p, q, r, by rw [← s]; exact Below.refl _ _⟩
end Go.Proofs.Ytjemhkjfahoelaa.src
