/-
  Contracts of the laws' helpers on slices of whole numbers.
-/
import Derived.Test.YtgfnagkelhbplaaMem
import Derived.RegionTactic
import Derived.ChangeAlike
import Derived.Deep.QuietTactic
import Derived.BigQuiet
import Derived.Outline
namespace Go.Proofs.Ytgfnagkelhbplaa.nums
open Go.ChangeShapes Go.WideShapes Go.ChangeAt Go.RowKit
open Go.Proofs.Ytgfnagkelhbplaa.mem
set_option linter.unusedVariables false

theorem info_num : (Try.prog.info? 2).map (fun i => (i.zero, i.size, i.bytes)) = some (some (.int .i64 0), 1, 8) := by kernel_rfl

set_option maxHeartbeats 1000000 in
theorem eqInts_same (A1 A2 : Option Addr) (n c1 c2 : Nat) (X : Nat → Int) (w : World) (hn : n ≤ maxLen) (h1 : Sl w A1 n 1 X) (h2 : Sl w A2 n 1 X) :
    Calls Try.prog 21 #[.slice A1 n c1, .slice A2 n c2] w fun e w' => e = .returned (.bool true) ∧ ∃ m, w' = w.drewN m := by
  unfold maxLen at hn
  have H1 := Lib.hid h1
  have H2 := Lib.hid h2
  clear h1 h2
  go_enter Try.func21, Try.ntmps21
  go_wp2_with fail
  go_loopw [5] (fun s wr => ∃ k m : Nat, k ≤ n ∧ s = .int .i64 k ∧ wr = w.drewN m) (fun s _ => n - (intOf s).toNat)
  case atStart => exact ⟨0, 0, by omega, rfl, rfl⟩
  case round =>
    obtain ⟨k, m, hk, rfl, rfl⟩ := hrel
    by_cases hlt : k < n
    · have hlt' : (k : Int) < (n : Int) := by omega
      have hk0 : (0 : Int) ≤ (k : Int) := by omega
      obtain ⟨b1, o1, rfl, hb1, hX1⟩ := H1.out (by omega)
      obtain ⟨b2, o2, rfl, hb2, hX2⟩ := H2.out (by omega)
      have p0 := hX1 k (by omega)
      have q0 := hX2 k (by omega)
      clear hX1 hX2
      go_wp2_with fail
      go_quiet (fail)
      go_wp2
      go_roundw
      case rel => exact ⟨k + 1, _, by omega, by go_num, rfl⟩
      case measure => simp [intOf]; omega
    · obtain rfl : k = n := by omega
      go_wp2
      go_ret
      exact ⟨rfl, _, rfl⟩

set_option maxHeartbeats 1000000 in
theorem markInts_c (A : Option Addr) (n c lo hi : Nat) (q : Int) (X : Nat → Int) (w : World) (hn : n ≤ 1048576) (q0 : 0 ≤ q) (q1 : q ≤ 1000000000) (hr : Row w lo hi A n 1 2 X) :
    Calls Try.prog 22 #[.slice A n c, .int .i64 q] w (Marked w lo hi A n 1 2 (q + n) (fun j => q + j)) := by
  have HR := Lib.hid hr
  clear hr
  go_enter Try.func22, Try.ntmps22
  go_wp2_with fail
  go_loopw [5, 1] (fun s t wr => ∃ k : Nat, k ≤ n ∧ s = .int .i64 k ∧ t = .int .i64 (q + k) ∧ Hid (Row wr lo hi A n 1 2 (fun j => if j < k then q + j else X j)) ∧ WroteIn w wr lo hi) (fun s _ _ => n - (intOf s).toNat)
  case atStart => exact ⟨0, by omega, rfl, by go_num, HR.out.congr (fun j _ => by simp), WroteIn.refl _ _ _⟩
  case round =>
    obtain ⟨k, hk, rfl, rfl, hrow, hw⟩ := hrel
    have hzz := hw.size
    by_cases hlt : k < n
    · have hlt' : (k : Int) < (n : Int) := by omega
      obtain ⟨g, rfl, g1, g2, ho⟩ := hrow.out (by omega)
      have c0 := ho.cell (j := k) (by omega)
      have f0 := ho.frozen k
      have HO := Lib.hid ho
      clear ho
      go_wp2
      go_roundw
      case rel =>
        refine ⟨k + 1, by omega, by go_num, by go_num, fun _ => ⟨g, rfl, g1, g2, (HO.out.set k (q + k)).congr ?_⟩, ?_⟩
        · intro j hj
          by_cases e0 : j = k
          · subst e0; first | (simp; done) | (simp; omega)
          simp only [e0, if_false]
          by_cases e3 : j < k
          · rw [if_pos e3, if_pos (by omega)]
          · rw [if_neg e3, if_neg (by omega)]
        · exact hw.set g1 g2 _
      case measure => simp [intOf]; omega
    · obtain rfl : k = n := by omega
      go_wp2
      go_ret
      exact ⟨rfl, hrow.out.congr (fun j hj => by rw [if_pos (by omega)]), hw⟩
set_option maxHeartbeats 1000000 in
theorem heldInts_c (A : Option Addr) (n c : Nat) (q : Int) (w : World) (hn : n ≤ 1048576) (q0 : 0 ≤ q) (q1 : q ≤ 1000000000) (hr : Sl w A n 1 (fun j => q + j)) :
    Calls Try.prog 23 #[.slice A n c, .int .i64 q] w fun e w' => e = .returned (.int .i64 (q + n)) ∧ ∃ m, w' = w.drewN m := by
  have HR := Lib.hid hr
  clear hr
  go_enter Try.func23, Try.ntmps23
  go_wp2_with fail
  go_loopw [5, 1] (fun s t wr => ∃ k m : Nat, k ≤ n ∧ s = .int .i64 k ∧ t = .int .i64 (q + k) ∧ wr = w.drewN m) (fun s _ _ => n - (intOf s).toNat)
  case atStart => exact ⟨0, 0, by omega, rfl, by go_num, rfl⟩
  case round =>
    obtain ⟨k, m, hk, rfl, rfl, rfl⟩ := hrel
    by_cases hlt : k < n
    · have hlt' : (k : Int) < (n : Int) := by omega
      have hk0 : (0 : Int) ≤ (k : Int) := by omega
      obtain ⟨b, o, rfl, hb, hX⟩ := HR.out (by omega)
      have p0 := hX k (by omega)
      clear hX
      go_wp2_with fail
      go_roundw
      case rel => exact ⟨k + 1, _, by omega, by go_num, by go_num, rfl⟩
      case measure => simp [intOf]; omega
    · obtain rfl : k = n := by omega
      go_wp2
      go_ret
      exact ⟨rfl, _, rfl⟩
theorem eqInts_b (A1 A2 : Option Addr) (n c1 c2 : Nat) (X : Nat → Int) (w : World) (hn : n ≤ maxLen) (h1 : Sl w A1 n 1 X) (h2 : Sl w A2 n 1 X) :
    Calls Try.prog 21 #[.slice A1 n c1, .slice A2 n c2] w fun e w' => e = .returned (.bool true) ∧ Below w.heap.size w w' :=
  (eqInts_same A1 A2 n c1 c2 X w hn h1 h2).mono fun _ _ ⟨p, m, q⟩ => ⟨p, by rw [q]; exact drewN_below (Below.refl _ _) m⟩
theorem heldInts_b (A : Option Addr) (n c : Nat) (q : Int) (w : World) (hn : n ≤ 1048576) (q0 : 0 ≤ q) (q1 : q ≤ 1000000000) (hr : Sl w A n 1 (fun j => q + j)) :
    Calls Try.prog 23 #[.slice A n c, .int .i64 q] w fun e w' => e = .returned (.int .i64 (q + n)) ∧ Below w.heap.size w w' :=
  (heldInts_c A n c q w hn q0 q1 hr).mono fun _ _ ⟨p, m, q⟩ => ⟨p, by rw [q]; exact drewN_below (Below.refl _ _) m⟩
end Go.Proofs.Ytgfnagkelhbplaa.nums
