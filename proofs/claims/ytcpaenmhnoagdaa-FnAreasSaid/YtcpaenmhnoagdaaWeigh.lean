/-
  Contracts of WeightOfLength, of the model and of the program.
-/
import Derived.Test.YtcpaenmhnoagdaaBunch
namespace Go.Proofs.Ytcpaenmhnoagdaa.rod
open Go.ChangeShapes Go.WideShapes Go.ChangeAt Go.RowKit Go.Proofs.Ytcpaenmhnoagdaa.mem
set_option linter.unusedVariables false

set_option maxHeartbeats 1000000 in
theorem weigh_s_no (A : Option Addr) (n c : Nat) (X : Nat → Int) (h code : Int) (w : World) (hn : n ≤ maxLen) (hr : Sl w A n 3 X)
    (hv : listU n X = false ∧ code = 1 ∨ listU n X = true ∧ inB h 100 3000 = false ∧ code = 2) :
    Calls Try.prog 31 #[.slice A n c, .int .i64 h] w fun e w' => e = .returned (.tuple #[.int .i64 0, .int .i64 code]) ∧ Below w.heap.size w w' := by
  have HR := Lib.hid hr
  clear hr
  rcases hv with ⟨hv, rfl⟩ | ⟨hv, h1, rfl⟩
  all_goals
    go_enter Try.func31, Try.ntmps31
    go_wp2_with (first | (go_at_call 44; refine (okU_s A n c X _ hn HR.out).mono ?_; rintro e w1 ⟨rfl, m1, rfl⟩) | (go_at_call 65; refine (long_s _ _).mono ?_; rintro e w' ⟨rfl, rfl⟩))
    go_ret2
    exact ⟨rfl, by first | exact drewN_below (Below.refl _ _) _ | exact b1⟩

set_option maxHeartbeats 1000000 in
theorem weigh_i_no (A : Option Addr) (n c : Nat) (X : Nat → Int) (h code : Int) (w : World) (hn : n ≤ maxLen) (hr : Sl w A n 3 X)
    (hv : listU n X = false ∧ code = 1 ∨ listU n X = true ∧ inB h 100 3000 = false ∧ code = 2) :
    Calls Try.prog 32 #[.slice A n c, .int .i64 h] w fun e w' => e = .returned (.tuple #[.int .i64 0, .int .i64 code]) ∧ Below w.heap.size w w' := by
  have HR := Lib.hid hr
  clear hr
  rcases hv with ⟨hv, rfl⟩ | ⟨hv, h1, rfl⟩
  all_goals
    go_enter Try.func32, Try.ntmps32
    go_wp2_with (first | (go_at_call 16; refine (validU_i A n c X _ hn HR.out).mono ?_; rintro e w1 ⟨rfl, b1⟩) | (go_at_call 56; refine (in_i _ _ _ _).mono ?_; rintro e w' ⟨rfl, rfl⟩))
    go_ret2
    exact ⟨rfl, by first | exact drewN_below (Below.refl _ _) _ | exact b1⟩

set_option maxHeartbeats 2000000 in
theorem weigh_s (A : Option Addr) (n c : Nat) (X : Nat → Int) (h : Int) (w : World) (hn : n ≤ maxLen) (hr : Sl w A n 3 X) (hv : listU n X = true) (h1 : inB h 100 3000 = true) :
    Calls Try.prog 31 #[.slice A n c, .int .i64 h] w fun e w' => e = .returned (.tuple #[.int .i64 (wol X h n), .int .i64 0]) ∧ Below w.heap.size w w' := by
  obtain ⟨n30, hall⟩ := listU_of hv
  have HV := Lib.hid hall
  have HR := Lib.hid hr
  clear hr hall
  go_enter Try.func31, Try.ntmps31
  go_wp2_with (first | (go_at_call 44; refine (okU_s A n c X _ hn HR.out).mono ?_; rintro e w1 ⟨rfl, m1, rfl⟩) | (go_at_call 65; refine (long_s _ _).mono ?_; rintro e w' ⟨rfl, rfl⟩))
  go_outline
  go_loopw [7, 6] (fun s t wr => ∃ k m : Nat, k ≤ n ∧ s = .int .i64 k ∧ t = .int .i64 (wol X h k) ∧ wr = w.drewN m) (fun s _ _ => n - (intOf s).toNat)
  case atStart => exact ⟨0, _, by omega, rfl, rfl, rfl⟩
  case round =>
    obtain ⟨k, m, hk, rfl, rfl, rfl⟩ := hrel
    by_cases hlt : k < n
    · have hlt' : (k : Int) < (n : Int) := by omega
      have hk0 : (0 : Int) ≤ (k : Int) := by omega
      obtain ⟨b, o, rfl, hb, hX⟩ := HR.out (by omega)
      have p0 := hX (k * 3) (by omega)
      have p2 := hX (k * 3 + 2) (by omega)
      simp only [← Nat.add_assoc] at p2
      clear hX
      have hbd := wol_bd (l := h) (allU_le (m := k) (by omega) HV.out)
      have hbb := allU_bd HV.out hlt
      by_cases e : X (k * 3) = h
      · have HE := Lib.hid (wol_yes (X := X) (n := k) e)
        have e1 : (X (k * 3) == h) = true := by simpa using e
        generalize wol X h k = S at *
        generalize X (k * 3 + 2) = z at *
        have hw : IntKind.i64.wrap (S + z) = S + z := IntWalk.i64_in _ (by omega)
        rw [e] at p0
        clear e e1
        go_wp2_with fail
        go_roundw
        case rel => exact ⟨k + 1, _, by omega, by go_num, by rw [HE.out], rfl⟩
        case measure => simp [intOf]; omega
      · have HE := Lib.hid (wol_no (X := X) (n := k) e)
        have e1 : (X (k * 3) == h) = false := by simpa using e
        generalize wol X h k = S at *
        clear e
        go_wp2_with fail
        go_roundw
        case rel => exact ⟨k + 1, _, by omega, by go_num, by rw [HE.out], rfl⟩
        case measure => simp [intOf]; omega
    · obtain rfl : k = n := by omega
      go_wp2
      go_ret2
      exact ⟨rfl, drewN_below (Below.refl _ _) _⟩

set_option maxHeartbeats 2000000 in
theorem weigh_i (A : Option Addr) (n c : Nat) (X : Nat → Int) (h : Int) (w : World) (hn : n ≤ maxLen) (hr : Sl w A n 3 X) (hv : listU n X = true) (h1 : inB h 100 3000 = true) :
    Calls Try.prog 32 #[.slice A n c, .int .i64 h] w fun e w' => e = .returned (.tuple #[.int .i64 (wol X h n), .int .i64 0]) ∧ Below w.heap.size w w' := by
  obtain ⟨n30, hall⟩ := listU_of hv
  have HV := Lib.hid hall
  have HR := Lib.hid hr
  clear hr hall
  go_enter Try.func32, Try.ntmps32
  go_wp2_with (first | (go_at_call 16; refine (validU_i A n c X _ hn HR.out).mono ?_; rintro e w1 ⟨rfl, b1⟩) | (go_at_call 56; refine (in_i _ _ _ _).mono ?_; rintro e w' ⟨rfl, rfl⟩))
  have B1 := Lib.hid b1
  clear b1
  go_outline
  go_loopw [17, 6] (fun s t wr => ∃ k : Nat, k ≤ n ∧ s = .int .i64 k ∧ t = .int .i64 (wol X h k) ∧ Below w.heap.size w wr) (fun s _ _ => n - (intOf s).toNat)
  case atStart => exact ⟨0, by omega, rfl, rfl, B1.out⟩
  case round =>
    obtain ⟨k, hk, rfl, rfl, hd⟩ := hrel
    have hzz := hd.size
    by_cases hlt : k < n
    · have hlt' : (k : Int) < (n : Int) := by omega
      have hk0 : (0 : Int) ≤ (k : Int) := by omega
      obtain ⟨b, o, rfl, hb, hX⟩ := HR.out (by omega)
      have p0 := hX.below hd hb (k * 3) (by omega)
      have p1 := hX.below hd hb (k * 3 + 1) (by omega)
      have p2 := hX.below hd hb (k * 3 + 2) (by omega)
      simp only [← Nat.add_assoc] at p1 p2
      clear hX
      have HD := Lib.hid hd
      clear hd
      have hbd := wol_bd (l := h) (allU_le (m := k) (by omega) HV.out)
      have hbb := allU_bd HV.out hlt
      by_cases e : X (k * 3) = h
      · have HE := Lib.hid (wol_yes (X := X) (n := k) e)
        generalize wol X h k = S at *
        generalize X (k * 3 + 2) = z at *
        generalize X (k * 3 + 1) = y at *
        have hw : IntKind.i64.wrap (S + z) = S + z := IntWalk.i64_in _ (by omega)
        rw [e] at p0
        clear e
        go_wp2_with fail
        go_roundw
        case rel => exact ⟨k + 1, by omega, by go_num, by rw [HE.out], by first | exact HD.out.alloc hzz _ | go_grown⟩
        case measure => simp [intOf]; omega
      · have HE := Lib.hid (wol_no (X := X) (n := k) e)
        have e1 : (X (k * 3) == h) = false := by simpa using e
        generalize wol X h k = S at *
        clear e
        go_wp2_with fail
        go_roundw
        case rel => exact ⟨k + 1, by omega, by go_num, by rw [HE.out], by first | exact HD.out.alloc hzz _ | go_grown⟩
        case measure => simp [intOf]; omega
    · obtain rfl : k = n := by omega
      go_wp2
      go_ret2
      exact ⟨rfl, hd⟩

end Go.Proofs.Ytcpaenmhnoagdaa.rod
