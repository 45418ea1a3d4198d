/-
  Contracts of limits, of the grade of one rod, and of GradeOf.
-/
import Derived.Test.YtcpaenmhnoagdabGrade
namespace Go.Proofs.Ytcpaenmhnoagdab.rod
open Go.ChangeShapes Go.WideShapes Go.ChangeAt Go.RowKit
open Go.Proofs.Ytcpaenmhnoagdab.mem Go.Proofs.Ytcpaenmhnoagdab.nums
set_option linter.unusedVariables false

set_option maxHeartbeats 1000000 in
theorem limits_s (A : Option Addr) (n c : Nat) (Y : Nat → Int) (w : World) (hn : n ≤ maxLen) (hr : Sl w A n 1 Y) :
    Calls Try.prog 76 #[.slice A n c] w fun e w' => e = .returned (.bool (limB n Y)) ∧ ∃ m, w' = w.drewN m := by
  have HR := Lib.hid hr
  have hn' := hn
  unfold maxLen at hn'
  clear hr
  by_cases h8 : n ≤ 8
  · have he : limB n Y = risL 100 3000 Y n := by unfold limB; rw [decide_eq_true h8]; rfl
    rw [he]
    have hd : decide ((n : Int) ≤ 8) = true := by simp; omega
    have hd' : (n : Int) ≤ 8 := by omega
    clear he
    go_enter Try.func76, Try.ntmps76
    go_wp2_with (go_at_call 105; refine (risesL_s A n c Y 100 3000 _ hn HR.out).mono ?_; rintro e w' ⟨rfl, m, rfl⟩)
    go_ret
    exact ⟨rfl, _, rfl⟩
  · have he : limB n Y = false := by unfold limB; rw [decide_eq_false h8]; rfl
    rw [he]
    have hd : decide ((n : Int) ≤ 8) = false := by simp; omega
    have hd' : ¬ (n : Int) ≤ 8 := by omega
    clear he
    go_enter Try.func76, Try.ntmps76
    go_wp2
    go_ret
    exact ⟨rfl, 0, rfl⟩

set_option maxHeartbeats 1000000 in
theorem limits_i (A : Option Addr) (n c : Nat) (Y : Nat → Int) (w : World) (hn : n ≤ maxLen) (hr : Sl w A n 1 Y) :
    Calls Try.prog 78 #[.slice A n c] w fun e w' => e = .returned (.bool (limB n Y)) ∧ w = w' := by
  have HR := Lib.hid hr
  have hn' := hn
  unfold maxLen at hn'
  clear hr
  by_cases h8 : n ≤ 8
  · have he : limB n Y = risL 100 3000 Y n := by unfold limB; rw [decide_eq_true h8]; rfl
    rw [he]
    have hd' : (n : Int) ≤ 8 := by omega
    clear he
    go_enter Try.func78, Try.ntmps78
    go_wp2_with (go_at_call 107; refine (incr_i A n c Y 100 3000 _ hn (by omega) (by omega) (by omega) HR.out).mono ?_; rintro e w' ⟨rfl, rfl⟩)
    go_ret
    exact ⟨rfl, rfl⟩
  · have he : limB n Y = false := by unfold limB; rw [decide_eq_false h8]; rfl
    rw [he]
    have hd' : ¬ (n : Int) ≤ 8 := by omega
    clear he
    go_enter Try.func78, Try.ntmps78
    go_wp2
    go_ret
    exact ⟨rfl, rfl⟩

/-- how many of the first n limits are not greater than a length -/
def gr (Y : Nat → Int) (L : Int) : Nat → Int
  | 0 => 0
  | n + 1 => gr Y L n + if Y n ≤ L then 1 else 0
theorem gr_bd (Y : Nat → Int) (L : Int) : ∀ n : Nat, 0 ≤ gr Y L n ∧ gr Y L n ≤ n
  | 0 => ⟨Int.le_refl _, Int.le_refl _⟩
  | n + 1 => by
    have := gr_bd Y L n
    unfold gr
    split <;> constructor <;> omega

set_option maxHeartbeats 1000000 in
theorem grade_s (b o : Nat) (L : Int) (A : Option Addr) (n c : Nat) (Y : Nat → Int) (w : World) (hn : n ≤ maxLen) (hl : w.cell? ⟨b, o, none⟩ = some (.int .i64 L)) (hr : Sl w A n 1 Y) :
    Calls Try.prog 77 #[.pointer (some ⟨b, o, none⟩), .slice A n c] w fun e w' => e = .returned (.int .i64 (gr Y L n)) ∧ ∃ m, w' = w.drewN m := by
  unfold maxLen at hn
  have HR := Lib.hid hr
  have HL := Lib.hid hl
  clear hr hl
  go_enter Try.func77, Try.ntmps77
  go_wp2_with fail
  go_loopw [6, 5] (fun s t wr => ∃ k : Nat, k ≤ n ∧ s = .int .i64 k ∧ t = .int .i64 (gr Y L k) ∧ Drew w wr) (fun s _ _ => n - (intOf s).toNat)
  case atStart => exact ⟨0, by omega, rfl, rfl, Drew.refl _⟩
  case round =>
    obtain ⟨k, hk, rfl, rfl, hd⟩ := hrel
    have HD := Lib.hid hd
    clear hd
    have hg := gr_bd Y L k
    by_cases hlt : k < n
    · have hlt' : (k : Int) < (n : Int) := by omega
      have hk0 : (0 : Int) ≤ (k : Int) := by omega
      obtain ⟨b2, o2, rfl, hb, hX⟩ := (HD.out.sl HR.out) (by omega)
      have h0 := hX k (by omega)
      have h1 := HD.out.cell HL.out
      clear hX
      by_cases hc : Y k ≤ L
      · have hs : gr Y L (k + 1) = gr Y L k + 1 := by show gr Y L k + (if Y k ≤ L then 1 else 0) = _; rw [if_pos hc]
        have HV := Lib.hid hs
        clear hs
        generalize gr Y L k = g at *
        go_wp2_with fail
        go_quiet (fail)
        go_wp2
        go_roundw
        case rel => exact ⟨k + 1, by omega, by go_num, by rw [HV.out], HD.out.drewN _⟩
        case measure => simp [intOf]; omega
      · have hs : gr Y L (k + 1) = gr Y L k := by show gr Y L k + (if Y k ≤ L then 1 else 0) = _; rw [if_neg hc]; omega
        have HV := Lib.hid hs
        clear hs
        generalize gr Y L k = g at *
        go_wp2_with fail
        go_quiet (fail)
        go_wp2
        go_roundw
        case rel => exact ⟨k + 1, by omega, by go_num, by rw [HV.out], HD.out.drewN _⟩
        case measure => simp [intOf]; omega
    · obtain rfl : k = n := by omega
      go_wp2
      go_ret
      exact ⟨rfl, HD.out⟩

set_option maxHeartbeats 1000000 in
theorem grade_i (L B T : Int) (A : Option Addr) (n c : Nat) (Y : Nat → Int) (w : World) (hn : n ≤ maxLen) (hr : Sl w A n 1 Y) :
    Calls Try.prog 79 #[.agg #[.int .i64 L, .int .i64 B, .int .i64 T], .slice A n c] w fun e w' => e = .returned (.int .i64 (gr Y L n)) ∧ Below w.heap.size w w' := by
  unfold maxLen at hn
  have HR := Lib.hid hr
  clear hr
  go_enter Try.func79, Try.ntmps79
  go_wp2_with fail
  go_loop [10, 5] (fun s t => ∃ k : Nat, k ≤ n ∧ s = .int .i64 k ∧ t = .int .i64 (gr Y L k)) (fun s _ => n - (intOf s).toNat)
  case atStart => exact ⟨0, by omega, rfl, rfl⟩
  case round =>
    obtain ⟨k, hk, rfl, rfl⟩ := hrel
    have hg := gr_bd Y L k
    by_cases hlt : k < n
    · have hlt' : (k : Int) < (n : Int) := by omega
      obtain ⟨b2, o2, rfl, hb, hX⟩ := HR.out (by omega)
      have h0 : (w.alloc (Obj.cells #[Value.int IntKind.i64 L, Value.int IntKind.i64 B, Value.int IntKind.i64 T] 51)).cell? ⟨b2, o2 + k, none⟩ = some (.int .i64 (Y k)) :=
        (Below.cell (B := w.heap.size) (by go_grown) hb).trans (hX k (by omega))
      clear hX
      by_cases hc : Y k ≤ L
      · have hs : gr Y L (k + 1) = gr Y L k + 1 := by show gr Y L k + (if Y k ≤ L then 1 else 0) = _; rw [if_pos hc]
        have HV := Lib.hid hs
        clear hs
        generalize gr Y L k = g at *
        go_wp2
        go_round
        case rel => exact ⟨k + 1, by omega, by go_num, by rw [HV.out]⟩
        case measure => simp [intOf]; omega
      · have hs : gr Y L (k + 1) = gr Y L k := by show gr Y L k + (if Y k ≤ L then 1 else 0) = _; rw [if_neg hc]; omega
        have HV := Lib.hid hs
        clear hs
        generalize gr Y L k = g at *
        go_wp2
        go_round
        case rel => exact ⟨k + 1, by omega, by go_num, by rw [HV.out]⟩
        case measure => simp [intOf]; omega
    · obtain rfl : k = n := by omega
      go_wp2
      go_ret
      exact ⟨rfl, by go_grown⟩

end Go.Proofs.Ytcpaenmhnoagdab.rod
