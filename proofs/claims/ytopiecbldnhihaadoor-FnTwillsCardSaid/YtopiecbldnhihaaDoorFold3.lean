/-
  Twills: validity, width. Contracts of the model and of the program. No condition of a statement lies here.
  Twills in memory: the law's own words on them: size, copy, equality, marks. No condition of a statement lies here.
-/
import Derived.Test.YtopiecbldnhihaaDoorFold1
import Derived.BigQuiet
import Derived.Deep.QuietTactic
import Derived.Deep.RegionHeld3
import Derived.Test.YtopiecbldnhihaaDoorFold2
namespace Go.Proofs.YtopiecbldnhihaaDoor.twl
open Go.ChangeShapes Go.WideShapes Go.ChangeAt Go.RowKit Go.Deep Go.Proofs.YtopiecbldnhihaaDoor.mem Go.Proofs.YtopiecbldnhihaaDoor.rod Go.Proofs.YtopiecbldnhihaaDoor.nums Go.Proofs.YtopiecbldnhihaaDoor.shp
set_option linter.unusedVariables false
set_option maxRecDepth 100000

/-- the sum of the first n numbers -/
def sumN (X : Nat → Int) : Nat → Int
  | 0 => 0
  | n + 1 => sumN X n + X n
theorem sumN_bd {X : Nat → Int} : ∀ {n : Nat}, (∀ k, k < n → 1 ≤ X k ∧ X k ≤ 12) → (n : Int) ≤ sumN X n ∧ sumN X n ≤ 12 * n
  | 0, _ => by simp [sumN]
  | n + 1, h => by
    have := sumN_bd (n := n) fun k hk => h k (by omega)
    have := h n (by omega)
    simp only [sumN]
    omega
theorem sumN_le {X : Nat → Int} {n : Nat} (h : ∀ k, k < n → 1 ≤ X k ∧ X k ≤ 12) {k : Nat} (hk : k ≤ n) : sumN X k ≤ sumN X n := by
  induction n with
  | zero => obtain rfl : k = 0 := by omega
            exact Int.le_refl _
  | succ n ih =>
    by_cases e : k = n + 1
    · rw [e]; exact Int.le_refl _
    · have := ih (fun k hk => h k (by omega)) (by omega)
      have := h n (by omega)
      simp only [sumN]
      omega
/-- the parts of a twill are right -/
def partB (n : Nat) (X : Nat → Int) : Bool := decide (0 < n) && (decide (n % 2 = 0) && (decide (n ≤ 12) && allIn 1 12 X n))
/-- a twill is valid -/
def twB (n : Nat) (X : Nat → Int) (st : Int) : Bool := partB n X && (decide (sumN X n ≤ 12) && inB st 1 (sumN X n - 1))
structure Tw (n : Nat) (X : Nat → Int) (st : Int) : Prop where
  n2 : 2 ≤ n
  n12 : n ≤ 12
  even : n % 2 = 0
  part : ∀ k, k < n → 1 ≤ X k ∧ X k ≤ 12
  wide : sumN X n ≤ 12
  wide2 : 2 ≤ sumN X n
  st1 : 1 ≤ st
  st2 : st ≤ sumN X n - 1
theorem partB_of {n : Nat} {X : Nat → Int} (h : partB n X = true) : 0 < n ∧ n % 2 = 0 ∧ n ≤ 12 ∧ allIn 1 12 X n = true := by
  unfold partB at h
  simp only [Bool.and_eq_true, decide_eq_true_eq] at h
  exact h
theorem twB_of {n : Nat} {X : Nat → Int} {st : Int} (h : twB n X st = true) : Tw n X st := by
  unfold twB at h
  simp only [Bool.and_eq_true, decide_eq_true_eq] at h
  obtain ⟨h1, h2, h3⟩ := h
  obtain ⟨a, b, c, d⟩ := partB_of h1
  have h4 := inB_of h3
  exact ⟨by omega, c, b, fun k hk => allIn_at d hk, h2, by omega, h4.1, h4.2⟩

theorem part_i (x : Int) (w : World) :
    Calls Tryd.prog 53 #[.int .i64 x] w fun e w' => e = .returned (.bool (inB x 1 12)) ∧ w = w' := by
  go_enter Tryd.func53, Tryd.ntmps53
  go_wp2_with (go_at_call 29; refine (in_i _ _ _ _).mono ?_; rintro e w' ⟨rfl, rfl⟩)
  go_ret
  exact ⟨rfl, rfl⟩

set_option maxHeartbeats 1000000 in
theorem are_parts (A : Option Addr) (n c : Nat) (X : Nat → Int) (w : World) (hn : n ≤ maxLen) (hr : Sl w A n 1 X) :
    Calls Tryd.prog 52 #[.slice A n c, .int .i64 12, .func (.func 53) #[] #[]] w fun e w' => e = .returned (.bool (decide (n ≤ 12) && allIn 1 12 X n)) ∧ w = w' := by
  unfold maxLen at hn
  have HR := Lib.hid hr
  clear hr
  by_cases hbig : 12 < n
  · rw [show (decide (n ≤ 12) && allIn 1 12 X n) = false by rw [decide_eq_false (by omega)]; rfl]
    have hbig' : (12 : Int) < (n : Int) := by omega
    go_enter Tryd.func52, Tryd.ntmps52
    go_wp2
    go_ret
    exact ⟨rfl, rfl⟩
  have hbig' : ¬ (12 : Int) < (n : Int) := by omega
  rw [show (decide (n ≤ 12) && allIn 1 12 X n) = allIn 1 12 X n by rw [decide_eq_true (by omega)]; rfl]
  clear hbig
  go_enter Tryd.func52, Tryd.ntmps52
  go_wp2_with fail
  go_loop [15] (fun s => ∃ k : Nat, k ≤ n ∧ s = .int .i64 k ∧ Hid (allIn 1 12 X k = true)) (fun s => n - (intOf s).toNat)
  case atStart => exact ⟨0, by omega, rfl, rfl⟩
  case round =>
    obtain ⟨k, hk, rfl, HA⟩ := hrel
    by_cases hlt : k < n
    · have hlt' : (k : Int) < (n : Int) := by omega
      obtain ⟨b, o, rfl, hb, hX⟩ := HR.out (by omega)
      have h0 := hX k (by omega)
      clear hX
      cases hv : inB (X k) 1 12
      · have HF := Lib.hid (allIn_no hlt hv)
        go_wp2_with (go_at_call 53; refine (part_i _ _).mono ?_; rintro e w' ⟨rfl, rfl⟩)
        go_ret
        exact ⟨by rw [HF.out]; rfl, rfl⟩
      · have HV := Lib.hid hv
        go_wp2_with (go_at_call 53; refine (part_i _ _).mono ?_; rintro e w' ⟨rfl, rfl⟩)
        go_round
        case rel => exact ⟨k + 1, by omega, by go_num, by simp only [Hid, allIn, HA.out, HV.out, Bool.and_self]⟩
        case measure => simp [intOf]; omega
    · obtain rfl : k = n := by omega
      go_wp2
      go_ret
      exact ⟨by rw [HA.out]; rfl, rfl⟩

set_option maxHeartbeats 1000000 in
theorem sum_s (A : Option Addr) (n c : Nat) (X : Nat → Int) (w : World) (hn : n ≤ 12) (hX : ∀ k, k < n → 1 ≤ X k ∧ X k ≤ 12) (hr : Sl w A n 1 X) :
    Calls Tryd.prog 63 #[.slice A n c] w fun e w' => e = .returned (.int .i64 (sumN X n)) ∧ w = w' := by
  have HR := Lib.hid hr
  have HX := Lib.hid hX
  clear hr hX
  go_enter Tryd.func63, Tryd.ntmps63
  go_wp2_with fail
  go_loop [3, 4] (fun t s => ∃ k : Nat, k ≤ n ∧ s = .int .i64 k ∧ t = .int .i64 (sumN X k)) (fun _ s => n - (intOf s).toNat)
  case atStart => exact ⟨0, by omega, rfl, rfl⟩
  case round =>
    obtain ⟨k, hk, rfl, rfl⟩ := hrel
    by_cases hlt : k < n
    · have hlt' : (k : Int) < (n : Int) := by omega
      obtain ⟨b, o, rfl, hb, hI⟩ := HR.out (by omega)
      have h0 := hI k (by omega)
      have x0 := HX.out k hlt
      have hbd := sumN_bd (X := X) (n := k) fun j hj => HX.out j (by omega)
      have hs : IntKind.i64.wrap (sumN X k + X k) = sumN X k + X k := by rw [IntKind.wrap_i64]; omega
      have HS := Lib.hid (show sumN X (k + 1) = sumN X k + X k from rfl)
      clear hI hbd x0
      go_wp2
      go_round
      case rel => exact ⟨k + 1, by omega, by go_num, by rw [HS.out]⟩
      case measure => simp [intOf]; omega
    · obtain rfl : k = n := by omega
      go_wp2
      go_ret
      exact ⟨rfl, rfl⟩

set_option maxHeartbeats 1000000 in
theorem sum_i (A : Option Addr) (n c : Nat) (X : Nat → Int) (w : World) (hn : n ≤ 12) (hX : ∀ k, k < n → 1 ≤ X k ∧ X k ≤ 12) (hr : Sl w A n 1 X) :
    Calls Tryd.prog 62 #[.slice A n c] w fun e w' => e = .returned (.int .i64 (sumN X n)) ∧ w = w' := by
  have HR := Lib.hid hr
  have HX := Lib.hid hX
  clear hr hX
  go_enter Tryd.func62, Tryd.ntmps62
  go_wp2_with fail
  go_loop [3, 8] (fun t s => ∃ k : Nat, k ≤ n ∧ s = .int .i64 k ∧ t = .int .i64 (sumN X k)) (fun _ s => n - (intOf s).toNat)
  case atStart => exact ⟨0, by omega, rfl, rfl⟩
  case round =>
    obtain ⟨k, hk, rfl, rfl⟩ := hrel
    by_cases hlt : k < n
    · have hlt' : (k : Int) < (n : Int) := by omega
      obtain ⟨b, o, rfl, hb, hI⟩ := HR.out (by omega)
      have h0 := hI k (by omega)
      have x0 := HX.out k hlt
      have hbd := sumN_bd (X := X) (n := k) fun j hj => HX.out j (by omega)
      have hs : IntKind.i64.wrap (sumN X k + X k) = sumN X k + X k := by rw [IntKind.wrap_i64]; omega
      have HS := Lib.hid (show sumN X (k + 1) = sumN X k + X k from rfl)
      clear hI hbd x0
      go_wp2
      go_round
      case rel => exact ⟨k + 1, by omega, by go_num, by rw [HS.out]⟩
      case measure => simp [intOf]; omega
    · obtain rfl : k = n := by omega
      go_wp2
      go_ret
      exact ⟨rfl, rfl⟩

set_option maxHeartbeats 1000000 in
theorem width_i (A : Option Addr) (n c : Nat) (X : Nat → Int) (st : Int) (w : World) (hn : n ≤ 12) (hX : ∀ k, k < n → 1 ≤ X k ∧ X k ≤ 12) (hr : Sl w A n 1 X) :
    Calls Tryd.prog 42 #[.agg #[.slice A n c, .int .i64 st]] w fun e w' => e = .returned (.int .i64 (sumN X n)) ∧ Below w.heap.size w w' := by
  have HR := Lib.hid hr
  clear hr
  go_enter Tryd.func42, Tryd.ntmps42
  go_wp2_with fail
  refine (sum_i A n c X _ hn hX (HR.out.below (K := w.heap.size) (by go_grown) (Nat.le_refl _))).mono ?_
  rintro e w' ⟨rfl, rfl⟩
  go_wp2
  go_ret
  exact ⟨rfl, by go_grown⟩

set_option maxHeartbeats 1000000 in
theorem width_s (A : Option Addr) (n c b : Nat) (X : Nat → Int) (w : World) (hn : n ≤ 12) (hX : ∀ k, k < n → 1 ≤ X k ∧ X k ≤ 12) (hr : Sl w A n 1 X) (c0 : w.cell? ⟨b, 0, none⟩ = some (.slice A n c)) :
    Calls Tryd.prog 45 #[.pointer (some ⟨b, 0, none⟩)] w fun e w' => e = .returned (.int .i64 (sumN X n)) ∧ w = w' := by
  have HR := Lib.hid hr
  clear hr
  go_enter Tryd.func45, Tryd.ntmps45
  go_wp2_with fail
  refine (sum_s A n c X _ hn hX HR.out).mono ?_
  rintro e w' ⟨rfl, rfl⟩
  go_wp2
  go_ret
  exact ⟨rfl, rfl⟩

end Go.Proofs.YtopiecbldnhihaaDoor.twl

namespace Go.Proofs.YtopiecbldnhihaaDoor.twl
open Go.ChangeShapes Go.WideShapes Go.ChangeAt Go.RowKit Go.Proofs.YtopiecbldnhihaaDoor.mem Go.Proofs.YtopiecbldnhihaaDoor.rod Go.Proofs.YtopiecbldnhihaaDoor.nums
set_option linter.unusedVariables false

/-- the answer is a new bed with memory of its own -/
def NewTwill (w : World) (m : Nat) (Y : Nat → Int) (a : Int) (e : Ending) (w' : World) : Prop :=
  ∃ A c, e = .returned (.agg #[.slice A m c, .int .i64 a]) ∧ m ≤ c ∧ c ≤ maxLen ∧ Row w' w.heap.size w'.heap.size A m 1 2 Y ∧ Below w.heap.size w w'

theorem wrote_then {w w1 w2 : World} {lo hi lo' hi' : Nat} (h : WroteIn w w1 lo hi) (h2 : WroteIn w1 w2 lo' hi') (hl : lo ≤ lo' ∧ hi' ≤ hi ∨ hi' ≤ lo') : WroteIn w w2 lo hi :=
  ⟨h2.os.trans h.os, h2.tape.trans h.tape, h2.output.trans h.output, Nat.le_trans h.size h2.size, fun k hk hd => (h2.block k (Nat.lt_of_lt_of_le hk h.size) (by omega)).trans (h.block k hk hd)⟩
theorem wroteIn_same {w w' : World} {lo hi : Nat} (h : Below w.heap.size w w') : WroteIn w w' lo hi := ⟨h.os, h.tape, h.output, h.size, fun k hk _ => h.block k hk⟩
end Go.Proofs.YtopiecbldnhihaaDoor.twl
