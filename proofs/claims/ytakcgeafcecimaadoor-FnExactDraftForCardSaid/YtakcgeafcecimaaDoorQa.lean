/-
  Twills: validity, width. Contracts of the model and of the program. No condition of a statement lies here.
-/
import Derived.Test.YtakcgeafcecimaaDoorHa
import Derived.BigQuiet
import Derived.Deep.QuietTactic
import Derived.Deep.RegionHeld3
namespace Go.Proofs.YtakcgeafcecimaaDoor.twl
open Go.ChangeShapes Go.WideShapes Go.ChangeAt Go.RowKit Go.Deep Go.Proofs.YtakcgeafcecimaaDoor.mem Go.Proofs.YtakcgeafcecimaaDoor.rod Go.Proofs.YtakcgeafcecimaaDoor.nums Go.Proofs.YtakcgeafcecimaaDoor.shp
set_option linter.unusedVariables false
set_option maxRecDepth 100000

/-- the sum of the first n numbers -/
def sumN (X : Nat → Int) : Nat → Int
  | 0 => 0
  | n + 1 => sumN X n + X n
theorem sumN_bd {X : Nat → Int} : ∀ {n : Nat}, (∀ k, k < n → 1 ≤ X k ∧ X k ≤ 12) → (n : Int) ≤ sumN X n ∧ sumN X n ≤ 12 * n
  | 0, _ => by simp [sumN]
  | n + 1, h => by
    have := sumN_bd (n := n) fun k hk => h k (by omega)
    have := h n (by omega)
    simp only [sumN]
    omega
theorem sumN_le {X : Nat → Int} {n : Nat} (h : ∀ k, k < n → 1 ≤ X k ∧ X k ≤ 12) {k : Nat} (hk : k ≤ n) : sumN X k ≤ sumN X n := by
  induction n with
  | zero => obtain rfl : k = 0 := by omega
            exact Int.le_refl _
  | succ n ih =>
    by_cases e : k = n + 1
    · rw [e]; exact Int.le_refl _
    · have := ih (fun k hk => h k (by omega)) (by omega)
      have := h n (by omega)
      simp only [sumN]
      omega
/-- the parts of a twill are right -/
def partB (n : Nat) (X : Nat → Int) : Bool := decide (0 < n) && (decide (n % 2 = 0) && (decide (n ≤ 12) && allIn 1 12 X n))
/-- a twill is valid -/
def twB (n : Nat) (X : Nat → Int) (st : Int) : Bool := partB n X && (decide (sumN X n ≤ 12) && inB st 1 (sumN X n - 1))
structure Tw (n : Nat) (X : Nat → Int) (st : Int) : Prop where
  n2 : 2 ≤ n
  n12 : n ≤ 12
  even : n % 2 = 0
  part : ∀ k, k < n → 1 ≤ X k ∧ X k ≤ 12
  wide : sumN X n ≤ 12
  wide2 : 2 ≤ sumN X n
  st1 : 1 ≤ st
  st2 : st ≤ sumN X n - 1
theorem partB_of {n : Nat} {X : Nat → Int} (h : partB n X = true) : 0 < n ∧ n % 2 = 0 ∧ n ≤ 12 ∧ allIn 1 12 X n = true := by
  unfold partB at h
  simp only [Bool.and_eq_true, decide_eq_true_eq] at h
  exact h
theorem twB_of {n : Nat} {X : Nat → Int} {st : Int} (h : twB n X st = true) : Tw n X st := by
  unfold twB at h
  simp only [Bool.and_eq_true, decide_eq_true_eq] at h
  obtain ⟨h1, h2, h3⟩ := h
  obtain ⟨a, b, c, d⟩ := partB_of h1
  have h4 := inB_of h3
  exact ⟨by omega, c, b, fun k hk => allIn_at d hk, h2, by omega, h4.1, h4.2⟩

theorem part_i (x : Int) (w : World) :
    Calls Tryd.prog 37 #[.int .i64 x] w fun e w' => e = .returned (.bool (inB x 1 12)) ∧ w = w' := by
  go_enter Tryd.func37, Tryd.ntmps37
  go_wp2_with (go_at_call 19; refine (in_i _ _ _ _).mono ?_; rintro e w' ⟨rfl, rfl⟩)
  go_ret
  exact ⟨rfl, rfl⟩

set_option maxHeartbeats 1000000 in
theorem are_parts (A : Option Addr) (n c : Nat) (X : Nat → Int) (w : World) (hn : n ≤ maxLen) (hr : Sl w A n 1 X) :
    Calls Tryd.prog 36 #[.slice A n c, .int .i64 12, .func (.func 37) #[] #[]] w fun e w' => e = .returned (.bool (decide (n ≤ 12) && allIn 1 12 X n)) ∧ w = w' := by
  unfold maxLen at hn
  have HR := Lib.hid hr
  clear hr
  by_cases hbig : 12 < n
  · rw [show (decide (n ≤ 12) && allIn 1 12 X n) = false by rw [decide_eq_false (by omega)]; rfl]
    have hbig' : (12 : Int) < (n : Int) := by omega
    go_enter Tryd.func36, Tryd.ntmps36
    go_wp2
    go_ret
    exact ⟨rfl, rfl⟩
  have hbig' : ¬ (12 : Int) < (n : Int) := by omega
  rw [show (decide (n ≤ 12) && allIn 1 12 X n) = allIn 1 12 X n by rw [decide_eq_true (by omega)]; rfl]
  clear hbig
  go_enter Tryd.func36, Tryd.ntmps36
  go_wp2_with fail
  go_loop [15] (fun s => ∃ k : Nat, k ≤ n ∧ s = .int .i64 k ∧ Hid (allIn 1 12 X k = true)) (fun s => n - (intOf s).toNat)
  case atStart => exact ⟨0, by omega, rfl, rfl⟩
  case round =>
    obtain ⟨k, hk, rfl, HA⟩ := hrel
    by_cases hlt : k < n
    · have hlt' : (k : Int) < (n : Int) := by omega
      obtain ⟨b, o, rfl, hb, hX⟩ := HR.out (by omega)
      have h0 := hX k (by omega)
      clear hX
      cases hv : inB (X k) 1 12
      · have HF := Lib.hid (allIn_no hlt hv)
        go_wp2_with (go_at_call 37; refine (part_i _ _).mono ?_; rintro e w' ⟨rfl, rfl⟩)
        go_ret
        exact ⟨by rw [HF.out]; rfl, rfl⟩
      · have HV := Lib.hid hv
        go_wp2_with (go_at_call 37; refine (part_i _ _).mono ?_; rintro e w' ⟨rfl, rfl⟩)
        go_round
        case rel => exact ⟨k + 1, by omega, by go_num, by simp only [Hid, allIn, HA.out, HV.out, Bool.and_self]⟩
        case measure => simp [intOf]; omega
    · obtain rfl : k = n := by omega
      go_wp2
      go_ret
      exact ⟨by rw [HA.out]; rfl, rfl⟩

set_option maxHeartbeats 1000000 in
theorem sum_s (A : Option Addr) (n c : Nat) (X : Nat → Int) (w : World) (hn : n ≤ 12) (hX : ∀ k, k < n → 1 ≤ X k ∧ X k ≤ 12) (hr : Sl w A n 1 X) :
    Calls Tryd.prog 51 #[.slice A n c] w fun e w' => e = .returned (.int .i64 (sumN X n)) ∧ w = w' := by
  have HR := Lib.hid hr
  have HX := Lib.hid hX
  clear hr hX
  go_enter Tryd.func51, Tryd.ntmps51
  go_wp2_with fail
  go_loop [3, 4] (fun t s => ∃ k : Nat, k ≤ n ∧ s = .int .i64 k ∧ t = .int .i64 (sumN X k)) (fun _ s => n - (intOf s).toNat)
  case atStart => exact ⟨0, by omega, rfl, rfl⟩
  case round =>
    obtain ⟨k, hk, rfl, rfl⟩ := hrel
    by_cases hlt : k < n
    · have hlt' : (k : Int) < (n : Int) := by omega
      obtain ⟨b, o, rfl, hb, hI⟩ := HR.out (by omega)
      have h0 := hI k (by omega)
      have x0 := HX.out k hlt
      have hbd := sumN_bd (X := X) (n := k) fun j hj => HX.out j (by omega)
      have hs : IntKind.i64.wrap (sumN X k + X k) = sumN X k + X k := by rw [IntKind.wrap_i64]; omega
      have HS := Lib.hid (show sumN X (k + 1) = sumN X k + X k from rfl)
      clear hI hbd x0
      go_wp2
      go_round
      case rel => exact ⟨k + 1, by omega, by go_num, by rw [HS.out]⟩
      case measure => simp [intOf]; omega
    · obtain rfl : k = n := by omega
      go_wp2
      go_ret
      exact ⟨rfl, rfl⟩

set_option maxHeartbeats 1000000 in
theorem sum_i (A : Option Addr) (n c : Nat) (X : Nat → Int) (w : World) (hn : n ≤ 12) (hX : ∀ k, k < n → 1 ≤ X k ∧ X k ≤ 12) (hr : Sl w A n 1 X) :
    Calls Tryd.prog 52 #[.slice A n c] w fun e w' => e = .returned (.int .i64 (sumN X n)) ∧ w = w' := by
  have HR := Lib.hid hr
  have HX := Lib.hid hX
  clear hr hX
  go_enter Tryd.func52, Tryd.ntmps52
  go_wp2_with fail
  go_loop [3, 8] (fun t s => ∃ k : Nat, k ≤ n ∧ s = .int .i64 k ∧ t = .int .i64 (sumN X k)) (fun _ s => n - (intOf s).toNat)
  case atStart => exact ⟨0, by omega, rfl, rfl⟩
  case round =>
    obtain ⟨k, hk, rfl, rfl⟩ := hrel
    by_cases hlt : k < n
    · have hlt' : (k : Int) < (n : Int) := by omega
      obtain ⟨b, o, rfl, hb, hI⟩ := HR.out (by omega)
      have h0 := hI k (by omega)
      have x0 := HX.out k hlt
      have hbd := sumN_bd (X := X) (n := k) fun j hj => HX.out j (by omega)
      have hs : IntKind.i64.wrap (sumN X k + X k) = sumN X k + X k := by rw [IntKind.wrap_i64]; omega
      have HS := Lib.hid (show sumN X (k + 1) = sumN X k + X k from rfl)
      clear hI hbd x0
      go_wp2
      go_round
      case rel => exact ⟨k + 1, by omega, by go_num, by rw [HS.out]⟩
      case measure => simp [intOf]; omega
    · obtain rfl : k = n := by omega
      go_wp2
      go_ret
      exact ⟨rfl, rfl⟩

set_option maxHeartbeats 1000000 in
theorem width_i (A : Option Addr) (n c : Nat) (X : Nat → Int) (st : Int) (w : World) (hn : n ≤ 12) (hX : ∀ k, k < n → 1 ≤ X k ∧ X k ≤ 12) (hr : Sl w A n 1 X) :
    Calls Tryd.prog 38 #[.agg #[.slice A n c, .int .i64 st]] w fun e w' => e = .returned (.int .i64 (sumN X n)) ∧ Below w.heap.size w w' := by
  have HR := Lib.hid hr
  clear hr
  go_enter Tryd.func38, Tryd.ntmps38
  go_wp2_with fail
  refine (sum_i A n c X _ hn hX (HR.out.below (K := w.heap.size) (by go_grown) (Nat.le_refl _))).mono ?_
  rintro e w' ⟨rfl, rfl⟩
  go_wp2
  go_ret
  exact ⟨rfl, by go_grown⟩

set_option maxHeartbeats 1000000 in
theorem width_s (A : Option Addr) (n c b : Nat) (X : Nat → Int) (w : World) (hn : n ≤ 12) (hX : ∀ k, k < n → 1 ≤ X k ∧ X k ≤ 12) (hr : Sl w A n 1 X) (c0 : w.cell? ⟨b, 0, none⟩ = some (.slice A n c)) :
    Calls Tryd.prog 35 #[.pointer (some ⟨b, 0, none⟩)] w fun e w' => e = .returned (.int .i64 (sumN X n)) ∧ w = w' := by
  have HR := Lib.hid hr
  clear hr
  go_enter Tryd.func35, Tryd.ntmps35
  go_wp2_with fail
  refine (sum_s A n c X _ hn hX HR.out).mono ?_
  rintro e w' ⟨rfl, rfl⟩
  go_wp2
  go_ret
  exact ⟨rfl, rfl⟩

end Go.Proofs.YtakcgeafcecimaaDoor.twl
