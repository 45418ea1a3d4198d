/-
  Contracts on shapes: validity, bounds, numbers of stakes. No condition of a statement lies here.
-/
import Derived.Test.YtldeeilgmogjjaaOpen
import Derived.Test.YtldeeilgmogjjaaNums
import Derived.Test.YtldeeilgmogjjaaIn
namespace Go.Proofs.Ytldeeilgmogjjaa.shp
open Go.ChangeShapes Go.WideShapes Go.ChangeAt Go.RowKit Go.Proofs.Ytldeeilgmogjjaa.mem Go.Proofs.Ytldeeilgmogjjaa.rod Go.Proofs.Ytldeeilgmogjjaa.nums
set_option linter.unusedVariables false
set_option maxRecDepth 100000

theorem _root_.Go.Proofs.Ytldeeilgmogjjaa.mem.Drew.below {w wr : World} (h : Drew w wr) : Below w.heap.size w wr := by obtain ⟨m, rfl⟩ := h; exact drewN_below (Below.refl _ _) m
/-- the first n numbers are within bounds -/
def allIn (l h : Int) (X : Nat → Int) : Nat → Bool
  | 0 => true
  | n + 1 => allIn l h X n && inB (X n) l h
theorem allIn_no {l h : Int} {X : Nat → Int} {k : Nat} : ∀ {n : Nat}, k < n → inB (X k) l h = false → allIn l h X n = false
  | 0, hk, _ => absurd hk (by omega)
  | n + 1, hk, hv => by
    unfold allIn
    by_cases e : k = n
    · subst e; rw [hv, Bool.and_false]
    · rw [allIn_no (by omega) hv, Bool.false_and]
theorem allIn_at {l h : Int} {X : Nat → Int} {k : Nat} : ∀ {n : Nat}, allIn l h X n = true → k < n → l ≤ X k ∧ X k ≤ h
  | 0, _, hk => absurd hk (by omega)
  | n + 1, hv, hk => by
    unfold allIn at hv
    rw [Bool.and_eq_true] at hv
    by_cases e : k = n
    · subst e; exact inB_of hv.2
    · exact allIn_at hv.1 (by omega)
theorem allIn_of {l h : Int} {X : Nat → Int} : ∀ {n : Nat}, (∀ k, k < n → l ≤ X k ∧ X k ≤ h) → allIn l h X n = true
  | 0, _ => rfl
  | n + 1, hv => by
    unfold allIn
    rw [allIn_of (fun k hk => hv k (by omega)), inB_yes (hv n (by omega)).1 (hv n (by omega)).2]; rfl
/-- these are levels of a shape -/
def shpB (n : Nat) (X : Nat → Int) : Bool := decide (0 < n) && (decide (n ≤ 12) && allIn 1 5000 X n)
theorem shpB_of {n : Nat} {X : Nat → Int} (h : shpB n X = true) : 0 < n ∧ n ≤ 12 ∧ ∀ k, k < n → 1 ≤ X k ∧ X k ≤ 5000 := by
  unfold shpB at h
  simp only [Bool.and_eq_true, decide_eq_true_eq] at h
  exact ⟨h.1, h.2.1, fun k hk => allIn_at h.2.2 hk⟩
theorem shpB_yes {n : Nat} {X : Nat → Int} (h0 : 0 < n) (h1 : n ≤ 12) (h : allIn 1 5000 X n = true) : shpB n X = true := by unfold shpB; simp [h0, h1, h]
theorem shpB_no {n : Nat} {X : Nat → Int} (h : allIn 1 5000 X n = false) : shpB n X = false := by unfold shpB; simp [h]
theorem shpB_len {n : Nat} {X : Nat → Int} (h : ¬ (0 < n ∧ n ≤ 12)) : shpB n X = false := by
  unfold shpB
  by_cases a : 0 < n
  · simp [a, show ¬ n ≤ 12 by omega]
  · simp [a]

theorem around_i (x : Int) (w : World) :
    Calls Try.prog 28 #[.int .i64 x] w fun e w' => e = .returned (.bool (inB x 1 5000)) ∧ w = w' := by
  go_enter Try.func28, Try.ntmps28
  go_wp2_with (go_at_call 37; refine (in_i _ _ _ _).mono ?_; rintro e w' ⟨rfl, rfl⟩)
  go_ret
  exact ⟨rfl, rfl⟩

set_option maxHeartbeats 1000000 in
theorem are_around (A : Option Addr) (n c : Nat) (X : Nat → Int) (w : World) (hn : n ≤ maxLen) (hr : Sl w A n 1 X) :
    Calls Try.prog 27 #[.slice A n c, .int .i64 12, .func (.func 28) #[] #[]] w fun e w' => e = .returned (.bool (decide (n ≤ 12) && allIn 1 5000 X n)) ∧ w = w' := by
  unfold maxLen at hn
  have HR := Lib.hid hr
  clear hr
  by_cases hbig : 12 < n
  · rw [show (decide (n ≤ 12) && allIn 1 5000 X n) = false by rw [decide_eq_false (by omega)]; rfl]
    have hbig' : (12 : Int) < (n : Int) := by omega
    go_enter Try.func27, Try.ntmps27
    go_wp2
    go_ret
    exact ⟨rfl, rfl⟩
  have hbig' : ¬ (12 : Int) < (n : Int) := by omega
  rw [show (decide (n ≤ 12) && allIn 1 5000 X n) = allIn 1 5000 X n by rw [decide_eq_true (by omega)]; rfl]
  clear hbig
  go_enter Try.func27, Try.ntmps27
  go_wp2_with fail
  go_loop [15] (fun s => ∃ k : Nat, k ≤ n ∧ s = .int .i64 k ∧ Hid (allIn 1 5000 X k = true)) (fun s => n - (intOf s).toNat)
  case atStart => exact ⟨0, by omega, rfl, rfl⟩
  case round =>
    obtain ⟨k, hk, rfl, HA⟩ := hrel
    by_cases hlt : k < n
    · have hlt' : (k : Int) < (n : Int) := by omega
      obtain ⟨b, o, rfl, hb, hX⟩ := HR.out (by omega)
      have h0 := hX k (by omega)
      clear hX
      cases hv : inB (X k) 1 5000
      · have HF := Lib.hid (allIn_no hlt hv)
        go_wp2_with (go_at_call 28; refine (around_i _ _).mono ?_; rintro e w' ⟨rfl, rfl⟩)
        go_ret
        exact ⟨by rw [HF.out]; rfl, rfl⟩
      · have HV := Lib.hid hv
        go_wp2_with (go_at_call 28; refine (around_i _ _).mono ?_; rintro e w' ⟨rfl, rfl⟩)
        go_round
        case rel => exact ⟨k + 1, by omega, by go_num, by simp only [Hid, allIn, HA.out, HV.out, Bool.and_self]⟩
        case measure => simp [intOf]; omega
    · obtain rfl : k = n := by omega
      go_wp2
      go_ret
      exact ⟨by rw [HA.out]; rfl, rfl⟩

set_option maxHeartbeats 1000000 in
theorem ok_i (A : Option Addr) (n c : Nat) (X : Nat → Int) (w : World) (hn : n ≤ maxLen) (hr : Sl w A n 1 X) :
    Calls Try.prog 15 #[.slice A n c] w fun e w' => e = .returned (.bool (shpB n X)) ∧ w = w' := by
  have HR := Lib.hid hr
  clear hr
  by_cases h0 : 0 < n
  · have h0' : (0 : Int) < (n : Int) := by omega
    rw [show shpB n X = (decide (n ≤ 12) && allIn 1 5000 X n) by unfold shpB; rw [decide_eq_true h0]; rfl]
    go_enter Try.func15, Try.ntmps15
    go_wp2_with (go_at_call 27; refine (are_around A n c X _ hn HR.out).mono ?_; rintro e w' ⟨rfl, rfl⟩)
    go_ret
    exact ⟨rfl, rfl⟩
  · rw [shpB_len (by omega)]
    have h0' : ¬ (0 : Int) < (n : Int) := by omega
    go_enter Try.func15, Try.ntmps15
    go_wp2
    go_ret
    exact ⟨rfl, rfl⟩
theorem valid_i (A : Option Addr) (n c : Nat) (X : Nat → Int) (w : World) (hn : n ≤ maxLen) (hr : Sl w A n 1 X) :
    Calls Try.prog 15 #[.slice A n c] w fun e w' => e = .returned (.bool (shpB n X)) ∧ Below w.heap.size w w' :=
  (ok_i A n c X w hn hr).mono fun _ _ ⟨p, q⟩ => ⟨p, q ▸ Below.refl _ _⟩

theorem stakes_s (x : Int) (w : World) :
    Calls Try.prog 23 #[.int .i64 x] w fun e w' => e = .returned (.bool (inB x 3 60)) ∧ w = w' := by
  go_enter Try.func23, Try.ntmps23
  go_wp2_with (go_at_call 35; refine (in_s _ _ _ _).mono ?_; rintro e w' ⟨rfl, rfl⟩)
  go_ret
  exact ⟨rfl, rfl⟩

/-- these tell how far stakes may be apart -/
def aptB (l h : Int) : Bool := inB l 1 200 && inB h l 200
theorem aptB_of {l h : Int} (e : aptB l h = true) : 1 ≤ l ∧ l ≤ h ∧ h ≤ 200 := by
  unfold aptB at e
  rw [Bool.and_eq_true] at e
  have h1 := inB_of e.1
  have h2 := inB_of e.2
  omega
theorem apart_i (l h : Int) (w : World) :
    Calls Try.prog 29 #[.int .i64 l, .int .i64 h] w fun e w' => e = .returned (.bool (aptB l h)) ∧ w = w' := by
  unfold aptB
  cases k0 : inB l 1 200
  all_goals
    go_enter Try.func29, Try.ntmps29
    go_wp2_with (go_at_call 37; refine (in_i _ _ _ _).mono ?_; rintro e w' ⟨rfl, rfl⟩)
    go_ret
    exact ⟨rfl, rfl⟩

end Go.Proofs.Ytldeeilgmogjjaa.shp
