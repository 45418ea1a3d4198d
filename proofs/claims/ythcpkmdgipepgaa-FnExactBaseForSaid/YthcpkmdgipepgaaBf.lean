/-
  Contracts of BaseFor, of the model and of the program. No condition of a statement lies here.
-/
import Derived.Test.YthcpkmdgipepgaaIn
namespace Go.Proofs.Ythcpkmdgipepgaa.ba
open Go.ChangeShapes Go.WideShapes Go.ChangeAt Go.RowKit Go.Proofs.Ythcpkmdgipepgaa.mem Go.Proofs.Ythcpkmdgipepgaa.rod
set_option linter.unusedVariables false

set_option maxHeartbeats 1000000 in
theorem bf_s_far (t : Int) (h : inB t 3 100 = false) (w : World) :
    Calls Try.prog 29 #[.int .i64 t] w fun e w' => e = .returned (.tuple #[.int .i64 0, .int .i64 0, .int .i64 0, .int .i64 2]) ∧ Below w.heap.size w w' := by
  go_enter Try.func29, Try.ntmps29
  go_wp2_with (go_at_call 44; refine (in_s _ _ _ _).mono ?_; rintro e w' ⟨rfl, rfl⟩)
  exact bodyPost_ret (v := .tuple #[.int .i64 0, .int .i64 0, .int .i64 0, .int .i64 2]) (by simp [results, Try.results29, go_sem]) rfl ⟨rfl, Below.refl _ _⟩

set_option maxHeartbeats 1000000 in
theorem bf_s_none (t : Int) (h : inB t 3 100 = true) (HN : Hid (∀ j, 2 ≤ j → j ≤ 24 → inB (4 * j - t) 0 4 = false)) (w : World) :
    Calls Try.prog 29 #[.int .i64 t] w fun e w' => e = .returned (.tuple #[.int .i64 0, .int .i64 0, .int .i64 0, .int .i64 3]) ∧ Below w.heap.size w w' := by
  obtain ⟨t1, t2⟩ := inB_of h
  go_enter Try.func29, Try.ntmps29
  go_wp2_with (go_at_call 44; refine (in_s _ _ _ _).mono ?_; rintro e w' ⟨rfl, rfl⟩)
  clear h
  go_loopw [6] (fun s wr => ∃ g : Int, 2 ≤ g ∧ g ≤ 25 ∧ s = .int .i64 g ∧ wr = w) (fun s _ => (30 - intOf s).toNat)
  case atStart => exact ⟨2, by omega, by omega, rfl, rfl⟩
  case round =>
    obtain ⟨g, g1, g2, rfl, rfl⟩ := hrel
    by_cases hg : g ≤ 24
    · have e1 : IntKind.i64.wrap (4 * g) = 4 * g := by rw [IntKind.wrap_i64]; omega
      have e2 : IntKind.i64.wrap (4 * g - t) = 4 * g - t := by rw [IntKind.wrap_i64]; omega
      have e3 : IntKind.i64.wrap (g + 1) = g + 1 := by rw [IntKind.wrap_i64]; omega
      have hi : inB (4 * g - t) 0 4 = false := HN.out g g1 hg
      go_wp2_with (go_at_call 44; refine (in_s _ _ _ _).mono ?_; rintro e w' ⟨rfl, rfl⟩)
      go_roundw
      case rel => exact ⟨g + 1, by omega, by omega, rfl, by first | trivial | rfl⟩
      case measure => simp [intOf]; omega
    · go_wp2
      exact bodyPost_ret (v := .tuple #[.int .i64 0, .int .i64 0, .int .i64 0, .int .i64 3]) (by simp [results, Try.results29, go_sem]) rfl ⟨rfl, Below.refl _ _⟩

set_option maxHeartbeats 1000000 in
theorem bf_s_yes (t : Int) (k : Int) (h : inB t 3 100 = true) (k1 : 2 ≤ k) (k2 : k ≤ 24) (HN : Hid (∀ j, 2 ≤ j → j < k → inB (4 * j - t) 0 4 = false)) (HK : Hid (inB (4 * k - t) 0 4 = true)) (w : World) :
    Calls Try.prog 29 #[.int .i64 t] w fun e w' => e = .returned (.tuple #[.int .i64 ((k + 1) / 2), .int .i64 (k / 2), .int .i64 (4 * k - t), .int .i64 0]) ∧ Below w.heap.size w w' := by
  obtain ⟨t1, t2⟩ := inB_of h
  go_enter Try.func29, Try.ntmps29
  go_wp2_with (go_at_call 44; refine (in_s _ _ _ _).mono ?_; rintro e w' ⟨rfl, rfl⟩)
  clear h
  go_loopw [6] (fun s wr => ∃ g : Int, 2 ≤ g ∧ g ≤ k ∧ s = .int .i64 g ∧ wr = w) (fun s _ => (30 - intOf s).toNat)
  case atStart => exact ⟨2, by omega, by omega, rfl, rfl⟩
  case round =>
    obtain ⟨g, g1, g2, rfl, rfl⟩ := hrel
    by_cases hg : g < k
    · have e1 : IntKind.i64.wrap (4 * g) = 4 * g := by rw [IntKind.wrap_i64]; omega
      have e2 : IntKind.i64.wrap (4 * g - t) = 4 * g - t := by rw [IntKind.wrap_i64]; omega
      have e3 : IntKind.i64.wrap (g + 1) = g + 1 := by rw [IntKind.wrap_i64]; omega
      have hi : inB (4 * g - t) 0 4 = false := HN.out g g1 hg
      go_wp2_with (go_at_call 44; refine (in_s _ _ _ _).mono ?_; rintro e w' ⟨rfl, rfl⟩)
      go_roundw
      case rel => exact ⟨g + 1, by omega, by omega, rfl, by first | trivial | rfl⟩
      case measure => simp [intOf]; omega
    · obtain rfl : g = k := by omega
      have e1 : IntKind.i64.wrap (4 * g) = 4 * g := by rw [IntKind.wrap_i64]; omega
      have e2 : IntKind.i64.wrap (4 * g - t) = 4 * g - t := by rw [IntKind.wrap_i64]; omega
      have e3 : IntKind.i64.wrap (g + 1) = g + 1 := by rw [IntKind.wrap_i64]; omega
      have e4 : (g + 1).tdiv 2 = (g + 1) / 2 := by rw [Int.tdiv_eq_ediv_of_nonneg (by omega)]
      have e5 : g.tdiv 2 = g / 2 := by rw [Int.tdiv_eq_ediv_of_nonneg (by omega)]
      have e6 : IntKind.i64.wrap ((g + 1) / 2) = (g + 1) / 2 := by rw [IntKind.wrap_i64]; omega
      have e7 : IntKind.i64.wrap (g / 2) = g / 2 := by rw [IntKind.wrap_i64]; omega
      have hi : inB (4 * g - t) 0 4 = true := HK.out
      go_wp2_with (go_at_call 44; refine (in_s _ _ _ _).mono ?_; rintro e w' ⟨rfl, rfl⟩)
      exact bodyPost_ret (v := .tuple #[.int .i64 ((g + 1) / 2), .int .i64 (g / 2), .int .i64 (4 * g - t), .int .i64 0]) (by simp [results, Try.results29, go_sem]) rfl ⟨rfl, Below.refl _ _⟩

set_option maxHeartbeats 1000000 in
theorem bf_i_far (t : Int) (h : inB t 3 100 = false) (w : World) :
    Calls Try.prog 30 #[.int .i64 t] w fun e w' => e = .returned (.tuple #[.int .i64 0, .int .i64 0, .int .i64 0, .int .i64 2]) ∧ Below w.heap.size w w' := by
  go_enter Try.func30, Try.ntmps30
  go_wp2_with (go_at_call 41; refine (in_i _ _ _ _).mono ?_; rintro e w' ⟨rfl, rfl⟩)
  exact bodyPost_ret (v := .tuple #[.int .i64 0, .int .i64 0, .int .i64 0, .int .i64 2]) (by simp [results, Try.results30, go_sem]) rfl ⟨rfl, Below.refl _ _⟩

set_option maxHeartbeats 1000000 in
theorem bf_i_none (t : Int) (h : inB t 3 100 = true) (HN : Hid (∀ j, 2 ≤ j → j ≤ 24 → inB (4 * j - t) 0 4 = false)) (w : World) :
    Calls Try.prog 30 #[.int .i64 t] w fun e w' => e = .returned (.tuple #[.int .i64 0, .int .i64 0, .int .i64 0, .int .i64 3]) ∧ Below w.heap.size w w' := by
  obtain ⟨t1, t2⟩ := inB_of h
  go_enter Try.func30, Try.ntmps30
  go_wp2_with (go_at_call 41; refine (in_i _ _ _ _).mono ?_; rintro e w' ⟨rfl, rfl⟩)
  clear h
  go_loopw [6] (fun s wr => ∃ g : Int, 2 ≤ g ∧ g ≤ 25 ∧ s = .int .i64 g ∧ wr = w) (fun s _ => (30 - intOf s).toNat)
  case atStart => exact ⟨2, by omega, by omega, rfl, rfl⟩
  case round =>
    obtain ⟨g, g1, g2, rfl, rfl⟩ := hrel
    by_cases hg : g ≤ 24
    · have e1 : IntKind.i64.wrap (4 * g) = 4 * g := by rw [IntKind.wrap_i64]; omega
      have e2 : IntKind.i64.wrap (4 * g - t) = 4 * g - t := by rw [IntKind.wrap_i64]; omega
      have e3 : IntKind.i64.wrap (g + 1) = g + 1 := by rw [IntKind.wrap_i64]; omega
      have hi : inB (4 * g - t) 0 4 = false := HN.out g g1 hg
      go_wp2_with (go_at_call 41; refine (in_i _ _ _ _).mono ?_; rintro e w' ⟨rfl, rfl⟩)
      go_roundw
      case rel => exact ⟨g + 1, by omega, by omega, rfl, by first | trivial | rfl⟩
      case measure => simp [intOf]; omega
    · go_wp2
      exact bodyPost_ret (v := .tuple #[.int .i64 0, .int .i64 0, .int .i64 0, .int .i64 3]) (by simp [results, Try.results30, go_sem]) rfl ⟨rfl, Below.refl _ _⟩

set_option maxHeartbeats 1000000 in
theorem bf_i_yes (t : Int) (k : Int) (h : inB t 3 100 = true) (k1 : 2 ≤ k) (k2 : k ≤ 24) (HN : Hid (∀ j, 2 ≤ j → j < k → inB (4 * j - t) 0 4 = false)) (HK : Hid (inB (4 * k - t) 0 4 = true)) (w : World) :
    Calls Try.prog 30 #[.int .i64 t] w fun e w' => e = .returned (.tuple #[.int .i64 ((k + 1) / 2), .int .i64 (k / 2), .int .i64 (4 * k - t), .int .i64 0]) ∧ Below w.heap.size w w' := by
  obtain ⟨t1, t2⟩ := inB_of h
  go_enter Try.func30, Try.ntmps30
  go_wp2_with (go_at_call 41; refine (in_i _ _ _ _).mono ?_; rintro e w' ⟨rfl, rfl⟩)
  clear h
  go_loopw [6] (fun s wr => ∃ g : Int, 2 ≤ g ∧ g ≤ k ∧ s = .int .i64 g ∧ wr = w) (fun s _ => (30 - intOf s).toNat)
  case atStart => exact ⟨2, by omega, by omega, rfl, rfl⟩
  case round =>
    obtain ⟨g, g1, g2, rfl, rfl⟩ := hrel
    by_cases hg : g < k
    · have e1 : IntKind.i64.wrap (4 * g) = 4 * g := by rw [IntKind.wrap_i64]; omega
      have e2 : IntKind.i64.wrap (4 * g - t) = 4 * g - t := by rw [IntKind.wrap_i64]; omega
      have e3 : IntKind.i64.wrap (g + 1) = g + 1 := by rw [IntKind.wrap_i64]; omega
      have hi : inB (4 * g - t) 0 4 = false := HN.out g g1 hg
      go_wp2_with (go_at_call 41; refine (in_i _ _ _ _).mono ?_; rintro e w' ⟨rfl, rfl⟩)
      go_roundw
      case rel => exact ⟨g + 1, by omega, by omega, rfl, by first | trivial | rfl⟩
      case measure => simp [intOf]; omega
    · obtain rfl : g = k := by omega
      have e1 : IntKind.i64.wrap (4 * g) = 4 * g := by rw [IntKind.wrap_i64]; omega
      have e2 : IntKind.i64.wrap (4 * g - t) = 4 * g - t := by rw [IntKind.wrap_i64]; omega
      have e3 : IntKind.i64.wrap (g + 1) = g + 1 := by rw [IntKind.wrap_i64]; omega
      have e4 : (g + 1).tdiv 2 = (g + 1) / 2 := by rw [Int.tdiv_eq_ediv_of_nonneg (by omega)]
      have e5 : g.tdiv 2 = g / 2 := by rw [Int.tdiv_eq_ediv_of_nonneg (by omega)]
      have e6 : IntKind.i64.wrap ((g + 1) / 2) = (g + 1) / 2 := by rw [IntKind.wrap_i64]; omega
      have e7 : IntKind.i64.wrap (g / 2) = g / 2 := by rw [IntKind.wrap_i64]; omega
      have hi : inB (4 * g - t) 0 4 = true := HK.out
      go_wp2_with (go_at_call 41; refine (in_i _ _ _ _).mono ?_; rintro e w' ⟨rfl, rfl⟩)
      exact bodyPost_ret (v := .tuple #[.int .i64 ((g + 1) / 2), .int .i64 (g / 2), .int .i64 (4 * g - t), .int .i64 0]) (by simp [results, Try.results30, go_sem]) rfl ⟨rfl, Below.refl _ _⟩

theorem first_ex (t : Int) : (∀ j : Int, 2 ≤ j → j ≤ 24 → inB (4 * j - t) 0 4 = false) ∨ ∃ k : Int, 2 ≤ k ∧ k ≤ 24 ∧ (∀ j : Int, 2 ≤ j → j < k → inB (4 * j - t) 0 4 = false) ∧ inB (4 * k - t) 0 4 = true := by
  have key : ∀ n : Nat, n ≤ 23 → (∀ j : Int, 2 ≤ j → j < 2 + n → inB (4 * j - t) 0 4 = false) ∨ ∃ k : Int, 2 ≤ k ∧ k ≤ 24 ∧ (∀ j : Int, 2 ≤ j → j < k → inB (4 * j - t) 0 4 = false) ∧ inB (4 * k - t) 0 4 = true := by
    intro n
    induction n with
    | zero => exact fun _ => .inl fun j h1 h2 => absurd h2 (by omega)
    | succ n ih =>
      intro hn
      rcases ih (by omega) with h | h
      · cases hb : inB (4 * (2 + n : Int) - t) 0 4
        · refine .inl fun j h1 h2 => ?_
          by_cases e : j = 2 + n
          · rw [e]; exact hb
          · exact h j h1 (by omega)
        · exact .inr ⟨2 + n, by omega, by omega, fun j h1 h2 => h j h1 (by omega), hb⟩
      · exact .inr h
  rcases key 23 (by omega) with h | h
  · exact .inl fun j h1 h2 => h j h1 (by omega)
  · exact .inr h

end Go.Proofs.Ythcpkmdgipepgaa.ba
