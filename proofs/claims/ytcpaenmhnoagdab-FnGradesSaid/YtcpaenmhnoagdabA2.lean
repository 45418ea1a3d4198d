/-
  The laws' own helpers on lists of numbers: the sum, has it a number, does it rise, are two equal; how much two rods differ.
-/
import Derived.Test.YtcpaenmhnoagdabGrM
import Derived.BigQuiet
import Derived.Lib.MinMax
import Derived.Test.YtcpaenmhnoagdabGradeOf
namespace Go.Proofs.Ytcpaenmhnoagdab.rod
open Go.ChangeShapes Go.WideShapes Go.ChangeAt Go.RowKit Go.Proofs.Ytcpaenmhnoagdab.mem Go.Proofs.Ytcpaenmhnoagdab.nums
set_option linter.unusedVariables false

theorem sumI_bd {X : Nat → Int} {n : Nat} (h : ∀ i, i < n → 0 ≤ X i ∧ X i ≤ 1000) : ∀ k, k ≤ n → 0 ≤ sumI X k ∧ sumI X k ≤ 1000 * k
  | 0, _ => by simp [sumI]
  | k + 1, hk => by
    have ih := sumI_bd h k (by omega)
    have := h k (by omega)
    have e : sumI X (k + 1) = sumI X k + X k := rfl
    omega

set_option maxHeartbeats 2000000 in
theorem a2Sum_c (A : Option Addr) (n c : Nat) (X : Nat → Int) (w : World) (hn : n ≤ 100) (hr : Sl w A n 1 X) (hb : ∀ i, i < n → 0 ≤ X i ∧ X i ≤ 1000) :
    Calls Try.prog 36 #[.slice A n c] w fun e w' => e = .returned (.int .i64 (sumI X n)) ∧ w' = w := by
  have HR := Lib.hid hr
  have HB := Lib.hid hb
  clear hr hb
  go_enter Try.func36, Try.ntmps36
  go_wp2_with fail
  go_loopw [4, 3] (fun s t wr => ∃ k : Nat, k ≤ n ∧ s = .int .i64 k ∧ t = .int .i64 (sumI X k) ∧ wr = w) (fun s _ _ => n - (intOf s).toNat)
  case atStart => exact ⟨0, by omega, rfl, rfl, rfl⟩
  case round =>
    obtain ⟨k, hk, rfl, rfl, rfl⟩ := hrel
    by_cases hlt : k < n
    · have hlt' : (k : Int) < (n : Int) := by omega
      have hk0 : (0 : Int) ≤ (k : Int) := by omega
      have hs := sumI_bd HB.out k hk
      have hx := HB.out k hlt
      obtain ⟨b, o, rfl, hb, hX⟩ := HR.out (by omega)
      have p0 := hX k (by omega)
      have HN := Lib.hid (show sumI X (k + 1) = sumI X k + X k from rfl)
      clear hX
      generalize sumI X k = S at *
      go_wp2
      go_roundw
      case rel => exact ⟨k + 1, by omega, by go_num, by rw [HN.out], by simp⟩
      case measure => simp [intOf]; omega
    · obtain rfl : k = n := by omega
      go_wp2
      go_ret
      exact ⟨rfl, rfl⟩

set_option maxHeartbeats 2000000 in
theorem a2Has_c (A : Option Addr) (n c : Nat) (X : Nat → Int) (x : Int) (r : Bool) (w : World) (hn : n ≤ 100) (hr : Sl w A n 1 X) (hb : r = true ↔ ∃ i, i < n ∧ X i = x) :
    Calls Try.prog 39 #[.slice A n c, .int .i64 x] w fun e w' => e = .returned (.bool r) ∧ w' = w := by
  have HR := Lib.hid hr
  have HB := Lib.hid hb
  clear hr hb
  go_enter Try.func39, Try.ntmps39
  go_wp2_with fail
  go_loopw [5] (fun s wr => ∃ k : Nat, k ≤ n ∧ s = .int .i64 k ∧ (∀ i, i < k → X i ≠ x) ∧ wr = w) (fun s _ => n - (intOf s).toNat)
  case atStart => exact ⟨0, by omega, rfl, fun i hi => absurd hi (by omega), rfl⟩
  case round =>
    obtain ⟨k, hk, rfl, hne, rfl⟩ := hrel
    have HN := Lib.hid hne
    clear hne
    by_cases hlt : k < n
    · have hlt' : (k : Int) < (n : Int) := by omega
      have hk0 : (0 : Int) ≤ (k : Int) := by omega
      obtain ⟨b, o, rfl, hb, hX⟩ := HR.out (by omega)
      have p0 := hX k (by omega)
      clear hX
      by_cases hx : X k = x
      · obtain rfl : r = true := HB.out.2 ⟨k, hlt, hx⟩
        rw [hx] at p0
        clear hx
        go_wp2
        go_ret
        exact ⟨rfl, rfl⟩
      · have hx2 : (X k == x) = false := by simpa using hx
        have HN2 := Lib.hid (show ∀ i, i < k + 1 → X i ≠ x from fun i hi => by
          by_cases e : i = k
          · subst e; exact hx
          · exact HN.out i (by omega))
        clear hx
        go_wp2
        go_roundw
        case rel => exact ⟨k + 1, by omega, by go_num, HN2.out, by simp⟩
        case measure => simp [intOf]; omega
    · obtain rfl : k = n := by omega
      obtain rfl : r = false := by
        cases r
        · rfl
        · obtain ⟨i, hi, e⟩ := HB.out.1 rfl
          exact absurd e (HN.out i hi)
      go_wp2
      go_ret
      exact ⟨rfl, rfl⟩

set_option maxHeartbeats 4000000 in
theorem a2Rises_c (A : Option Addr) (n c : Nat) (X : Nat → Int) (x : Int) (w : World) (hn : n ≤ 100) (hr : Sl w A n 1 X) (hb : ∀ i, i < n → 0 ≤ X i ∧ X i < x) (hs : ∀ i, i + 1 < n → X i < X (i + 1)) :
    Calls Try.prog 37 #[.slice A n c, .int .i64 x] w fun e w' => e = .returned (.bool true) ∧ ∃ m, w' = w.drewN m := by
  have HR := Lib.hid hr
  have HB := Lib.hid hb
  have HS := Lib.hid hs
  clear hr hb hs
  go_enter Try.func37, Try.ntmps37
  go_wp2_with fail
  go_loopw [5] (fun s wr => ∃ k : Nat, k ≤ n ∧ s = .int .i64 k ∧ Drew w wr) (fun s _ => n - (intOf s).toNat)
  case atStart => exact ⟨0, by omega, rfl, Drew.refl _⟩
  case round =>
    obtain ⟨k, hk, rfl, hd⟩ := hrel
    have HD := Lib.hid hd
    clear hd
    by_cases hlt : k < n
    · have hlt' : (k : Int) < (n : Int) := by omega
      have hk0 : (0 : Int) ≤ (k : Int) := by omega
      have hx0 : decide (X k < 0) = false := decide_eq_false (by have := HB.out k hlt; omega)
      have hx1 : decide (x ≤ X k) = false := decide_eq_false (by have := HB.out k hlt; omega)
      obtain ⟨b, o, rfl, hb, hX⟩ := (HD.out.sl HR.out) (by omega)
      have p0 := hX k (by omega)
      by_cases h1 : k = 0
      · have hk1 : decide (0 < k) = false := decide_eq_false (by omega)
        clear hX h1
        go_wp2_with fail
        go_quiet (fail)
        go_wp2
        go_roundw
        case rel => exact ⟨k + 1, by omega, by go_num, HD.out.drewN _⟩
        case measure => simp [intOf]; omega
      · obtain ⟨j, hj⟩ : ∃ j, k = j + 1 := ⟨k - 1, by omega⟩
        have q0 := hX j (by omega)
        have hs := HS.out j (by omega)
        rw [← hj] at hs
        have hs2 : decide (X k ≤ X j) = false := decide_eq_false (by omega)
        have e1 : (k : Int) - 1 = (j : Int) := by omega
        have hj0 : (0 : Int) ≤ (j : Int) := by omega
        have hjl : (j : Int) < (n : Int) := by omega
        have hk1 : decide (0 < k) = true := decide_eq_true (by omega)
        have hwj : IntKind.i64.wrap (j : Int) = j := IntWalk.i64_in _ (by omega)
        clear hj
        clear hX
        go_wp2_with fail
        go_quiet (fail)
        go_wp2
        go_roundw
        case rel => exact ⟨k + 1, by omega, by go_num, HD.out.drewN _⟩
        case measure => simp [intOf]; omega
    · obtain rfl : k = n := by omega
      go_wp2
      go_ret
      exact ⟨rfl, HD.out⟩

set_option maxHeartbeats 2000000 in
theorem a2Same_c (A1 A2 : Option Addr) (n c1 c2 : Nat) (X Y : Nat → Int) (w : World) (hn : n ≤ 100) (h1 : Sl w A1 n 1 X) (h2 : Sl w A2 n 1 Y) (he : ∀ i, i < n → X i = Y i) :
    Calls Try.prog 40 #[.slice A1 n c1, .slice A2 n c2] w fun e w' => e = .returned (.bool true) ∧ ∃ m, w' = w.drewN m := by
  have H1 := Lib.hid h1
  have H2 := Lib.hid h2
  have HE := Lib.hid he
  clear h1 h2 he
  go_enter Try.func40, Try.ntmps40
  go_wp2_with fail
  go_loopw [5] (fun s wr => ∃ k : Nat, k ≤ n ∧ s = .int .i64 k ∧ Drew w wr) (fun s _ => n - (intOf s).toNat)
  case atStart => exact ⟨0, by omega, rfl, Drew.refl _⟩
  case round =>
    obtain ⟨k, hk, rfl, hd⟩ := hrel
    have HD := Lib.hid hd
    clear hd
    by_cases hlt : k < n
    · have hlt' : (k : Int) < (n : Int) := by omega
      have hk0 : (0 : Int) ≤ (k : Int) := by omega
      obtain ⟨b1, o1, rfl, hb1, hX1⟩ := (HD.out.sl H1.out) (by omega)
      obtain ⟨b2, o2, rfl, hb2, hX2⟩ := (HD.out.sl H2.out) (by omega)
      have p0 := hX1 k (by omega)
      have q0 := hX2 k (by omega)
      rw [HE.out k hlt] at p0
      clear hX1 hX2
      go_wp2_with fail
      go_quiet (fail)
      go_wp2
      go_roundw
      case rel => exact ⟨k + 1, by omega, by go_num, HD.out.drewN _⟩
      case measure => simp [intOf]; omega
    · obtain rfl : k = n := by omega
      go_wp2
      go_ret
      exact ⟨rfl, HD.out⟩

theorem dist_max {a b d : Int} (h : dist a b = d) (a0 : 0 ≤ a) (a1 : a ≤ 100000) (b0 : 0 ≤ b) (b1 : b ≤ 100000) : max (a - b) (b - a) = d := by
  rw [← h]
  unfold dist
  split <;> omega
set_option maxHeartbeats 2000000 in
theorem a2Apart_c (L1 B1 T1 L2 B2 T2 : Int) (w : World) (h1 : rodB L1 B1 T1 = true) (h2 : rodB L2 B2 T2 = true) :
    Calls Try.prog 41 #[.agg #[.int .i64 L1, .int .i64 B1, .int .i64 T1], .agg #[.int .i64 L2, .int .i64 B2, .int .i64 T2]] w fun e w' => e = .returned (.int .i64 (ap3 L1 B1 T1 L2 B2 T2)) ∧ Below w.heap.size w w' := by
  obtain ⟨a1, a2, a3, a4, a5, a6⟩ := rodB_of h1
  obtain ⟨c1, c2, c3, c4, c5, c6⟩ := rodB_of h2
  have d1 := dist_bd (a := L1) (b := L2) (m := 3000) (by omega) (by omega) (by omega) (by omega)
  have d2 := dist_bd (a := B1) (b := B2) (m := 3000) (by omega) (by omega) (by omega) (by omega)
  have d3 := dist_bd (a := T1) (b := T2) (m := 3000) (by omega) (by omega) (by omega) (by omega)
  unfold ap3
  obtain ⟨x1, e1⟩ : ∃ d, dist L1 L2 = d := ⟨_, rfl⟩
  obtain ⟨x2, e2⟩ : ∃ d, dist B1 B2 = d := ⟨_, rfl⟩
  obtain ⟨x3, e3⟩ : ∃ d, dist T1 T2 = d := ⟨_, rfl⟩
  have m1 := dist_max e1 (by omega) (by omega) (by omega) (by omega)
  have m2 := dist_max e2 (by omega) (by omega) (by omega) (by omega)
  have m3 := dist_max e3 (by omega) (by omega) (by omega) (by omega)
  rw [e1] at d1 ⊢
  rw [e2] at d2 ⊢
  rw [e3] at d3 ⊢
  clear e1 e2 e3 h1 h2
  go_enter Try.func41, Try.ntmps41
  go_wp2
  go_returns
  exact ⟨rfl, by go_grown⟩

set_option maxHeartbeats 1000000 in
theorem gradeOf_y (L B T : Int) (A : Option Addr) (n c : Nat) (Y : Nat → Int) (hr : rodB L B T = true) (hd : limB n Y = true) (hn : n ≤ maxLen) (w : World) (hs : Sl w A n 1 Y) :
    Calls Try.prog 38 #[.agg #[.int .i64 L, .int .i64 B, .int .i64 T], .slice A n c] w fun e w' => e = .returned (.tuple #[.int .i64 (gr Y L n), .int .i64 0]) ∧ Below w.heap.size w w' := by
  have hg := gr_bd Y L n
  have HS := Lib.hid hs
  clear hs
  go_enter Try.func38, Try.ntmps38
  go_wp2_with fail
  refine (rod_i L B T _).mono ?_
  rintro e w1 ⟨rfl, hb⟩
  have p0 : w1.cell? ⟨w.heap.size, 0, none⟩ = some (.int .i64 L) := by rw [(bcell hb).1 _ _ (by simp <;> omega)]; go_simp
  have p1 : w1.cell? ⟨w.heap.size, 1, none⟩ = some (.int .i64 B) := by rw [(bcell hb).1 _ _ (by simp <;> omega)]; go_simp
  have p2 : w1.cell? ⟨w.heap.size, 2, none⟩ = some (.int .i64 T) := by rw [(bcell hb).1 _ _ (by simp <;> omega)]; go_simp
  have b1 : Below w.heap.size w w1 := Below.trans (by go_grown) (hb.mono (by simp <;> omega))
  have z1 := b1.size
  clear hb
  go_wp2_with (first
    | (go_at_call 78; refine (limits_i A n c Y _ hn (Sl.below HS.out b1 (Nat.le_refl _))).mono ?_; rintro e w' ⟨rfl, rfl⟩)
    | (go_at_call 79; refine (grade_i L B T A n c Y _ hn (Sl.below HS.out b1 (Nat.le_refl _))).mono ?_; rintro e w2 ⟨rfl, hb2⟩))
  go_returns
  exact ⟨rfl, b1.trans (hb2.mono z1)⟩
theorem rods_all {Y : Nat → Int} {n : Nat} (h : ∀ i, i < n → rodB (Y (i * 3)) (Y (i * 3 + 1)) (Y (i * 3 + 2)) = true) : allB Y n = true := by
  induction n with
  | zero => rfl
  | succ n ih =>
    simp only [allB, Bool.and_eq_true]
    exact ⟨ih fun i hi => h i (by omega), h n (by omega)⟩
theorem rods_list {Y : Nat → Int} {n : Nat} (h : ∀ i, i < n → rodB (Y (i * 3)) (Y (i * 3 + 1)) (Y (i * 3 + 2)) = true) (hn : n ≤ 20) : listB n Y = true := by
  unfold listB
  rw [rods_all h]
  simp [hn]
/-- two limits -/
def lim2 (a b : Int) (j : Nat) : Int := if j = 0 then a else b
theorem lim2_ok {a b : Int} (a0 : 100 ≤ a) (ab : a < b) (b1 : b ≤ 3000) : limB 2 (lim2 a b) = true := by
  unfold limB
  simp only [risL, stepL]
  rw [show lim2 a b 0 = a from rfl, show lim2 a b 1 = b from rfl, inB_yes a0 (by omega), inB_yes (by omega) b1]
  simp
  exact ab
set_option maxHeartbeats 1000000 in
theorem most_few (A : Option Addr) (n c : Nat) (X : Nat → Int) (w : World) (hn : n ≤ maxLen) (hr : Sl w A n 3 X) (hv : listB n X = true) (h2 : n < 2) :
    Calls Try.prog 30 #[.slice A n c] w fun e w' => e = .returned (.tuple #[.int .i64 0, .int .i64 0, .int .i64 3]) ∧ Below w.heap.size w w' := by
  have HR := Lib.hid hr
  clear hr
  have hlt2 : (n : Int) < 2 := by omega
  go_enter Try.func30, Try.ntmps30
  go_wp2_with (go_at_call 18; refine (valid_i _ n c X _ hn HR.out).mono ?_; rintro e w1 ⟨rfl, b1⟩)
  go_ret3
  exact ⟨rfl, b1⟩
end Go.Proofs.Ytcpaenmhnoagdab.rod
