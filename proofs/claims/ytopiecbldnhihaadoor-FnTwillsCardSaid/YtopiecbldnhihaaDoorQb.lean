/-
  Twills: the contract of validity, of the model and of the program. No condition of a statement lies here.
-/
import Derived.Test.YtopiecbldnhihaaDoorFold3
namespace Go.Proofs.YtopiecbldnhihaaDoor.twl
open Go.ChangeShapes Go.WideShapes Go.ChangeAt Go.RowKit Go.Deep Go.Proofs.YtopiecbldnhihaaDoor.mem Go.Proofs.YtopiecbldnhihaaDoor.rod Go.Proofs.YtopiecbldnhihaaDoor.nums Go.Proofs.YtopiecbldnhihaaDoor.shp
set_option linter.unusedVariables false
set_option maxRecDepth 100000

theorem twB_all {n : Nat} {X : Nat → Int} {st : Int} (h : allIn 1 12 X n = false) : twB n X st = false := by unfold twB partB; rw [h]; simp
theorem twB_odd {n : Nat} {X : Nat → Int} {st : Int} (h : ¬ n % 2 = 0) : twB n X st = false := by unfold twB partB; simp [h]
theorem twB_far {n : Nat} {X : Nat → Int} {st : Int} (h : ¬ n ≤ 12) : twB n X st = false := by unfold twB partB; simp [h]
theorem twB_few {n : Nat} {X : Nat → Int} {st : Int} (h : ¬ 2 ≤ n) : twB n X st = false := by
  unfold twB partB
  by_cases h0 : 0 < n
  · obtain rfl : n = 1 := by omega
    simp
  · simp [h0]
theorem twB_sum {n : Nat} {X : Nat → Int} {st : Int} (h : ¬ sumN X n ≤ 12) : twB n X st = false := by unfold twB; simp [h]
theorem twB_end {n : Nat} {X : Nat → Int} {st : Int} (h2 : 2 ≤ n) (h12 : n ≤ 12) (he : n % 2 = 0) (ha : allIn 1 12 X n = true) (h : sumN X n ≤ 12) : twB n X st = inB st 1 (sumN X n - 1) := by
  unfold twB partB; simp [he, h12, ha, h]; omega
set_option maxHeartbeats 1000000 in
theorem okT_few (A : Option Addr) (n c b : Nat) (X : Nat → Int) (st : Int) (w : World) (hn : n ≤ maxLen) (hr : Sl w A n 1 X) (c0 : w.cell? ⟨b, 0, none⟩ = some (.slice A n c)) (c1 : w.cell? ⟨b, 1, none⟩ = some (.int .i64 st)) (ha : allIn 1 12 X n = true) (h2 : ¬ 2 ≤ n) :
    Calls Tryd.prog 31 #[.pointer (some ⟨b, 0, none⟩)] w fun e w' => e = .returned (.bool false) ∧ Drew w w' := by
  unfold maxLen at hn
  have HR := Lib.hid hr
  clear hr
  have HAT := Lib.hid (fun j (hj : j < n) => allIn_at ha hj)
  clear ha
  have h2' : decide ((2 : Int) ≤ (n : Int)) = false := decide_eq_false (by omega)
  clear h2
  go_enter Tryd.func31, Tryd.ntmps31
  go_wp2_with fail
  go_loop [3] (fun s => ∃ k : Nat, k ≤ n ∧ s = .int .i64 k) (fun s => n - (intOf s).toNat)
  case atStart => exact ⟨0, by omega, rfl⟩
  case round =>
    obtain ⟨k, hk, rfl⟩ := hrel
    by_cases hlt : k < n
    · have hlt' : (k : Int) < (n : Int) := by omega
      obtain ⟨b1, o1, rfl, hb, hX⟩ := HR.out (by omega)
      have h0 := hX k (by omega)
      have hv : inB (X k) 1 12 = true := inB_yes (HAT.out k hlt).1 (HAT.out k hlt).2
      clear hX
      go_wp2_with (go_at_call 32; refine (in_s _ _ _ _).mono ?_; rintro e w' ⟨rfl, rfl⟩)
      go_round
      case rel => exact ⟨k + 1, by omega, by go_num⟩
      case measure => simp [intOf]; omega
    · obtain rfl : n = k := by omega
      clear hlt hk
      go_wp2_with fail
      go_quiet (fail)
      go_wp2
      go_ret
      exact ⟨rfl, (Drew.refl _).drewN _⟩

set_option maxHeartbeats 1000000 in
theorem okT_far (A : Option Addr) (n c b : Nat) (X : Nat → Int) (st : Int) (w : World) (hn : n ≤ maxLen) (hr : Sl w A n 1 X) (c0 : w.cell? ⟨b, 0, none⟩ = some (.slice A n c)) (c1 : w.cell? ⟨b, 1, none⟩ = some (.int .i64 st)) (ha : allIn 1 12 X n = true) (h12 : ¬ n ≤ 12) :
    Calls Tryd.prog 31 #[.pointer (some ⟨b, 0, none⟩)] w fun e w' => e = .returned (.bool false) ∧ Drew w w' := by
  unfold maxLen at hn
  have HR := Lib.hid hr
  clear hr
  have HAT := Lib.hid (fun j (hj : j < n) => allIn_at ha hj)
  clear ha
  have h2' : (2 : Int) ≤ (n : Int) := by omega
  have h12' : decide ((n : Int) ≤ 12) = false := decide_eq_false (by omega)
  clear h12
  go_enter Tryd.func31, Tryd.ntmps31
  go_wp2_with fail
  go_loop [3] (fun s => ∃ k : Nat, k ≤ n ∧ s = .int .i64 k) (fun s => n - (intOf s).toNat)
  case atStart => exact ⟨0, by omega, rfl⟩
  case round =>
    obtain ⟨k, hk, rfl⟩ := hrel
    by_cases hlt : k < n
    · have hlt' : (k : Int) < (n : Int) := by omega
      obtain ⟨b1, o1, rfl, hb, hX⟩ := HR.out (by omega)
      have h0 := hX k (by omega)
      have hv : inB (X k) 1 12 = true := inB_yes (HAT.out k hlt).1 (HAT.out k hlt).2
      clear hX
      go_wp2_with (go_at_call 32; refine (in_s _ _ _ _).mono ?_; rintro e w' ⟨rfl, rfl⟩)
      go_round
      case rel => exact ⟨k + 1, by omega, by go_num⟩
      case measure => simp [intOf]; omega
    · obtain rfl : n = k := by omega
      clear hlt hk
      go_wp2_with fail
      go_quiet (fail)
      go_wp2
      go_ret
      exact ⟨rfl, (Drew.refl _).drewN _⟩

set_option maxHeartbeats 1000000 in
theorem okT_odd (A : Option Addr) (n c b : Nat) (X : Nat → Int) (st : Int) (w : World) (hn : n ≤ maxLen) (hr : Sl w A n 1 X) (c0 : w.cell? ⟨b, 0, none⟩ = some (.slice A n c)) (c1 : w.cell? ⟨b, 1, none⟩ = some (.int .i64 st)) (ha : allIn 1 12 X n = true) (h2 : 2 ≤ n) (h12 : n ≤ 12) (he : ¬ n % 2 = 0) :
    Calls Tryd.prog 31 #[.pointer (some ⟨b, 0, none⟩)] w fun e w' => e = .returned (.bool false) ∧ Drew w w' := by
  unfold maxLen at hn
  have HR := Lib.hid hr
  clear hr
  have HAT := Lib.hid (fun j (hj : j < n) => allIn_at ha hj)
  clear ha
  have h2' : (2 : Int) ≤ (n : Int) := by omega
  have h12' : (n : Int) ≤ 12 := by omega
  have e0 : (n : Int) % 2 = 1 := by omega
  clear he
  go_enter Tryd.func31, Tryd.ntmps31
  go_wp2_with fail
  go_loop [3] (fun s => ∃ k : Nat, k ≤ n ∧ s = .int .i64 k) (fun s => n - (intOf s).toNat)
  case atStart => exact ⟨0, by omega, rfl⟩
  case round =>
    obtain ⟨k, hk, rfl⟩ := hrel
    by_cases hlt : k < n
    · have hlt' : (k : Int) < (n : Int) := by omega
      obtain ⟨b1, o1, rfl, hb, hX⟩ := HR.out (by omega)
      have h0 := hX k (by omega)
      have hv : inB (X k) 1 12 = true := inB_yes (HAT.out k hlt).1 (HAT.out k hlt).2
      clear hX
      go_wp2_with (go_at_call 32; refine (in_s _ _ _ _).mono ?_; rintro e w' ⟨rfl, rfl⟩)
      go_round
      case rel => exact ⟨k + 1, by omega, by go_num⟩
      case measure => simp [intOf]; omega
    · obtain rfl : n = k := by omega
      clear hlt hk
      go_wp2_with fail
      go_quiet (fail)
      go_wp2
      go_ret
      exact ⟨rfl, (Drew.refl _).drewN _⟩

set_option maxHeartbeats 1000000 in
theorem okT_sum (A : Option Addr) (n c b : Nat) (X : Nat → Int) (st : Int) (w : World) (hn : n ≤ maxLen) (hr : Sl w A n 1 X) (c0 : w.cell? ⟨b, 0, none⟩ = some (.slice A n c)) (c1 : w.cell? ⟨b, 1, none⟩ = some (.int .i64 st)) (ha : allIn 1 12 X n = true) (h2 : 2 ≤ n) (h12 : n ≤ 12) (he : n % 2 = 0) (h3 : ¬ sumN X n ≤ 12) :
    Calls Tryd.prog 31 #[.pointer (some ⟨b, 0, none⟩)] w fun e w' => e = .returned (.bool false) ∧ Drew w w' := by
  unfold maxLen at hn
  have HR := Lib.hid hr
  clear hr
  have HAT := Lib.hid (fun j (hj : j < n) => allIn_at ha hj)
  clear ha
  have h2' : (2 : Int) ≤ (n : Int) := by omega
  have h12' : (n : Int) ≤ 12 := by omega
  have e0 : (n : Int) % 2 = 0 := by omega
  have HW := Lib.hid (fun W (hw : Drew w W) => width_s A n c b X W h12 HAT.out (hw.sl HR.out) (hw.cell c0))
  have h3' : decide (sumN X n ≤ 12) = false := decide_eq_false h3
  clear h3 he h2 h12
  generalize sumN X n = S at *
  go_enter Tryd.func31, Tryd.ntmps31
  go_wp2_with fail
  go_loop [3] (fun s => ∃ k : Nat, k ≤ n ∧ s = .int .i64 k) (fun s => n - (intOf s).toNat)
  case atStart => exact ⟨0, by omega, rfl⟩
  case round =>
    obtain ⟨k, hk, rfl⟩ := hrel
    by_cases hlt : k < n
    · have hlt' : (k : Int) < (n : Int) := by omega
      obtain ⟨b1, o1, rfl, hb, hX⟩ := HR.out (by omega)
      have h0 := hX k (by omega)
      have hv : inB (X k) 1 12 = true := inB_yes (HAT.out k hlt).1 (HAT.out k hlt).2
      clear hX
      go_wp2_with (go_at_call 32; refine (in_s _ _ _ _).mono ?_; rintro e w' ⟨rfl, rfl⟩)
      go_round
      case rel => exact ⟨k + 1, by omega, by go_num⟩
      case measure => simp [intOf]; omega
    · obtain rfl : n = k := by omega
      clear hlt hk
      go_wp2_with fail
      go_quiet (first
        | (go_at_call 45; exact Calls.quiet_of_same ((HW.out _ (by first | exact Drew.refl _ | exact (Drew.refl _).drewN _)).mono fun _ _ ⟨p, q⟩ => ⟨p, q.symm⟩))
        | (go_at_call 32; exact Calls.quiet_of_same ((in_s _ _ _ _).mono fun _ _ ⟨p, q⟩ => ⟨p, q.symm⟩)))
      go_wp2
      go_ret
      exact ⟨rfl, (Drew.refl _).drewN _⟩

set_option maxHeartbeats 1000000 in
theorem okT_end (A : Option Addr) (n c b : Nat) (X : Nat → Int) (st : Int) (w : World) (hn : n ≤ maxLen) (hr : Sl w A n 1 X) (c0 : w.cell? ⟨b, 0, none⟩ = some (.slice A n c)) (c1 : w.cell? ⟨b, 1, none⟩ = some (.int .i64 st)) (ha : allIn 1 12 X n = true) (h2 : 2 ≤ n) (h12 : n ≤ 12) (he : n % 2 = 0) (h3 : sumN X n ≤ 12) :
    Calls Tryd.prog 31 #[.pointer (some ⟨b, 0, none⟩)] w fun e w' => e = .returned (.bool (inB st 1 (sumN X n - 1))) ∧ Drew w w' := by
  unfold maxLen at hn
  have HR := Lib.hid hr
  clear hr
  have HAT := Lib.hid (fun j (hj : j < n) => allIn_at ha hj)
  clear ha
  have h2' : (2 : Int) ≤ (n : Int) := by omega
  have h12' : (n : Int) ≤ 12 := by omega
  have e0 : (n : Int) % 2 = 0 := by omega
  have HW := Lib.hid (fun W (hw : Drew w W) => width_s A n c b X W h12 HAT.out (hw.sl HR.out) (hw.cell c0))
  have HBD := sumN_bd HAT.out
  have hs : IntKind.i64.wrap (sumN X n - 1) = sumN X n - 1 := by rw [IntKind.wrap_i64]; omega
  clear he h2 h12
  generalize sumN X n = S at *
  go_enter Tryd.func31, Tryd.ntmps31
  go_wp2_with fail
  go_loop [3] (fun s => ∃ k : Nat, k ≤ n ∧ s = .int .i64 k) (fun s => n - (intOf s).toNat)
  case atStart => exact ⟨0, by omega, rfl⟩
  case round =>
    obtain ⟨k, hk, rfl⟩ := hrel
    by_cases hlt : k < n
    · have hlt' : (k : Int) < (n : Int) := by omega
      obtain ⟨b1, o1, rfl, hb, hX⟩ := HR.out (by omega)
      have h0 := hX k (by omega)
      have hv : inB (X k) 1 12 = true := inB_yes (HAT.out k hlt).1 (HAT.out k hlt).2
      clear hX
      go_wp2_with (go_at_call 32; refine (in_s _ _ _ _).mono ?_; rintro e w' ⟨rfl, rfl⟩)
      go_round
      case rel => exact ⟨k + 1, by omega, by go_num⟩
      case measure => simp [intOf]; omega
    · obtain rfl : n = k := by omega
      clear hlt hk
      go_wp2_with fail
      go_quiet (first
        | (go_at_call 45; exact Calls.quiet_of_same ((HW.out _ (by first | exact Drew.refl _ | exact (Drew.refl _).drewN _)).mono fun _ _ ⟨p, q⟩ => ⟨p, q.symm⟩))
        | (go_at_call 32; exact Calls.quiet_of_same ((in_s _ _ _ _).mono fun _ _ ⟨p, q⟩ => ⟨p, q.symm⟩)))
      go_wp2
      go_ret
      exact ⟨rfl, (Drew.refl _).drewN _⟩

set_option maxHeartbeats 1000000 in
theorem okT_out (A : Option Addr) (n c b : Nat) (X : Nat → Int) (st : Int) (w : World) (hn : n ≤ maxLen) (hr : Sl w A n 1 X) (c0 : w.cell? ⟨b, 0, none⟩ = some (.slice A n c)) (c1 : w.cell? ⟨b, 1, none⟩ = some (.int .i64 st)) (ha : allIn 1 12 X n = false) :
    Calls Tryd.prog 31 #[.pointer (some ⟨b, 0, none⟩)] w fun e w' => e = .returned (.bool false) ∧ Drew w w' := by
  unfold maxLen at hn
  have HR := Lib.hid hr
  have HF := Lib.hid ha
  clear hr ha
  go_enter Tryd.func31, Tryd.ntmps31
  go_wp2_with fail
  go_loop [3] (fun s => ∃ k : Nat, k ≤ n ∧ s = .int .i64 k ∧ Hid (allIn 1 12 X k = true)) (fun s => n - (intOf s).toNat)
  case atStart => exact ⟨0, by omega, rfl, rfl⟩
  case round =>
    obtain ⟨k, hk, rfl, HA⟩ := hrel
    by_cases hlt : k < n
    · have hlt' : (k : Int) < (n : Int) := by omega
      obtain ⟨b1, o1, rfl, hb, hX⟩ := HR.out (by omega)
      have h0 := hX k (by omega)
      clear hX
      cases hv : inB (X k) 1 12
      · go_wp2_with (go_at_call 32; refine (in_s _ _ _ _).mono ?_; rintro e w' ⟨rfl, rfl⟩)
        go_ret
        exact ⟨rfl, Drew.refl _⟩
      · have HV := Lib.hid hv
        go_wp2_with (go_at_call 32; refine (in_s _ _ _ _).mono ?_; rintro e w' ⟨rfl, rfl⟩)
        go_round
        case rel => exact ⟨k + 1, by omega, by go_num, by simp only [Hid, allIn, HA.out, HV.out, Bool.and_self]⟩
        case measure => simp [intOf]; omega
    · obtain rfl : k = n := by omega
      exact absurd (HA.out.symm.trans HF.out) (by simp)

theorem okT_s (A : Option Addr) (n c b : Nat) (X : Nat → Int) (st : Int) (w : World) (hn : n ≤ maxLen) (hr : Sl w A n 1 X) (c0 : w.cell? ⟨b, 0, none⟩ = some (.slice A n c)) (c1 : w.cell? ⟨b, 1, none⟩ = some (.int .i64 st)) :
    Calls Tryd.prog 31 #[.pointer (some ⟨b, 0, none⟩)] w fun e w' => e = .returned (.bool (twB n X st)) ∧ Drew w w' := by
  cases ha : allIn 1 12 X n
  · rw [twB_all ha]; exact okT_out A n c b X st w hn hr c0 c1 ha
  by_cases h2 : 2 ≤ n
  · by_cases h12 : n ≤ 12
    · by_cases he : n % 2 = 0
      · by_cases h3 : sumN X n ≤ 12
        · rw [twB_end h2 h12 he ha h3]; exact okT_end A n c b X st w hn hr c0 c1 ha h2 h12 he h3
        · rw [twB_sum h3]; exact okT_sum A n c b X st w hn hr c0 c1 ha h2 h12 he h3
      · rw [twB_odd he]; exact okT_odd A n c b X st w hn hr c0 c1 ha h2 h12 he
    · rw [twB_far h12]; exact okT_far A n c b X st w hn hr c0 c1 ha h12
  · rw [twB_few h2]; exact okT_few A n c b X st w hn hr c0 c1 ha h2

set_option maxHeartbeats 1000000 in
theorem twval_s (A : Option Addr) (n c : Nat) (X : Nat → Int) (st : Int) (w : World) (hn : n ≤ maxLen) (hr : Sl w A n 1 X) :
    Calls Tryd.prog 20 #[.agg #[.slice A n c, .int .i64 st]] w fun e w' => e = .returned (.bool (twB n X st)) ∧ Below w.heap.size w w' := by
  have HR := Lib.hid hr
  clear hr
  go_enter Tryd.func20, Tryd.ntmps20
  go_wp2_with fail
  refine (okT_s A n c w.heap.size X st _ hn (HR.out.below (K := w.heap.size) (by go_grown) (Nat.le_refl _)) (by go_simp) (by go_simp)).mono ?_
  rintro e w' ⟨rfl, m, rfl⟩
  go_wp2
  go_ret
  exact ⟨rfl, drewN_below (by go_grown) _⟩

end Go.Proofs.YtopiecbldnhihaaDoor.twl
