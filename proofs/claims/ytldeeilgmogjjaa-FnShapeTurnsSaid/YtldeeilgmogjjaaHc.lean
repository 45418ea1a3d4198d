/-
  Contracts of ChangesOf, of the model and of the program. No condition of a statement lies here.
-/
import Derived.Test.YtldeeilgmogjjaaHa
import Derived.Test.YtldeeilgmogjjaaOpen
import Derived.Test.YtldeeilgmogjjaaNums
import Derived.Test.YtldeeilgmogjjaaIn
namespace Go.Proofs.Ytldeeilgmogjjaa.shp
open Go.ChangeShapes Go.WideShapes Go.ChangeAt Go.RowKit Go.Proofs.Ytldeeilgmogjjaa.mem Go.Proofs.Ytldeeilgmogjjaa.rod Go.Proofs.Ytldeeilgmogjjaa.nums
set_option linter.unusedVariables false
set_option maxRecDepth 100000

/-- a difference without its sign -/
def dst (a b : Int) : Int := if a ≤ b then b - a else a - b
theorem dst_le {a b : Int} (h : a ≤ b) : dst a b = b - a := if_pos h
theorem dst_gt {a b : Int} (h : ¬ a ≤ b) : dst a b = a - b := if_neg h
theorem dst_comm (a b : Int) : dst a b = dst b a := by unfold dst; split <;> split <;> omega
theorem dst_bd {a b l h : Int} (h1 : l ≤ a) (h2 : a ≤ h) (h3 : l ≤ b) (h4 : b ≤ h) : 0 ≤ dst a b ∧ dst a b ≤ h - l := by unfold dst; split <;> omega
/-- the sum of the differences of the first n + 1 numbers -/
def chs (X : Nat → Int) : Nat → Int
  | 0 => 0
  | n + 1 => chs X n + dst (X n) (X (n + 1))
theorem chs_bd {X : Nat → Int} {l h : Int} : ∀ {n : Nat}, (∀ k, k ≤ n → l ≤ X k ∧ X k ≤ h) → 0 ≤ chs X n ∧ chs X n ≤ n * (h - l)
  | 0, _ => by unfold chs; simp
  | n + 1, hX => by
    have ih := chs_bd (n := n) (fun k hk => hX k (by omega))
    have h1 := hX n (by omega)
    have h2 := hX (n + 1) (by omega)
    have := dst_bd h1.1 h1.2 h2.1 h2.2
    unfold chs
    rw [show ((n + 1 : Nat) : Int) * (h - l) = n * (h - l) + (h - l) by rw [Int.natCast_add, Int.add_mul]; simp]
    omega

theorem dist_i (a b : Int) (a0 : -1000000000 ≤ a) (a1 : a ≤ 1000000000) (b0 : -1000000000 ≤ b) (b1 : b ≤ 1000000000) (w : World) :
    Calls Try.prog 46 #[.int .i64 a, .int .i64 b] w fun e w' => e = .returned (.int .i64 (dst a b)) ∧ w = w' := by
  by_cases h' : a = b
  · subst h'
    rw [show dst a a = 0 by unfold dst; simp]
    go_enter Try.func46, Try.ntmps46
    go_wp2
    go_ret
    exact ⟨by first | rfl | simp, rfl⟩
  by_cases h : a ≤ b
  · rw [dst_le h]
    have h2 : a < b := by omega
    clear h h'
    go_enter Try.func46, Try.ntmps46
    go_wp2
    go_ret
    exact ⟨rfl, rfl⟩
  · rw [dst_gt h]
    have h2 : b < a := by omega
    clear h h'
    go_enter Try.func46, Try.ntmps46
    go_wp2
    go_ret
    exact ⟨rfl, rfl⟩
theorem size_d (a b : Int) (a0 : -1000000000 ≤ a) (a1 : a ≤ 1000000000) (b0 : -1000000000 ≤ b) (b1 : b ≤ 1000000000) (w : World) :
    Calls Try.prog 24 #[.int .i64 (a - b)] w fun e w' => e = .returned (.int .i64 (dst a b)) ∧ w = w' := by
  by_cases h : a ≤ b
  · by_cases h' : a = b
    · subst h'
      rw [show dst a a = 0 by unfold dst; simp, show a - a = 0 by omega]
      go_enter Try.func24, Try.ntmps24
      go_wp2
      go_ret
      exact ⟨rfl, rfl⟩
    · rw [dst_le h, show b - a = -(a - b) by omega]
      have h1 : a - b < 0 := by omega
      have h2 : -1000000000 * 2 ≤ a - b := by omega
      generalize a - b = q at h1 h2
      clear h h'
      go_enter Try.func24, Try.ntmps24
      go_wp2
      go_ret
      exact ⟨rfl, rfl⟩
  · rw [dst_gt h]
    have h1 : ¬ a - b < 0 := by omega
    generalize a - b = q at h1
    go_enter Try.func24, Try.ntmps24
    go_wp2
    go_ret
    exact ⟨rfl, rfl⟩

set_option maxHeartbeats 1000000 in
theorem changes_i (A : Option Addr) (n c : Nat) (X : Nat → Int) (w : World) (hn : n ≤ 12) (hX : ∀ k, k < n → 3 ≤ X k ∧ X k ≤ 60) (hr : Sl w A n 1 X) :
    Calls Try.prog 40 #[.slice A n c] w fun e w' => e = .returned (.int .i64 (chs X (n - 1))) ∧ ∃ m, w' = w.drewN m := by
  have HR := Lib.hid hr
  have HX := Lib.hid hX
  clear hr hX
  go_enter Try.func40, Try.ntmps40
  go_wp2_with fail
  go_loopw [3, 4] (fun s t wr => ∃ k : Nat, 1 ≤ k ∧ k ≤ n + 1 ∧ (k ≤ n ∨ n = 0) ∧ t = .int .i64 k ∧ s = .int .i64 (chs X (k - 1)) ∧ Drew w wr) (fun s t _ => n - (intOf t).toNat)
  case atStart => exact ⟨1, by omega, by omega, by omega, rfl, rfl, Drew.refl _⟩
  case round =>
    obtain ⟨k, k1, kn, kz, rfl, rfl, hd⟩ := hrel
    by_cases hlt : k < n
    · obtain ⟨q, hq⟩ : ∃ q, k = q + 1 := ⟨k - 1, by omega⟩
      rw [show k - 1 = q by omega]
      have hlt' : (k : Int) < (n : Int) := by omega
      have hq0 : (0 : Int) ≤ (q : Int) := by omega
      have hq2 : (q : Int) < (n : Int) := by omega
      have hk0 : (0 : Int) ≤ (k : Int) := by omega
      obtain ⟨b, o, rfl, hb, hI⟩ := HR.out (by omega)
      have h0 := hd.cell (hI q (by omega))
      have h1 := hd.cell (hI k (by omega))
      have x0 := HX.out q (by omega)
      have x1 := HX.out k (by omega)
      have cb := chs_bd (X := X) (l := 3) (h := 60) (n := q) (fun k hk => HX.out k (by omega))
      have db := dst_bd x0.1 x0.2 x1.1 x1.2
      have cb2 : (q : Int) * (60 - 3) ≤ 1000 := by omega
      have HS := Lib.hid (show chs X k = chs X q + dst (X q) (X k) by rw [hq]; rfl)
      have hq1 : IntKind.i64.wrap ((k : Int) - 1) = (q : Int) := by rw [IntKind.wrap_i64]; omega
      have hs : IntKind.i64.wrap (chs X q + dst (X q) (X k)) = chs X q + dst (X q) (X k) := by rw [IntKind.wrap_i64]; omega
      have HQ := Lib.hid hq
      obtain ⟨x00, x01⟩ := x0
      obtain ⟨x10, x11⟩ := x1
      clear hI hq cb cb2 db
      go_wp2_with fail
      go_quiet ((go_at_call 46; exact Calls.quiet_of_same ((dist_i _ _ (by omega) (by omega) (by omega) (by omega) _).mono fun _ _ ⟨p, q⟩ => ⟨p, q.symm⟩)))
      clear hs hq1
      go_wp2
      go_roundw
      case rel => exact ⟨k + 1, by omega, by omega, by omega, by go_num, by rw [Nat.add_sub_cancel, HS.out], hd.drewN _⟩
      case measure => simp [intOf]; omega
    · have hlt' : ¬ (k : Int) < (n : Int) := by omega
      have HK := Lib.hid (show chs X (k - 1) = chs X (n - 1) by
        rcases kz with h | h
        · rw [show k = n by omega]
        · subst h; rw [show k = 1 by omega])
      go_wp2
      go_ret
      exact ⟨by rw [HK.out]; rfl, hd⟩

set_option maxHeartbeats 1000000 in
theorem changesOf_s_no (A : Option Addr) (n c : Nat) (X : Nat → Int) (w : World) (hn : n ≤ maxLen) (hr : Sl w A n 1 X) (hv : (decide (n ≤ 12) && allIn 3 60 X n) = false) :
    Calls Try.prog 11 #[.slice A n c] w fun e w' => e = .returned (.tuple #[.int .i64 0, .int .i64 2]) ∧ Below w.heap.size w w' := by
  unfold maxLen at hn
  have HR := Lib.hid hr
  clear hr
  have HV := Lib.hid hv
  clear hv
  go_enter Try.func11, Try.ntmps11
  go_wp2_with fail
  go_loop [4] (fun s => ∃ k : Nat, k ≤ n ∧ s = .int .i64 k ∧ Hid (allIn 3 60 X k = true)) (fun s => n - (intOf s).toNat)
  case atStart => exact ⟨0, by omega, rfl, rfl⟩
  case round =>
    obtain ⟨k, hk, rfl, HA⟩ := hrel
    by_cases hlt : k < n
    · have hlt' : (k : Int) < (n : Int) := by omega
      obtain ⟨b, o, rfl, hb, hI⟩ := HR.out (by omega)
      have h0 := hI k (by omega)
      clear hI
      cases hv : inB (X k) 3 60
      · go_wp2_with (go_at_call 23; refine (stakes_s _ _).mono ?_; rintro e w' ⟨rfl, rfl⟩)
        go_returns
        exact ⟨rfl, by go_grown⟩
      · have HW := Lib.hid hv
        go_wp2_with (go_at_call 23; refine (stakes_s _ _).mono ?_; rintro e w' ⟨rfl, rfl⟩)
        go_round
        case rel => exact ⟨k + 1, by omega, by go_num, by simp only [Hid, allIn, HA.out, HW.out, Bool.and_self]⟩
        case measure => simp [intOf]; omega
    · obtain rfl : k = n := by omega
      have h12 : ¬ k ≤ 12 := fun h => by have := HV.out; rw [HA.out, decide_eq_true h] at this; cases this
      have h12' : (12 : Int) < (k : Int) := by omega
      clear h12
      go_wp2
      go_returns
      exact ⟨rfl, by go_grown⟩

set_option maxHeartbeats 1000000 in
theorem changesOf_s (A : Option Addr) (n c : Nat) (X : Nat → Int) (w : World) (hn : n ≤ 12) (hr : Sl w A n 1 X) (hv : allIn 3 60 X n = true) :
    Calls Try.prog 11 #[.slice A n c] w fun e w' => e = .returned (.tuple #[.int .i64 (chs X (n - 1)), .int .i64 0]) ∧ Below w.heap.size w w' := by
  have HR := Lib.hid hr
  have hX : ∀ k, k < n → 3 ≤ X k ∧ X k ≤ 60 := fun k hk => allIn_at hv hk
  have HX := Lib.hid hX
  clear hr hX hv
  go_enter Try.func11, Try.ntmps11
  go_wp2_with fail
  go_loop [4] (fun s => ∃ k : Nat, k ≤ n ∧ s = .int .i64 k) (fun s => n - (intOf s).toNat)
  case atStart => exact ⟨0, by omega, rfl⟩
  case round =>
    obtain ⟨k, hk, rfl⟩ := hrel
    by_cases hlt : k < n
    · have hlt' : (k : Int) < (n : Int) := by omega
      obtain ⟨b, o, rfl, hb, hI⟩ := HR.out (by omega)
      have h0 := hI k (by omega)
      have hv : inB (X k) 3 60 = true := inB_yes (HX.out k hlt).1 (HX.out k hlt).2
      clear hI
      go_wp2_with (go_at_call 23; refine (stakes_s _ _).mono ?_; rintro e w' ⟨rfl, rfl⟩)
      go_round
      case rel => exact ⟨k + 1, by omega, by go_num⟩
      case measure => simp [intOf]; omega
    · obtain rfl : n = k := by omega
      have h12' : ¬ (12 : Int) < (n : Int) := by omega
      go_wp2_with fail
      go_loopw [5, 6] (fun s t wr => ∃ k : Nat, 1 ≤ k ∧ k ≤ n + 1 ∧ (k ≤ n ∨ n = 0) ∧ t = .int .i64 k ∧ s = .int .i64 (chs X (k - 1)) ∧ Drew w wr) (fun s t _ => n - (intOf t).toNat)
      case atStart => exact ⟨1, by omega, by omega, by omega, rfl, rfl, Drew.refl _⟩
      case round =>
        obtain ⟨k, k1, kn, kz, rfl, rfl, hd⟩ := hrel
        by_cases hlt : k < n
        · obtain ⟨q, hq⟩ : ∃ q, k = q + 1 := ⟨k - 1, by omega⟩
          rw [show k - 1 = q by omega]
          have hlt' : (k : Int) < (n : Int) := by omega
          have hq0 : (0 : Int) ≤ (q : Int) := by omega
          have hq2 : (q : Int) < (n : Int) := by omega
          have hk0 : (0 : Int) ≤ (k : Int) := by omega
          obtain ⟨b, o, rfl, hb, hI⟩ := HR.out (by omega)
          have h0 := hd.cell (hI q (by omega))
          have h1 := hd.cell (hI k (by omega))
          have x0 := HX.out q (by omega)
          have x1 := HX.out k (by omega)
          have cb := chs_bd (X := X) (l := 3) (h := 60) (n := q) (fun k hk => HX.out k (by omega))
          have db := dst_bd x1.1 x1.2 x0.1 x0.2
          have cb2 : (q : Int) * (60 - 3) ≤ 1000 := by omega
          have HS := Lib.hid (show chs X k = chs X q + dst (X k) (X q) by rw [dst_comm (X k), hq]; rfl)
          have hq1 : IntKind.i64.wrap ((k : Int) - 1) = (q : Int) := by rw [IntKind.wrap_i64]; omega
          have hs : IntKind.i64.wrap (chs X q + dst (X k) (X q)) = chs X q + dst (X k) (X q) := by rw [IntKind.wrap_i64]; omega
          have HQ := Lib.hid hq
          obtain ⟨x00, x01⟩ := x0
          obtain ⟨x10, x11⟩ := x1
          clear hI hq cb cb2 db
          go_wp2_with fail
          go_quiet ((go_at_call 24; exact Calls.quiet_of_same ((size_d _ _ (by omega) (by omega) (by omega) (by omega) _).mono fun _ _ ⟨p, q⟩ => ⟨p, q.symm⟩)))
          clear hs hq1
          go_wp2
          go_roundw
          case rel => exact ⟨k + 1, by omega, by omega, by omega, by go_num, by rw [Nat.add_sub_cancel, HS.out], hd.drewN _⟩
          case measure => simp [intOf]; omega
        · have hlt' : ¬ (k : Int) < (n : Int) := by omega
          have HK := Lib.hid (show chs X (k - 1) = chs X (n - 1) by
            rcases kz with h | h
            · rw [show k = n by omega]
            · subst h; rw [show k = 1 by omega])
          go_wp2
          go_returns
          exact ⟨by rw [HK.out]; rfl, hd.below⟩

end Go.Proofs.Ytldeeilgmogjjaa.shp
