/-
  Contracts of IsName, of the model's and of the program's.
-/
import Derived.Test.YtmaakconbaiagaaMem
import Derived.Laws.RangeString
import Derived.Laws.RangeAny
import Derived.Outline
namespace Go.Proofs.Ytmaakconbaiagaa.name
open Go.ChangeShapes Go.WideShapes Go.ChangeAt Go.RowKit
open Go.Proofs.Ytmaakconbaiagaa.mem
set_option linter.unusedVariables false

def smB (c : Int) : Bool := decide (97 ≤ c) && decide (c ≤ 122)
def dgB (c : Int) : Bool := decide (48 ≤ c) && decide (c ≤ 57)

set_option maxHeartbeats 1000000 in
theorem small_s (c : Int) (w : World) :
    Calls Try.prog 35 #[.int .u8 c] w fun e w' => e = .returned (.bool (smB c)) ∧ w = w' := by
  unfold smB
  by_cases a : 97 ≤ c
  · by_cases b : c ≤ 122
    all_goals
      go_enter Try.func35, Try.ntmps35
      go_wp2
      go_ret
      exact ⟨by simp [a, b], rfl⟩
  · go_enter Try.func35, Try.ntmps35
    go_wp2
    go_ret
    exact ⟨by simp; omega, rfl⟩
set_option maxHeartbeats 1000000 in
theorem digit_s (c : Int) (w : World) :
    Calls Try.prog 36 #[.int .u8 c] w fun e w' => e = .returned (.bool (dgB c)) ∧ w = w' := by
  unfold dgB
  by_cases a : 48 ≤ c
  · by_cases b : c ≤ 57
    all_goals
      go_enter Try.func36, Try.ntmps36
      go_wp2
      go_ret
      exact ⟨by simp [a, b], rfl⟩
  · go_enter Try.func36, Try.ntmps36
    go_wp2
    go_ret
    exact ⟨by simp; omega, rfl⟩
set_option maxHeartbeats 1000000 in
theorem small_i (c : Int) (w : World) :
    Calls Try.prog 37 #[.int .i32 c] w fun e w' => e = .returned (.bool (smB c)) ∧ w = w' := by
  unfold smB
  by_cases a : 97 ≤ c
  · by_cases b : c ≤ 122
    all_goals
      go_enter Try.func37, Try.ntmps37
      go_wp2
      go_ret
      exact ⟨by simp [a, b], rfl⟩
  · go_enter Try.func37, Try.ntmps37
    go_wp2
    go_ret
    exact ⟨by simp; omega, rfl⟩
set_option maxHeartbeats 1000000 in
theorem digit_i (c : Int) (w : World) :
    Calls Try.prog 38 #[.int .i32 c] w fun e w' => e = .returned (.bool (dgB c)) ∧ w = w' := by
  unfold dgB
  by_cases a : 48 ≤ c
  · by_cases b : c ≤ 57
    all_goals
      go_enter Try.func38, Try.ntmps38
      go_wp2
      go_ret
      exact ⟨by simp [a, b], rfl⟩
  · go_enter Try.func38, Try.ntmps38
    go_wp2
    go_ret
    exact ⟨by simp; omega, rfl⟩

/-- the byte at place i, as a number; 0 behind the end -/
def byteAt (s : ByteArray) (i : Nat) : Int := if h : i < s.size then ((s[i]'h).toNat : Int) else 0
theorem byteAt_eq {s : ByteArray} {i : Nat} (h : i < s.size) : byteAt s i = ((s[i]'h).toNat : Int) := dif_pos h
/-- may the byte stand at place i of a name? -/
def letB (c : Int) (i : Nat) : Bool := smB c || (!decide (i = 0) && (dgB c || decide (c = 45)))
def allL (s : ByteArray) : Nat → Bool
  | 0 => true
  | n + 1 => allL s n && letB (byteAt s n) n
theorem allL_le {s : ByteArray} {n : Nat} : ∀ {m : Nat}, m ≤ n → allL s n = true → allL s m = true := by
  induction n with
  | zero => intro m h k; obtain rfl : m = 0 := by omega
            exact k
  | succ n ih =>
    intro m h k
    by_cases e : m = n + 1
    · subst e; exact k
    · simp only [allL, Bool.and_eq_true] at k
      exact ih (by omega) k.1
theorem allL_no {s : ByteArray} {n i : Nat} (hi : i < n) (h : letB (byteAt s i) i = false) : allL s n = false := by
  cases e : allL s n
  · rfl
  · have := allL_le (m := i + 1) hi e
    simp only [allL, h, Bool.and_false] at this
    cases this
def nameB (s : ByteArray) : Bool := decide (0 < s.size) && decide (s.size ≤ 12) && allL s s.size

set_option maxHeartbeats 2000000 in
theorem isName_s (s : ByteArray) (w : World) (hs : s.size ≤ maxLen) :
    Calls Try.prog 12 #[.string s] w fun e w' => e = .returned (.bool (nameB s)) ∧ w = w' := by
  unfold maxLen at hs
  by_cases h0 : s.size = 0
  · have hf : nameB s = false := by unfold nameB; rw [decide_eq_false (by omega)]; rfl
    obtain ⟨d⟩ := s
    obtain rfl : d = #[] := Array.eq_empty_of_size_eq_zero h0
    rw [hf]
    go_enter Try.func12, Try.ntmps12
    go_wp2
    go_ret
    exact ⟨rfl, rfl⟩
  · have hne : ¬ s.toList = [] := by
      rw [ByteArray.toList_eq]
      intro h
      exact h0 (by show s.data.size = 0; rw [← Array.length_toList, h]; rfl)
    have hne' : s.toList.isEmpty = false := by cases h : s.toList with
      | nil => exact absurd h hne
      | cons a l => rfl
    by_cases h12 : 12 < s.size
    · have hf : nameB s = false := by unfold nameB; rw [decide_eq_false (by omega : ¬ s.size ≤ 12)]; simp
      rw [hf]
      have h12' : (12 : Int) < (s.size : Int) := by omega
      clear hf
      go_enter Try.func12, Try.ntmps12
      go_wp2
      go_ret
      exact ⟨rfl, rfl⟩
    · have h12' : ¬ (12 : Int) < (s.size : Int) := by omega
      have hpos : 0 < s.size := by omega
      cases hb0 : smB ((s[0]'hpos).toNat : Int)
      · have hf : nameB s = false := by
          unfold nameB
          rw [allL_no hpos (by rw [byteAt_eq hpos]; unfold letB; rw [hb0]; rfl)]
          simp
        have HF := Lib.hid hf
        clear hf
        go_enter Try.func12, Try.ntmps12
        go_wp2_with (go_at_call 35; refine (small_s _ _).mono ?_; rintro e w' ⟨rfl, rfl⟩)
        go_ret
        exact ⟨by rw [HF.out]; rfl, rfl⟩
      · have he : nameB s = allL s s.size := by unfold nameB; rw [decide_eq_true hpos, decide_eq_true (by omega : s.size ≤ 12)]; rfl
        have HE := Lib.hid he
        have HB0 := Lib.hid hb0
        clear he
        go_enter Try.func12, Try.ntmps12
        go_wp2_with (go_at_call 35; refine (small_s _ _).mono ?_; rintro e w' ⟨rfl, rfl⟩)
        clear hb0
        go_loop [3] (fun t => ∃ k : Nat, k ≤ s.size ∧ t = .int .i64 k ∧ Hid (allL s k = true)) (fun t => s.size - (intOf t).toNat)
        case atStart => exact ⟨0, by omega, rfl, rfl⟩
        case round =>
          obtain ⟨k, hk, rfl, HA⟩ := hrel
          by_cases hlt : k < s.size
          · have hlt' : (k : Int) < (s.size : Int) := by omega
            cases hsm : smB ((s[k]'hlt).toNat : Int)
            · cases hdg : dgB ((s[k]'hlt).toNat : Int)
              · by_cases h45 : ((s[k]'hlt).toNat : Int) = 45
                · by_cases hk0 : k = 0
                  · exfalso; subst hk0; rw [HB0.out] at hsm; cases hsm
                  have hv : letB (byteAt s k) k = true := by rw [byteAt_eq hlt]; unfold letB; rw [hsm, hdg, decide_eq_false hk0, decide_eq_true h45]; rfl
                  have HV := Lib.hid hv
                  have h45' : (((s[k]'hlt).toNat : Int) == 45) = true := by simpa using h45
                  have h45'' : (((s[k]'hlt).toNat : Int) != 45) = false := by simpa using h45
                  clear hv h45
                  go_wp2_with (first | (go_at_call 35; refine (small_s _ _).mono ?_; rintro e w' ⟨rfl, rfl⟩) | (go_at_call 36; refine (digit_s _ _).mono ?_; rintro e w' ⟨rfl, rfl⟩))
                  go_round
                  case rel => exact ⟨k + 1, by omega, by go_num, by simp only [Hid, allL, HA.out, HV.out, Bool.and_self]⟩
                  case measure => simp [intOf]; omega
                · have hv : letB (byteAt s k) k = false := by rw [byteAt_eq hlt]; unfold letB; rw [hsm, hdg, decide_eq_false h45]; simp
                  have hf : nameB s = false := by rw [HE.out]; exact allL_no hlt hv
                  have HF := Lib.hid hf
                  have h45' : (((s[k]'hlt).toNat : Int) == 45) = false := by simpa using h45
                  have h45'' : (((s[k]'hlt).toNat : Int) != 45) = true := by simpa using h45
                  clear hv hf h45
                  go_wp2_with (first | (go_at_call 35; refine (small_s _ _).mono ?_; rintro e w' ⟨rfl, rfl⟩) | (go_at_call 36; refine (digit_s _ _).mono ?_; rintro e w' ⟨rfl, rfl⟩))
                  go_ret
                  exact ⟨by rw [HF.out]; rfl, rfl⟩
              · by_cases hk0 : k = 0
                · exfalso; subst hk0; rw [HB0.out] at hsm; cases hsm
                have hv : letB (byteAt s k) k = true := by rw [byteAt_eq hlt]; unfold letB; rw [hsm, hdg, decide_eq_false hk0]; rfl
                have HV := Lib.hid hv
                clear hv
                go_wp2_with (first | (go_at_call 35; refine (small_s _ _).mono ?_; rintro e w' ⟨rfl, rfl⟩) | (go_at_call 36; refine (digit_s _ _).mono ?_; rintro e w' ⟨rfl, rfl⟩))
                go_round
                case rel => exact ⟨k + 1, by omega, by go_num, by simp only [Hid, allL, HA.out, HV.out, Bool.and_self]⟩
                case measure => simp [intOf]; omega
            · have hv : letB (byteAt s k) k = true := by rw [byteAt_eq hlt]; unfold letB; rw [hsm]; rfl
              have HV := Lib.hid hv
              clear hv
              go_wp2_with (first | (go_at_call 35; refine (small_s _ _).mono ?_; rintro e w' ⟨rfl, rfl⟩) | (go_at_call 36; refine (digit_s _ _).mono ?_; rintro e w' ⟨rfl, rfl⟩))
              go_round
              case rel => exact ⟨k + 1, by omega, by go_num, by simp only [Hid, allL, HA.out, HV.out, Bool.and_self]⟩
              case measure => simp [intOf]; omega
          · obtain rfl : k = s.size := by omega
            go_wp2
            go_ret
            exact ⟨by rw [HE.out, HA.out]; rfl, rfl⟩

theorem smB_high {c : Int} (h : 128 ≤ c) : smB c = false := by unfold smB; rw [decide_eq_false (by omega : ¬ c ≤ 122)]; simp
theorem dgB_high {c : Int} (h : 128 ≤ c) : dgB c = false := by unfold dgB; rw [decide_eq_false (by omega : ¬ c ≤ 57)]; simp

set_option maxHeartbeats 2000000 in
theorem isName_i (s : ByteArray) (w : World) (hs : s.size ≤ maxLen) :
    Calls Try.prog 13 #[.string s] w fun e w' => e = .returned (.bool (nameB s)) ∧ Below w.heap.size w w' := by
  unfold maxLen at hs
  by_cases h0 : s.size = 0
  · have hf : nameB s = false := by unfold nameB; rw [decide_eq_false (by omega)]; rfl
    obtain ⟨d⟩ := s
    obtain rfl : d = #[] := Array.eq_empty_of_size_eq_zero h0
    rw [hf]
    go_enter Try.func13, Try.ntmps13
    go_wp2
    go_ret
    exact ⟨rfl, Below.refl _ _⟩
  · have hne : ¬ s.toList = [] := by
      rw [ByteArray.toList_eq]
      intro h
      exact h0 (by show s.data.size = 0; rw [← Array.length_toList, h]; rfl)
    have hne' : s.toList.isEmpty = false := by cases h : s.toList with
      | nil => exact absurd h hne
      | cons a l => rfl
    by_cases h12 : 12 < s.size
    · have hf : nameB s = false := by unfold nameB; rw [decide_eq_false (by omega : ¬ s.size ≤ 12)]; simp
      rw [hf]
      have h12' : (12 : Int) < (s.size : Int) := by omega
      clear hf
      go_enter Try.func13, Try.ntmps13
      go_wp2
      go_ret
      exact ⟨rfl, Below.refl _ _⟩
    · have h12' : ¬ (12 : Int) < (s.size : Int) := by omega
      have hpos : 0 < s.size := by omega
      have he : nameB s = allL s s.size := by unfold nameB; rw [decide_eq_true hpos, decide_eq_true (by omega : s.size ≤ 12)]; rfl
      have HE := Lib.hid he
      clear he
      go_enter Try.func13, Try.ntmps13
      go_wp2_with fail
      go_loopw [3] (fun _ wr => ∃ pos : Nat, pos ≤ s.size ∧ wr = w.iter s pos ∧ Hid (allL s pos = true)) (fun _ wr => s.size - wr.iterPos w.heap.size)
      case atStart => exact ⟨0, by omega, rfl, rfl⟩
      case round =>
        obtain ⟨k, hk, rfl, HA⟩ := hrel
        by_cases hlt : k < s.size
        · by_cases hasc : ((s[k]'hlt).toNat) < 128
          · have hnx : ∀ ty, (Instr.next (.pointer (some ⟨w.heap.size, 0, none⟩)) true ty).run Try.prog (w.iter s k) = _ := fun ty => run_next_ascii w s k ty hlt hasc
            cases hsm : smB ((s[k]'hlt).toNat : Int)
            · by_cases hk0 : k = 0
              · have hv : letB (byteAt s k) k = false := by rw [byteAt_eq hlt]; unfold letB; rw [hsm, decide_eq_true hk0]; rfl
                have HF := Lib.hid (show nameB s = false by rw [HE.out]; exact allL_no hlt hv)
                have e1 : ((k : Int) == 0) = true := by simp [hk0]
                clear hv hk0
                go_wp2_with (first | (go_at_call 37; refine (small_i _ _).mono ?_; rintro e w' ⟨rfl, rfl⟩) | (go_at_call 38; refine (digit_i _ _).mono ?_; rintro e w' ⟨rfl, rfl⟩))
                go_ret
                exact ⟨by rw [HF.out]; rfl, (Below.refl _ _).alloc (Nat.le_refl _) _⟩
              · have e1 : ((k : Int) == 0) = false := by simp [hk0]
                cases hdg : dgB ((s[k]'hlt).toNat : Int)
                · by_cases h45 : ((s[k]'hlt).toNat : Int) = 45
                  · have hv : letB (byteAt s k) k = true := by rw [byteAt_eq hlt]; unfold letB; rw [hsm, hdg, decide_eq_false hk0, decide_eq_true h45]; rfl
                    have HV := Lib.hid hv
                    have h45' : (((s[k]'hlt).toNat : Int) == 45) = true := by simpa using h45
                    have h45'' : (((s[k]'hlt).toNat : Int) != 45) = false := by simpa using h45
                    clear hv h45 hk0
                    go_wp2_with (first | (go_at_call 37; refine (small_i _ _).mono ?_; rintro e w' ⟨rfl, rfl⟩) | (go_at_call 38; refine (digit_i _ _).mono ?_; rintro e w' ⟨rfl, rfl⟩))
                    go_roundw
                    case rel => exact ⟨k + 1, by omega, rfl, by simp only [Hid, allL, HA.out, HV.out, Bool.and_self]⟩
                    case measure => simp; omega
                  · have hv : letB (byteAt s k) k = false := by rw [byteAt_eq hlt]; unfold letB; rw [hsm, hdg, decide_eq_false h45]; simp
                    have HF := Lib.hid (show nameB s = false by rw [HE.out]; exact allL_no hlt hv)
                    have h45' : (((s[k]'hlt).toNat : Int) == 45) = false := by simpa using h45
                    have h45'' : (((s[k]'hlt).toNat : Int) != 45) = true := by simpa using h45
                    clear hv h45 hk0
                    go_wp2_with (first | (go_at_call 37; refine (small_i _ _).mono ?_; rintro e w' ⟨rfl, rfl⟩) | (go_at_call 38; refine (digit_i _ _).mono ?_; rintro e w' ⟨rfl, rfl⟩))
                    go_ret
                    exact ⟨by rw [HF.out]; rfl, (Below.refl _ _).alloc (Nat.le_refl _) _⟩
                · have hv : letB (byteAt s k) k = true := by rw [byteAt_eq hlt]; unfold letB; rw [hsm, hdg, decide_eq_false hk0]; rfl
                  have HV := Lib.hid hv
                  clear hv hk0
                  go_wp2_with (first | (go_at_call 37; refine (small_i _ _).mono ?_; rintro e w' ⟨rfl, rfl⟩) | (go_at_call 38; refine (digit_i _ _).mono ?_; rintro e w' ⟨rfl, rfl⟩))
                  go_roundw
                  case rel => exact ⟨k + 1, by omega, rfl, by simp only [Hid, allL, HA.out, HV.out, Bool.and_self]⟩
                  case measure => simp; omega
            · have hv : letB (byteAt s k) k = true := by rw [byteAt_eq hlt]; unfold letB; rw [hsm]; rfl
              have HV := Lib.hid hv
              clear hv
              go_wp2_with (first | (go_at_call 37; refine (small_i _ _).mono ?_; rintro e w' ⟨rfl, rfl⟩) | (go_at_call 38; refine (digit_i _ _).mono ?_; rintro e w' ⟨rfl, rfl⟩))
              go_roundw
              case rel => exact ⟨k + 1, by omega, rfl, by simp only [Hid, allL, HA.out, HV.out, Bool.and_self]⟩
              case measure => simp; omega
          · have hnx : ∀ ty, (Instr.next (.pointer (some ⟨w.heap.size, 0, none⟩)) true ty).run Try.prog (w.iter s k) = _ := fun ty => run_next_any w s k ty hlt
            have hd := (decode_high s k hlt (by omega)).1
            have hv : letB (byteAt s k) k = false := by
              rw [byteAt_eq hlt]
              unfold letB
              rw [smB_high (by omega), dgB_high (by omega), decide_eq_false (by omega : ¬ ((s[k]'hlt).toNat : Int) = 45)]
              simp
            have HF := Lib.hid (show nameB s = false by rw [HE.out]; exact allL_no hlt hv)
            generalize hr : (Utf8.decode s k).1 = r at *
            generalize hq : (Utf8.decode s k).2 = q at *
            have hsm : smB (r : Int) = false := smB_high (by omega)
            have hdg : dgB (r : Int) = false := dgB_high (by omega)
            have h45' : ((r : Int) == 45) = false := by simp; omega
            have h45'' : ((r : Int) != 45) = true := by simp; omega
            clear hv hr hq
            by_cases hk0 : k = 0
            · have e1 : ((k : Int) == 0) = true := by simp [hk0]
              clear hk0
              go_wp2_with (first | (go_at_call 37; refine (small_i _ _).mono ?_; rintro e w' ⟨rfl, rfl⟩) | (go_at_call 38; refine (digit_i _ _).mono ?_; rintro e w' ⟨rfl, rfl⟩))
              go_ret
              exact ⟨by rw [HF.out]; rfl, (Below.refl _ _).alloc (Nat.le_refl _) _⟩
            · have e1 : ((k : Int) == 0) = false := by simp [hk0]
              clear hk0
              go_wp2_with (first | (go_at_call 37; refine (small_i _ _).mono ?_; rintro e w' ⟨rfl, rfl⟩) | (go_at_call 38; refine (digit_i _ _).mono ?_; rintro e w' ⟨rfl, rfl⟩))
              go_ret
              exact ⟨by rw [HF.out]; rfl, (Below.refl _ _).alloc (Nat.le_refl _) _⟩
        · have hnx : ∀ ty, (Instr.next (.pointer (some ⟨w.heap.size, 0, none⟩)) true ty).run Try.prog (w.iter s k) = _ := fun ty => run_next_end w s k ty hlt
          obtain rfl : k = s.size := by omega
          go_wp2
          go_ret
          exact ⟨by rw [HE.out, HA.out]; rfl, (Below.refl _ _).alloc (Nat.le_refl _) _⟩

end Go.Proofs.Ytmaakconbaiagaa.name
