/-
  The model's reading of a number.
-/
import Derived.Test.YtmaakconbaiagaaDoorNum
import Derived.Test.YtmaakconbaiagaaDoorDecI
import Derived.Laws.Strings3
namespace Go.Proofs.YtmaakconbaiagaaDoor.num
open Go.ChangeShapes Go.WideShapes Go.ChangeAt Go.RowKit
open Go.Proofs.YtmaakconbaiagaaDoor.mem Go.Proofs.YtmaakconbaiagaaDoor.dec
set_option linter.unusedVariables false

def dgB (c : Int) : Bool := decide (48 ≤ c) && decide (c ≤ 57)
set_option maxHeartbeats 1000000 in
theorem digit_s (c : Int) (w : World) :
    Calls Tryd.prog 43 #[.int .u8 c] w fun e w' => e = .returned (.bool (dgB c)) ∧ w = w' := by
  unfold dgB
  by_cases a : 48 ≤ c
  · by_cases b : c ≤ 57
    all_goals
      go_enter Tryd.func43, Tryd.ntmps43
      go_wp2
      go_ret
      exact ⟨by simp [a, b], rfl⟩
  · go_enter Tryd.func43, Tryd.ntmps43
    go_wp2
    go_ret
    exact ⟨by simp; omega, rfl⟩
theorem dig_of {c : UInt8} (h : dgB (c.toNat : Int) = true) : dig c := by
  unfold dgB at h
  simp at h
  exact ⟨by omega, by omega⟩
theorem dig_not {c : UInt8} (h : dgB (c.toNat : Int) = false) : ¬ dig c := by
  intro k
  unfold dig at k
  unfold dgB at h
  rw [decide_eq_true (by omega), decide_eq_true (by omega)] at h
  cases h
theorem getB (s : ByteArray) (k : Nat) (h : k < s.size) : s.data.toList[k]? = some (s[k]'h) := by
  have h' : k < s.data.size := h
  rw [Array.getElem?_toList, Array.getElem?_eq_getElem h']
  rfl
theorem memB (s : ByteArray) (k : Nat) (h : k < s.size) : (s[k]'h) ∈ s.data.toList := List.mem_of_getElem? (getB s k h)
theorem take_val (s : ByteArray) (k : Nat) (h : k < s.size) : val 0 (s.data.toList.take (k + 1)) = val 0 (s.data.toList.take k) * 10 + ((s[k]'h).toNat - 48) := by
  rw [List.take_add_one, getB s k h, val_append]
  rfl
theorem take_dig (s : ByteArray) (k : Nat) (h : k < s.size) (hd : ∀ c ∈ s.data.toList.take k, dig c) (hc : dig (s[k]'h)) : ∀ c ∈ s.data.toList.take (k + 1), dig c := by
  intro c hm
  rw [List.take_add_one, getB s k h] at hm
  rcases List.mem_append.1 hm with h1 | h1
  · exact hd c h1
  · rw [Option.toList_some, List.mem_singleton] at h1
    rw [h1]; exact hc
theorem take_lt (s : ByteArray) (k : Nat) (h : k ≤ 17) (hd : ∀ c ∈ s.data.toList.take k, dig c) : val 0 (s.data.toList.take k) < 100000000000000000 := by
  have h1 := val_lt (s.data.toList.take k) 0 hd
  have h2 : (10 : Nat) ^ (s.data.toList.take k).length ≤ 10 ^ 17 := Nat.pow_le_pow_right (by omega) (by rw [List.length_take]; omega)
  have h3 : (10 : Nat) ^ 17 = 100000000000000000 := rfl
  rw [Nat.zero_add, Nat.one_mul] at h1
  omega
theorem size_len (s : ByteArray) : s.data.toList.length = s.size := by
  show s.data.toList.length = s.data.size
  exact Array.length_toList


set_option maxHeartbeats 8000000 in
theorem number_neg (s t : ByteArray) (hs : s.size ≤ 140737488355328) (h0 : 0 < s.size) (h45 : s[0] = 45) (hsl : ∀ W : World, (Instr.slice 9 (.string s) (some (.int .i64 1)) none none).run Tryd.prog W = .ok (.string t) W) (ht : t.data.toList = body s.data.toList) (hlt : t.size < s.size) (w : World) :
    Calls Tryd.prog 27 #[.string s] w fun e w' => e = .returned (.tuple #[.int .i64 (ans s.data.toList).1, .bool (ans s.data.toList).2]) ∧ Below w.heap.size w w' := by
  have HT := Lib.hid ht
  clear ht
  have hbl : (body s.data.toList).length = t.size := by rw [← HT.out, size_len]
  have HBL := Lib.hid hbl
  clear hbl
  have h0' : (0 : Int) < (s.size : Int) := by omega
  have hne : ¬ s.toList = [] := by
    rw [ByteArray.toList_eq]
    intro h
    have := size_len s
    rw [h] at this
    simp at this; omega
  have hne' : s.toList.isEmpty = false := by
    cases h : s.toList with
    | nil => exact absurd h hne
    | cons a l => rfl
  have h45' : (((s[0]'h0).toNat : Int) == 45) = true := by rw [h45]; rfl
  have hlt' : (t.size : Int) < (s.size : Int) := by omega
  by_cases h1 : t.size < 1 ∨ 18 < t.size
  · have hn : ans s.data.toList = (0, false) := ans_no (fun h => by have := h.len; rw [HBL.out] at this; omega)
    rw [hn]
    clear hn
    by_cases h2 : t.size < 1
    · have h2' : (t.size : Int) < 1 := by omega
      clear h1
      go_enter Tryd.func27, Tryd.ntmps27
      go_wp2
      go_ret2
      exact ⟨rfl, Below.refl _ _⟩
    · have h2' : ¬ (t.size : Int) < 1 := by omega
      have h3' : (18 : Int) < (t.size : Int) := by omega
      clear h1
      go_enter Tryd.func27, Tryd.ntmps27
      go_wp2
      go_ret2
      exact ⟨rfl, Below.refl _ _⟩
  · have h2' : ¬ (t.size : Int) < 1 := by omega
    have h3' : ¬ (18 : Int) < (t.size : Int) := by omega
    have H1 := Lib.hid h1
    clear h1
    go_enter Tryd.func27, Tryd.ntmps27
    go_wp2_with fail
    clear h2' h3'
    go_loop [6, 5] (fun a b => ∃ k v : Nat, k ≤ t.size ∧ a = .int .i64 (k : Int) ∧ b = .int .i64 (v : Int) ∧ Hid (v = val 0 (t.data.toList.take k)) ∧ Hid (∀ c ∈ t.data.toList.take k, dig c)) (fun a _ => t.size - (intOf a).toNat)
    case atStart => exact ⟨0, 0, by omega, rfl, rfl, rfl, fun c hc => by simp at hc⟩
    case round =>
      obtain ⟨k, v, hk, rfl, rfl, HV, HD⟩ := hrel
      by_cases hlt2 : k < t.size
      · have hlt' : (k : Int) < (t.size : Int) := by omega
        have hv : v < 100000000000000000 := by rw [HV.out]; exact take_lt t k (by have := H1.out; omega) HD.out
        have hv' : (v : Int) < 100000000000000000 := by omega
        cases hdg : dgB ((t[k]'hlt2).toNat : Int)
        · have hn : ans s.data.toList = (0, false) := ans_no (fun h => dig_not hdg (h.dig _ (by rw [← HT.out]; exact memB t k hlt2)))
          have HN := Lib.hid hn
          clear hn
          go_wp2_with (go_at_call 43; refine (digit_s _ _).mono ?_; rintro e w' ⟨rfl, rfl⟩)
          go_ret2
          exact ⟨by rw [HN.out]; rfl, Below.refl _ _⟩
        · have hd := dig_of hdg
          have hv1 := take_val t k hlt2
          have hd1 := take_dig t k hlt2 HD.out hd
          unfold dig at hd
          have HV1 := Lib.hid hv1
          have HD1 := Lib.hid hd1
          have c1 : (48 : Int) ≤ ((t[k]'hlt2).toNat : Int) := by omega
          have c2 : ((t[k]'hlt2).toNat : Int) ≤ 57 := by omega
          clear hv1 hd1 hd
          go_wp2_with (go_at_call 43; refine (digit_s _ _).mono ?_; rintro e w' ⟨rfl, rfl⟩)
          go_round
          case rel => exact ⟨k + 1, v * 10 + ((t[k]'hlt2).toNat - 48), by omega, by go_num, by go_num, by rw [Hid, HV1.out, HV.out], HD1.out⟩
          case measure => simp [intOf]; omega
      · obtain rfl : k = t.size := by omega
        have htk : t.data.toList.take t.size = body s.data.toList := by rw [List.take_of_length_le (by rw [size_len]; exact Nat.le_refl _)]; exact HT.out
        have hdd : ∀ c ∈ body s.data.toList, dig c := by rw [← htk]; exact HD.out
        have hsm : small (numOf s.data.toList) := numOf_small (by rw [HBL.out]; have := H1.out; omega) hdd
        have hnum : numOf s.data.toList = -(v : Int) := by
          unfold numOf
          rw [if_pos (by rw [HBL.out, size_len]; exact hlt)]
          rw [HV.out, htk]
        have hb1 : v < 1000000000000000000 := by
          have := hsm.1; have := hsm.2
          rw [hnum] at *
          omega
        obtain ⟨A, hA⟩ : ∃ A : ByteArray, A = ⟨(Lib.itoa (numOf s.data.toList)).toArray⟩ := ⟨_, rfl⟩
        have hc : ∀ W, Calls Tryd.prog 25 #[.int .i64 (-(v : Int))] W fun e w' => e = .returned (.string A) ∧ Below W.heap.size W w' := fun W => by
          rw [hA, hnum]
          exact dec_s _ (by omega) (by omega) W
        have HC := Lib.hid hc
        have hAl : A.data.toList = Lib.itoa (numOf s.data.toList) := by rw [hA]
        clear hc htk hA
        by_cases hq : Lib.itoa (numOf s.data.toList) = s.data.toList
        · have hn : ans s.data.toList = (-(v : Int), true) := by rw [ans_yes hsm hq, hnum]
          have HN := Lib.hid hn
          have e1 : (A.toList == s.toList) = true := by rw [ByteArray.toList_eq, ByteArray.toList_eq, hAl, hq]; simp
          have e2 : (A.toList != s.toList) = false := by rw [bne, e1]; rfl
          clear hn hAl hq hnum hsm hdd
          go_wp2_with fail
          refine (HC.out _).mono ?_
          rintro e w1 ⟨rfl, b1⟩
          have B1 := Lib.hid b1
          clear b1
          go_wp2
          go_ret2
          exact ⟨by rw [HN.out]; rfl, B1.out⟩
        · have hn : ans s.data.toList = (0, false) := ans_no (no_of_ne hq)
          have HN := Lib.hid hn
          have e1 : (A.toList == s.toList) = false := by rw [ByteArray.toList_eq, ByteArray.toList_eq, hAl]; simpa using hq
          have e2 : (A.toList != s.toList) = true := by rw [bne, e1]; rfl
          clear hn hAl hq hnum hsm hdd
          go_wp2_with fail
          refine (HC.out _).mono ?_
          rintro e w1 ⟨rfl, b1⟩
          have B1 := Lib.hid b1
          clear b1
          go_wp2
          go_ret2
          exact ⟨by rw [HN.out]; rfl, B1.out⟩

set_option maxHeartbeats 8000000 in
theorem number_pos (s : ByteArray) (hs : s.size ≤ 140737488355328) (h0 : 0 < s.size) (h45 : ¬ s[0] = 45) (ht : s.data.toList = body s.data.toList)  (w : World) :
    Calls Tryd.prog 27 #[.string s] w fun e w' => e = .returned (.tuple #[.int .i64 (ans s.data.toList).1, .bool (ans s.data.toList).2]) ∧ Below w.heap.size w w' := by
  have HT := Lib.hid ht
  clear ht
  have hbl : (body s.data.toList).length = s.size := by rw [← HT.out, size_len]
  have HBL := Lib.hid hbl
  clear hbl
  have h0' : (0 : Int) < (s.size : Int) := by omega
  have hne : ¬ s.toList = [] := by
    rw [ByteArray.toList_eq]
    intro h
    have := size_len s
    rw [h] at this
    simp at this; omega
  have hne' : s.toList.isEmpty = false := by
    cases h : s.toList with
    | nil => exact absurd h hne
    | cons a l => rfl
  have h45' : (((s[0]'h0).toNat : Int) == 45) = false := by
    simp
    intro h
    exact h45 (UInt8.toNat_inj.1 (by have : (45 : UInt8).toNat = 45 := rfl; omega))
  by_cases h1 : s.size < 1 ∨ 18 < s.size
  · have hn : ans s.data.toList = (0, false) := ans_no (fun h => by have := h.len; rw [HBL.out] at this; omega)
    rw [hn]
    clear hn
    by_cases h2 : s.size < 1
    · have h2' : (s.size : Int) < 1 := by omega
      clear h1
      go_enter Tryd.func27, Tryd.ntmps27
      go_wp2
      go_ret2
      exact ⟨rfl, Below.refl _ _⟩
    · have h2' : ¬ (s.size : Int) < 1 := by omega
      have h3' : (18 : Int) < (s.size : Int) := by omega
      clear h1
      go_enter Tryd.func27, Tryd.ntmps27
      go_wp2
      go_ret2
      exact ⟨rfl, Below.refl _ _⟩
  · have h2' : ¬ (s.size : Int) < 1 := by omega
    have h3' : ¬ (18 : Int) < (s.size : Int) := by omega
    have H1 := Lib.hid h1
    clear h1
    go_enter Tryd.func27, Tryd.ntmps27
    go_wp2_with fail
    clear h2' h3'
    go_loop [6, 5] (fun a b => ∃ k v : Nat, k ≤ s.size ∧ a = .int .i64 (k : Int) ∧ b = .int .i64 (v : Int) ∧ Hid (v = val 0 (s.data.toList.take k)) ∧ Hid (∀ c ∈ s.data.toList.take k, dig c)) (fun a _ => s.size - (intOf a).toNat)
    case atStart => exact ⟨0, 0, by omega, rfl, rfl, rfl, fun c hc => by simp at hc⟩
    case round =>
      obtain ⟨k, v, hk, rfl, rfl, HV, HD⟩ := hrel
      by_cases hlt2 : k < s.size
      · have hlt' : (k : Int) < (s.size : Int) := by omega
        have hv : v < 100000000000000000 := by rw [HV.out]; exact take_lt s k (by have := H1.out; omega) HD.out
        have hv' : (v : Int) < 100000000000000000 := by omega
        cases hdg : dgB ((s[k]'hlt2).toNat : Int)
        · have hn : ans s.data.toList = (0, false) := ans_no (fun h => dig_not hdg (h.dig _ (by rw [← HT.out]; exact memB s k hlt2)))
          have HN := Lib.hid hn
          clear hn
          go_wp2_with (go_at_call 43; refine (digit_s _ _).mono ?_; rintro e w' ⟨rfl, rfl⟩)
          go_ret2
          exact ⟨by rw [HN.out]; rfl, Below.refl _ _⟩
        · have hd := dig_of hdg
          have hv1 := take_val s k hlt2
          have hd1 := take_dig s k hlt2 HD.out hd
          unfold dig at hd
          have HV1 := Lib.hid hv1
          have HD1 := Lib.hid hd1
          have c1 : (48 : Int) ≤ ((s[k]'hlt2).toNat : Int) := by omega
          have c2 : ((s[k]'hlt2).toNat : Int) ≤ 57 := by omega
          clear hv1 hd1 hd
          go_wp2_with (go_at_call 43; refine (digit_s _ _).mono ?_; rintro e w' ⟨rfl, rfl⟩)
          go_round
          case rel => exact ⟨k + 1, v * 10 + ((s[k]'hlt2).toNat - 48), by omega, by go_num, by go_num, by rw [Hid, HV1.out, HV.out], HD1.out⟩
          case measure => simp [intOf]; omega
      · obtain rfl : k = s.size := by omega
        have htk : s.data.toList.take s.size = body s.data.toList := by rw [List.take_of_length_le (by rw [size_len]; exact Nat.le_refl _)]; exact HT.out
        have hdd : ∀ c ∈ body s.data.toList, dig c := by rw [← htk]; exact HD.out
        have hsm : small (numOf s.data.toList) := numOf_small (by rw [HBL.out]; have := H1.out; omega) hdd
        have hnum : numOf s.data.toList = (v : Int) := by
          unfold numOf
          rw [if_neg (by rw [HBL.out, size_len]; omega)]
          rw [HV.out, htk]
        have hb1 : v < 1000000000000000000 := by
          have := hsm.1; have := hsm.2
          rw [hnum] at *
          omega
        obtain ⟨A, hA⟩ : ∃ A : ByteArray, A = ⟨(Lib.itoa (numOf s.data.toList)).toArray⟩ := ⟨_, rfl⟩
        have hc : ∀ W, Calls Tryd.prog 25 #[.int .i64 ((v : Int))] W fun e w' => e = .returned (.string A) ∧ Below W.heap.size W w' := fun W => by
          rw [hA, hnum]
          exact dec_s _ (by omega) (by omega) W
        have HC := Lib.hid hc
        have hAl : A.data.toList = Lib.itoa (numOf s.data.toList) := by rw [hA]
        clear hc htk hA
        by_cases hq : Lib.itoa (numOf s.data.toList) = s.data.toList
        · have hn : ans s.data.toList = ((v : Int), true) := by rw [ans_yes hsm hq, hnum]
          have HN := Lib.hid hn
          have e1 : (A.toList == s.toList) = true := by rw [ByteArray.toList_eq, ByteArray.toList_eq, hAl, hq]; simp
          have e2 : (A.toList != s.toList) = false := by rw [bne, e1]; rfl
          clear hn hAl hq hnum hsm hdd
          go_wp2_with fail
          refine (HC.out _).mono ?_
          rintro e w1 ⟨rfl, b1⟩
          have B1 := Lib.hid b1
          clear b1
          go_wp2
          go_ret2
          exact ⟨by rw [HN.out]; rfl, B1.out⟩
        · have hn : ans s.data.toList = (0, false) := ans_no (no_of_ne hq)
          have HN := Lib.hid hn
          have e1 : (A.toList == s.toList) = false := by rw [ByteArray.toList_eq, ByteArray.toList_eq, hAl]; simpa using hq
          have e2 : (A.toList != s.toList) = true := by rw [bne, e1]; rfl
          clear hn hAl hq hnum hsm hdd
          go_wp2_with fail
          refine (HC.out _).mono ?_
          rintro e w1 ⟨rfl, b1⟩
          have B1 := Lib.hid b1
          clear b1
          go_wp2
          go_ret2
          exact ⟨by rw [HN.out]; rfl, B1.out⟩

end Go.Proofs.YtmaakconbaiagaaDoor.num
