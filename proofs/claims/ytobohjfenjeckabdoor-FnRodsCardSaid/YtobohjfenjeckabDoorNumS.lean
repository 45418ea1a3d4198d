/-
  The model's reading of a number.
-/
import Derived.Test.YtobohjfenjeckabDoorNum
import Derived.Test.YtobohjfenjeckabDoorDecI
import Derived.Laws.Strings3
namespace Go.Proofs.YtobohjfenjeckabDoor.num
open Go.ChangeShapes Go.WideShapes Go.ChangeAt Go.RowKit
open Go.Proofs.YtobohjfenjeckabDoor.mem Go.Proofs.YtobohjfenjeckabDoor.dec
set_option linter.unusedVariables false

def dgB (c : Int) : Bool := decide (48 ≤ c) && decide (c ≤ 57)
theorem dig_of {c : UInt8} (h : dgB (c.toNat : Int) = true) : dig c := by
  unfold dgB at h
  simp at h
  exact ⟨by omega, by omega⟩
theorem dig_not {c : UInt8} (h : dgB (c.toNat : Int) = false) : ¬ dig c := by
  intro k
  unfold dig at k
  unfold dgB at h
  rw [decide_eq_true (by omega), decide_eq_true (by omega)] at h
  cases h
theorem getB (s : ByteArray) (k : Nat) (h : k < s.size) : s.data.toList[k]? = some (s[k]'h) := by
  have h' : k < s.data.size := h
  rw [Array.getElem?_toList, Array.getElem?_eq_getElem h']
  rfl
theorem memB (s : ByteArray) (k : Nat) (h : k < s.size) : (s[k]'h) ∈ s.data.toList := List.mem_of_getElem? (getB s k h)
theorem take_val (s : ByteArray) (k : Nat) (h : k < s.size) : val 0 (s.data.toList.take (k + 1)) = val 0 (s.data.toList.take k) * 10 + ((s[k]'h).toNat - 48) := by
  rw [List.take_add_one, getB s k h, val_append]
  rfl
theorem take_dig (s : ByteArray) (k : Nat) (h : k < s.size) (hd : ∀ c ∈ s.data.toList.take k, dig c) (hc : dig (s[k]'h)) : ∀ c ∈ s.data.toList.take (k + 1), dig c := by
  intro c hm
  rw [List.take_add_one, getB s k h] at hm
  rcases List.mem_append.1 hm with h1 | h1
  · exact hd c h1
  · rw [Option.toList_some, List.mem_singleton] at h1
    rw [h1]; exact hc
theorem take_lt (s : ByteArray) (k : Nat) (h : k ≤ 17) (hd : ∀ c ∈ s.data.toList.take k, dig c) : val 0 (s.data.toList.take k) < 100000000000000000 := by
  have h1 := val_lt (s.data.toList.take k) 0 hd
  have h2 : (10 : Nat) ^ (s.data.toList.take k).length ≤ 10 ^ 17 := Nat.pow_le_pow_right (by omega) (by rw [List.length_take]; omega)
  have h3 : (10 : Nat) ^ 17 = 100000000000000000 := rfl
  rw [Nat.zero_add, Nat.one_mul] at h1
  omega
theorem size_len (s : ByteArray) : s.data.toList.length = s.size := by
  show s.data.toList.length = s.data.size
  exact Array.length_toList


end Go.Proofs.YtobohjfenjeckabDoor.num
