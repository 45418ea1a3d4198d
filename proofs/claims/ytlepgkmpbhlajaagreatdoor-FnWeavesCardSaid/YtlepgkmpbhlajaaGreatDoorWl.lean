/-
  Contracts: the program's longest run; LongestFloat of the model and of the program.
-/
import Derived.Test.YtlepgkmpbhlajaaGreatDoorWn
import Derived.WalkLawsBesides
import Derived.Lib.IndexLaws
import Derived.Shelf.Strings.Search3
namespace Go.Proofs.YtlepgkmpbhlajaaGreatDoor.wk
open Go.ChangeShapes Go.WideShapes Go.ChangeAt Go.RowKit
open Go.Proofs.YtlepgkmpbhlajaaGreatDoor.mem Go.Proofs.YtlepgkmpbhlajaaGreatDoor.rod Go.Proofs.YtlepgkmpbhlajaaGreatDoor.wv
set_option linter.unusedVariables false

/-- the run ahead of k -/
def pr (f : Nat → Int) : Nat → Nat
  | 0 => 0
  | k + 1 => re f k
theorem pr_le (f : Nat → Int) (k : Nat) : pr f k ≤ k := by cases k with
  | zero => exact Nat.le_refl _
  | succ k => exact re_le f k
theorem two_byte (t : ByteArray) {k : Nat} (h : k < (t ++ t).size) : (((t ++ t)[k]'h).toNat : Int) = cyc (byteAt t) t.size k := by
  have hs : (t ++ t).size = t.size + t.size := ByteArray.size_append
  by_cases hk : k < t.size
  · rw [cyc_lt hk, byteAt_eq hk, ByteArray.getElem_append_left hk]
  · rw [cyc_two (by omega) (by omega), byteAt_eq (show k - t.size < t.size by omega), ByteArray.getElem_append_right (by omega)]

theorem iter_drew (w : World) (n q : Nat) (u : ByteArray) (k : Nat) : ((w.drewN n).iter u k).drewN q = (w.drewN (n + q)).iter u k := by
  rw [← World.drewN_drewN]; rfl

theorem iterPos_drew (w : World) (n : Nat) (u : ByteArray) (k : Nat) : ((w.drewN n).iter u k).iterPos w.heap.size = k := World.iterPos_iter (w.drewN n) u k

/-! ### LongestFloat -/
theorem index_mem (l : List UInt8) (c : UInt8) : 0 ≤ Lib.indexByte l c ↔ c ∈ l := by
  induction l with
  | nil => simp [Lib.indexByte]
  | cons b l ih =>
    have hge := Lib.indexByte_ge l c
    unfold Lib.indexByte
    by_cases hb : (b == c) = true
    · rw [if_pos hb]
      have : b = c := by simpa using hb
      simp [this]
    · rw [if_neg hb]
      have hne : ¬ c = b := fun e => hb (by simp [e])
      by_cases h1 : (Lib.indexByte l c == -1) = true
      · rw [if_pos h1]
        have h2 : Lib.indexByte l c = -1 := by simpa using h1
        have h3 : ¬ c ∈ l := fun h => by have := ih.2 h; omega
        simp [hne, h3]
      · rw [if_neg h1]
        have h2 : ¬ Lib.indexByte l c = -1 := fun e => h1 (by simp [e])
        have h3 : c ∈ l := ih.1 (by omega)
        simp [h3]; omega
theorem mem_at (s : ByteArray) (c : UInt8) : c ∈ s.data.toList ↔ ∃ i, i < s.size ∧ byteAt s i = (c.toNat : Int) := by
  constructor
  · intro h
    obtain ⟨i, hi, e⟩ := List.getElem_of_mem h
    have hi' : i < s.size := by simpa using hi
    refine ⟨i, hi', ?_⟩
    rw [byteAt_eq hi', ← e]
    rfl
  · rintro ⟨i, hi, e⟩
    rw [byteAt_eq hi] at e
    have h2 : s[i]'hi = c := UInt8.toNat_inj.1 (by omega)
    rw [← h2]
    exact List.getElem_mem (l := s.data.toList) (by simpa using hi)
/-- the text has the side -/
def hasB (s : ByteArray) (c : UInt8) : Bool := decide (0 ≤ Lib.indexByte s.data.toList c)
theorem hasB_iff (s : ByteArray) (c : UInt8) : hasB s c = true ↔ ∃ i, i < s.size ∧ byteAt s i = (c.toNat : Int) := by
  unfold hasB; rw [decide_eq_true_eq, index_mem, mem_at]
theorem kinds_has {s : ByteArray} (hs : strokeB s = true) : ¬ oneK (byteAt s) s.size ↔ hasB s 70 = true ∧ hasB s 66 = true := by
  obtain ⟨h0, h1, h2⟩ := stroke_of hs
  rw [two_kinds h0 h2, hasB_iff, hasB_iff]
  exact Iff.rfl
/-- the answer of LongestFloat -/
def floatA (s : ByteArray) : Int × Int := if strokeB s = false then (0, 1) else if frun (byteAt s) s.size = 0 then (0, 6) else ((frun (byteAt s) s.size : Nat), 0)
theorem ascii_stroke {s : ByteArray} (hs : strokeB s = true) : ∀ i, i < s.size → byteAt s i < 128 := fun i hi => by
  have := (stroke_of hs).2.2 i hi
  omega
end Go.Proofs.YtlepgkmpbhlajaaGreatDoor.wk
