/-
  Contracts of ValidStroke, of the model's and of the program's.
-/
import Derived.Test.YtakcgeafcecimaaIn
import Derived.Test.YtakcgeafcecimaaWv
import Derived.Test.YtakcgeafcecimaaShelf
import Derived.Shelf.Strings.SlTrimAscii
namespace Go.Proofs.Ytakcgeafcecimaa.wk
open Go.ChangeShapes Go.WideShapes Go.ChangeAt Go.RowKit
open Go.Proofs.Ytakcgeafcecimaa.mem Go.Proofs.Ytakcgeafcecimaa.rod Go.Proofs.Ytakcgeafcecimaa.wv
set_option linter.unusedVariables false

/-- the byte at place i, as a number; 0 behind the end -/
def byteAt (s : ByteArray) (i : Nat) : Int := if h : i < s.size then ((s[i]'h).toNat : Int) else 0
theorem byteAt_eq {s : ByteArray} {i : Nat} (h : i < s.size) : byteAt s i = ((s[i]'h).toNat : Int) := dif_pos h
def fb (c : Int) : Bool := decide (c = 70) || decide (c = 66)
def okTo (s : ByteArray) : Nat → Bool
  | 0 => true
  | k + 1 => okTo s k && fb (byteAt s k)
theorem okTo_iff (s : ByteArray) (k : Nat) : okTo s k = true ↔ ∀ i, i < k → fb (byteAt s i) = true := by
  induction k with
  | zero => exact ⟨fun _ i h => absurd h (by omega), fun _ => rfl⟩
  | succ k ih =>
    simp only [okTo, Bool.and_eq_true, ih]
    constructor
    · rintro ⟨h1, h2⟩ i hi
      by_cases e : i = k
      · rw [e]; exact h2
      · exact h1 i (by omega)
    · exact fun h => ⟨fun i hi => h i (by omega), h k (by omega)⟩
theorem okTo_no {s : ByteArray} {k i : Nat} (hi : i < k) (h : fb (byteAt s i) = false) : okTo s k = false := by
  cases e : okTo s k
  · rfl
  · rw [(okTo_iff s k).1 e i hi] at h; cases h
/-- a stroke -/
def strokeB (s : ByteArray) : Bool := okTo s s.size && inB s.size 1 12
theorem stroke_of {s : ByteArray} (h : strokeB s = true) : 0 < s.size ∧ s.size ≤ 12 ∧ ∀ i, i < s.size → byteAt s i = 70 ∨ byteAt s i = 66 := by
  unfold strokeB at h
  simp only [Bool.and_eq_true] at h
  have h2 := inB_of h.2
  refine ⟨by omega, by omega, fun i hi => ?_⟩
  have := (okTo_iff s s.size).1 h.1 i hi
  unfold fb at this
  simpa using this

theorem dw_nil {α : Type} (p : α → Bool) (l : List α) : l.dropWhile p = [] ↔ ∀ x ∈ l, p x = true := by
  induction l with
  | nil => simp
  | cons a r ih =>
    rw [List.dropWhile_cons]
    cases h : p a
    · simp [h]
    · simp [ih, h]
theorem dw_head {α : Type} (p : α → Bool) (l : List α) {a : α} {r : List α} (h : l.dropWhile p = a :: r) : p a = false := by
  induction l with
  | nil => cases h
  | cons b t ih =>
    rw [List.dropWhile_cons] at h
    split at h
    · exact ih h
    · rename_i hb
      cases h
      simpa using hb
theorem trim_nil (l : List UInt8) : Lib.trimS l [70, 66] = [] ↔ ∀ c ∈ l, c = 70 ∨ c = 66 := by
  have hp : ∀ c : UInt8, ([70, 66] : List UInt8).contains c = true ↔ (c = 70 ∨ c = 66) := fun c => by simp
  unfold Lib.trimS Lib.trimLeftS
  rw [dw_nil]
  constructor
  · intro h
    have h1 : Lib.trimRightS l [70, 66] = [] := by
      cases hd : l.reverse.dropWhile (([70, 66] : List UInt8).contains ·) with
      | nil => unfold Lib.trimRightS; rw [hd]; rfl
      | cons a r =>
        have h2 := dw_head _ _ hd
        have h3 := h a (by unfold Lib.trimRightS; rw [hd]; simp)
        rw [h3] at h2
        cases h2
    unfold Lib.trimRightS at h1
    have h2 := (dw_nil _ _).1 (List.reverse_eq_nil_iff.1 h1)
    intro c hc
    exact (hp c).1 (h2 c (List.mem_reverse.2 hc))
  · intro h c hc
    refine (hp c).2 (h c ?_)
    unfold Lib.trimRightS at hc
    exact List.mem_reverse.1 ((List.dropWhile_sublist _).subset (List.mem_reverse.1 hc))
theorem ok_mem (s : ByteArray) : okTo s s.size = true ↔ ∀ c ∈ s.data.toList, c = 70 ∨ c = 66 := by
  rw [okTo_iff]
  have key : ∀ i (h : i < s.size), (fb (byteAt s i) = true ↔ (s[i]'h = 70 ∨ s[i]'h = 66)) := fun i h => by
    rw [byteAt_eq h]
    unfold fb
    rw [Bool.or_eq_true, decide_eq_true_eq, decide_eq_true_eq]
    have c1 : ((s[i]'h).toNat : Int) = 70 ↔ s[i]'h = 70 := ⟨fun e => UInt8.toNat_inj.1 (by show _ = 70; omega), fun e => by rw [e]; rfl⟩
    have c2 : ((s[i]'h).toNat : Int) = 66 ↔ s[i]'h = 66 := ⟨fun e => UInt8.toNat_inj.1 (by show _ = 66; omega), fun e => by rw [e]; rfl⟩
    rw [c1, c2]
  constructor
  · intro h c hc
    obtain ⟨i, hi, rfl⟩ := List.getElem_of_mem hc
    have hi' : i < s.size := by simpa using hi
    exact (key i hi').1 (h i hi')
  · intro h i hi
    exact (key i hi).2 (h _ (List.getElem_mem (l := s.data.toList) (by simpa using hi)))

end Go.Proofs.Ytakcgeafcecimaa.wk
