/-
  The model's cutting of a text at a byte.
-/
import Derived.Test.YtgfnagkelhbplaaAppend
import Derived.Laws.Strings2
import Derived.Laws.Strings3
import Derived.Lib.Strings
namespace Go.Proofs.Ytgfnagkelhbplaa.split
open Go.ChangeShapes Go.WideShapes Go.ChangeAt Go.RowKit
open Go.Proofs.Ytgfnagkelhbplaa.mem
set_option linter.unusedVariables false

/-- the parts of l between the bytes d; cur was read of the first part -/
def splitA (d : UInt8) (cur : List UInt8) : List UInt8 → List (List UInt8)
  | [] => [cur]
  | c :: r => if c = d then cur :: splitA d [] r else splitA d (cur ++ [c]) r
def split (d : UInt8) (l : List UInt8) : List (List UInt8) := splitA d [] l
def strV (p : List UInt8) : Value := .string ⟨p.toArray⟩
theorem getB (s : ByteArray) (k : Nat) (h : k < s.size) : s.data.toList[k]? = some (s[k]'h) := by
  have h' : k < s.data.size := h
  rw [Array.getElem?_toList, Array.getElem?_eq_getElem h']
  rfl
theorem size_len (s : ByteArray) : s.data.toList.length = s.size := by
  show s.data.toList.length = s.data.size
  exact Array.length_toList
theorem drop_at (s : ByteArray) (k : Nat) (h : k < s.size) : s.data.toList.drop k = (s[k]'h) :: s.data.toList.drop (k + 1) := by
  have hl : k < s.data.toList.length := by rw [size_len]; exact h
  rw [List.drop_eq_getElem_cons hl]
  have := getB s k h
  rw [List.getElem?_eq_getElem hl] at this
  rw [Option.some.inj this]
theorem take_at (s : ByteArray) (f k : Nat) (hf : f ≤ k) (h : k < s.size) : (s.data.toList.drop f).take (k + 1 - f) = (s.data.toList.drop f).take (k - f) ++ [s[k]'h] := by
  rw [show k + 1 - f = (k - f) + 1 by omega, List.take_add_one, List.getElem?_drop, show f + (k - f) = k by omega, getB s k h]
  rfl
theorem extract_eq (s : ByteArray) (a b : Nat) : s.extract a b = ⟨((s.data.toList.drop a).take (b - a)).toArray⟩ := by
  apply ByteArray.ext
  apply Array.ext'
  rw [Lib.extract_data]
theorem info_str : (Try.prog.info? 9).map (fun i => (i.zero, i.size, i.bytes)) = some (some (.string ByteArray.empty), 1, 16) := by kernel_rfl
theorem splitA_ne (d : UInt8) (l : List UInt8) : ∀ cur, splitA d cur l ≠ [] := by
  induction l with
  | nil => intro cur h; cases h
  | cons c r ih =>
    intro cur
    unfold splitA
    split
    · intro h; cases h
    · exact ih _
theorem owns_mt (w : World) (B : Nat) (E : TypeId) (hB : B ≤ w.heap.size) : (w.alloc (Obj.cells #[] E)).ownsRow B E 1 (.slice (some ⟨w.heap.size, 0, none⟩) 0 0) 0 (([] : List (List UInt8)).map strV) :=
  ⟨rfl, .inr ⟨w.heap.size, 0, #[], rfl, hB, Go.Deep.blk_alloc_new _ _, Nat.le_refl _, by unfold maxLen; omega, rfl, rfl⟩⟩
theorem owns_sn {w : World} {B : Nat} {E : TypeId} {v : Value} {l : List (List UInt8)} {k : List UInt8} (h : w.ownsRow B E 1 v (l.length + 1) (l.map strV ++ [strV k])) :
    w.ownsRow B E 1 v (l ++ [k]).length ((l ++ [k]).map strV) := by
  simpa using h

end Go.Proofs.Ytgfnagkelhbplaa.split
