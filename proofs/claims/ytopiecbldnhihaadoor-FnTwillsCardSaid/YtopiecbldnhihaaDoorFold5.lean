/-
  A slice of whole numbers that the call itself appends to, as a row; the places at which a test holds.
  The model's cutting of a text at a byte.
-/
import Derived.Test.YtopiecbldnhihaaDoorMem
import Derived.OwnWalk
import Derived.Laws.Strings2
import Derived.Laws.Strings3
import Derived.Lib.Strings
namespace Go.Proofs.YtopiecbldnhihaaDoor.mem
open Go.ChangeShapes Go.WideShapes Go.ChangeAt Go.RowKit
set_option linter.unusedVariables false

theorem row_of_owns {w : World} {B n : Nat} {E : TypeId} {v : Value} {l : List Int} (h : w.ownsRow B E 1 v n (l.map (Value.int .i64))) :
    ∃ A c, v = .slice A n c ∧ n ≤ c ∧ c ≤ maxLen ∧ Row w B w.heap.size A n 1 E (fun j => l.getD j 0) := by
  obtain ⟨hl, h⟩ := h
  rcases h with ⟨rfl, rfl⟩ | ⟨g, cap, cur, rfl, hB, hh, hc, hm, hs, ht⟩
  · exact ⟨none, 0, rfl, Nat.le_refl _, by unfold maxLen; omega, Row.none_⟩
  · refine ⟨_, _, rfl, hc, hm, fun hn => ⟨g, rfl, hB, ?_, cur, hh, by omega, fun i hi => ?_⟩⟩
    · obtain ⟨hlt, _⟩ := Array.getElem?_eq_some_iff.1 hh
      exact hlt
    · have hi' : i < l.length := by rw [List.length_map] at hl; omega
      have e1 : cur[i]? = cur.toList[i]? := by simp
      have e2 : cur.toList[i]? = (cur.toList.take (n * 1))[i]? := by rw [List.getElem?_take_of_lt hi]
      rw [e1, e2, ht, List.getElem?_map, List.getElem?_eq_getElem hi']
      simp [List.getD, List.getElem?_eq_getElem hi']

/-- the places below n at which p holds, in ascending order -/
def idxs (p : Nat → Bool) : Nat → List Int
  | 0 => []
  | n + 1 => idxs p n ++ (if p n then [(n : Int)] else [])
theorem idxs_len (p : Nat → Bool) : ∀ n, (idxs p n).length ≤ n
  | 0 => Nat.le_refl _
  | n + 1 => by
    have := idxs_len p n
    unfold idxs
    rw [List.length_append]
    split <;> simp <;> omega
theorem idxs_yes {p : Nat → Bool} {n : Nat} (h : p n = true) : idxs p (n + 1) = idxs p n ++ [(n : Int)] := by
  show idxs p n ++ _ = _; rw [if_pos h]
theorem idxs_no {p : Nat → Bool} {n : Nat} (h : p n = false) : idxs p (n + 1) = idxs p n := by
  show idxs p n ++ _ = _; rw [h]; simp

/-- an owned slice with one number more -/
theorem owns_nil (w : World) (B : Nat) (E : TypeId) : w.ownsRow B E 1 (.slice none 0 0) 0 (([] : List Int).map (Value.int .i64)) := ⟨rfl, .inl ⟨rfl, rfl⟩⟩

theorem owns_empty (w : World) (B : Nat) (E : TypeId) (hB : B ≤ w.heap.size) : (w.alloc (Obj.cells #[] E)).ownsRow B E 1 (.slice (some ⟨w.heap.size, 0, none⟩) 0 0) 0 (([] : List Int).map (Value.int .i64)) :=
  ⟨rfl, .inr ⟨w.heap.size, 0, #[], rfl, hB, Go.Deep.blk_alloc_new _ _, Nat.le_refl _, by unfold maxLen; omega, rfl, rfl⟩⟩

theorem owns_block {w : World} {B n size : Nat} {E : TypeId} {v : Value} {xs : List Value} (h : w.ownsRow B E size v n xs) : ∀ g, v.ownBlock = some g → B ≤ g := by
  intro g hg
  rcases h.2 with ⟨rfl, _⟩ | ⟨g', cap, cur, rfl, hB, _⟩
  · simp [Value.ownBlock] at hg
  · simp [Value.ownBlock] at hg
    omega
theorem owns_snoc {w : World} {B : Nat} {E : TypeId} {v : Value} {l : List Int} {k : Int} (h : w.ownsRow B E 1 v (l.length + 1) (l.map (Value.int .i64) ++ [.int .i64 k])) :
    w.ownsRow B E 1 v (l ++ [k]).length ((l ++ [k]).map (Value.int .i64)) := by
  simpa using h

/-- the answer is an owned slice of numbers, and a code -/
def NumsCode (w : World) (E : TypeId) (l : List Int) (code : Int) (e : Ending) (w' : World) : Prop :=
  ∃ A c, e = .returned (.tuple #[.slice A l.length c, .int .i64 code]) ∧ l.length ≤ c ∧ c ≤ maxLen ∧ Row w' w.heap.size w'.heap.size A l.length 1 E (fun j => l.getD j 0) ∧ Below w.heap.size w w'

end Go.Proofs.YtopiecbldnhihaaDoor.mem

namespace Go.Proofs.YtopiecbldnhihaaDoor.split
open Go.ChangeShapes Go.WideShapes Go.ChangeAt Go.RowKit
open Go.Proofs.YtopiecbldnhihaaDoor.mem
set_option linter.unusedVariables false

/-- the parts of l between the bytes d; cur was read of the first part -/
def splitA (d : UInt8) (cur : List UInt8) : List UInt8 → List (List UInt8)
  | [] => [cur]
  | c :: r => if c = d then cur :: splitA d [] r else splitA d (cur ++ [c]) r
def split (d : UInt8) (l : List UInt8) : List (List UInt8) := splitA d [] l
def strV (p : List UInt8) : Value := .string ⟨p.toArray⟩
theorem getB (s : ByteArray) (k : Nat) (h : k < s.size) : s.data.toList[k]? = some (s[k]'h) := by
  have h' : k < s.data.size := h
  rw [Array.getElem?_toList, Array.getElem?_eq_getElem h']
  rfl
theorem size_len (s : ByteArray) : s.data.toList.length = s.size := by
  show s.data.toList.length = s.data.size
  exact Array.length_toList
theorem drop_at (s : ByteArray) (k : Nat) (h : k < s.size) : s.data.toList.drop k = (s[k]'h) :: s.data.toList.drop (k + 1) := by
  have hl : k < s.data.toList.length := by rw [size_len]; exact h
  rw [List.drop_eq_getElem_cons hl]
  have := getB s k h
  rw [List.getElem?_eq_getElem hl] at this
  rw [Option.some.inj this]
theorem take_at (s : ByteArray) (f k : Nat) (hf : f ≤ k) (h : k < s.size) : (s.data.toList.drop f).take (k + 1 - f) = (s.data.toList.drop f).take (k - f) ++ [s[k]'h] := by
  rw [show k + 1 - f = (k - f) + 1 by omega, List.take_add_one, List.getElem?_drop, show f + (k - f) = k by omega, getB s k h]
  rfl
theorem extract_eq (s : ByteArray) (a b : Nat) : s.extract a b = ⟨((s.data.toList.drop a).take (b - a)).toArray⟩ := by
  apply ByteArray.ext
  apply Array.ext'
  rw [Lib.extract_data]
theorem info_str : (Tryd.prog.info? 9).map (fun i => (i.zero, i.size, i.bytes)) = some (some (.string ByteArray.empty), 1, 16) := by kernel_rfl
theorem splitA_ne (d : UInt8) (l : List UInt8) : ∀ cur, splitA d cur l ≠ [] := by
  induction l with
  | nil => intro cur h; cases h
  | cons c r ih =>
    intro cur
    unfold splitA
    split
    · intro h; cases h
    · exact ih _
theorem owns_mt (w : World) (B : Nat) (E : TypeId) (hB : B ≤ w.heap.size) : (w.alloc (Obj.cells #[] E)).ownsRow B E 1 (.slice (some ⟨w.heap.size, 0, none⟩) 0 0) 0 (([] : List (List UInt8)).map strV) :=
  ⟨rfl, .inr ⟨w.heap.size, 0, #[], rfl, hB, Go.Deep.blk_alloc_new _ _, Nat.le_refl _, by unfold maxLen; omega, rfl, rfl⟩⟩
theorem owns_sn {w : World} {B : Nat} {E : TypeId} {v : Value} {l : List (List UInt8)} {k : List UInt8} (h : w.ownsRow B E 1 v (l.length + 1) (l.map strV ++ [strV k])) :
    w.ownsRow B E 1 v (l ++ [k]).length ((l ++ [k]).map strV) := by
  simpa using h

end Go.Proofs.YtopiecbldnhihaaDoor.split
