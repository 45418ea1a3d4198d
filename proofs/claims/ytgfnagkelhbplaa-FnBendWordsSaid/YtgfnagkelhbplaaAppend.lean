/-
  A slice of whole numbers that the call itself appends to, as a row; the places at which a test holds.
-/
import Derived.Test.YtgfnagkelhbplaaMem
import Derived.OwnWalk
namespace Go.Proofs.Ytgfnagkelhbplaa.mem
open Go.ChangeShapes Go.WideShapes Go.ChangeAt Go.RowKit
set_option linter.unusedVariables false

theorem row_of_owns {w : World} {B n : Nat} {E : TypeId} {v : Value} {l : List Int} (h : w.ownsRow B E 1 v n (l.map (Value.int .i64))) :
    ∃ A c, v = .slice A n c ∧ n ≤ c ∧ c ≤ maxLen ∧ Row w B w.heap.size A n 1 E (fun j => l.getD j 0) := by
  obtain ⟨hl, h⟩ := h
  rcases h with ⟨rfl, rfl⟩ | ⟨g, cap, cur, rfl, hB, hh, hc, hm, hs, ht⟩
  · exact ⟨none, 0, rfl, Nat.le_refl _, by unfold maxLen; omega, Row.none_⟩
  · refine ⟨_, _, rfl, hc, hm, fun hn => ⟨g, rfl, hB, ?_, cur, hh, by omega, fun i hi => ?_⟩⟩
    · obtain ⟨hlt, _⟩ := Array.getElem?_eq_some_iff.1 hh
      exact hlt
    · have hi' : i < l.length := by rw [List.length_map] at hl; omega
      have e1 : cur[i]? = cur.toList[i]? := by simp
      have e2 : cur.toList[i]? = (cur.toList.take (n * 1))[i]? := by rw [List.getElem?_take_of_lt hi]
      rw [e1, e2, ht, List.getElem?_map, List.getElem?_eq_getElem hi']
      simp [List.getD, List.getElem?_eq_getElem hi']

/-- the places below n at which p holds, in ascending order -/
def idxs (p : Nat → Bool) : Nat → List Int
  | 0 => []
  | n + 1 => idxs p n ++ (if p n then [(n : Int)] else [])
theorem idxs_len (p : Nat → Bool) : ∀ n, (idxs p n).length ≤ n
  | 0 => Nat.le_refl _
  | n + 1 => by
    have := idxs_len p n
    unfold idxs
    rw [List.length_append]
    split <;> simp <;> omega
theorem idxs_yes {p : Nat → Bool} {n : Nat} (h : p n = true) : idxs p (n + 1) = idxs p n ++ [(n : Int)] := by
  show idxs p n ++ _ = _; rw [if_pos h]
theorem idxs_no {p : Nat → Bool} {n : Nat} (h : p n = false) : idxs p (n + 1) = idxs p n := by
  show idxs p n ++ _ = _; rw [h]; simp

/-- an owned slice with one number more -/
theorem owns_nil (w : World) (B : Nat) (E : TypeId) : w.ownsRow B E 1 (.slice none 0 0) 0 (([] : List Int).map (Value.int .i64)) := ⟨rfl, .inl ⟨rfl, rfl⟩⟩

theorem owns_empty (w : World) (B : Nat) (E : TypeId) (hB : B ≤ w.heap.size) : (w.alloc (Obj.cells #[] E)).ownsRow B E 1 (.slice (some ⟨w.heap.size, 0, none⟩) 0 0) 0 (([] : List Int).map (Value.int .i64)) :=
  ⟨rfl, .inr ⟨w.heap.size, 0, #[], rfl, hB, Go.Deep.blk_alloc_new _ _, Nat.le_refl _, by unfold maxLen; omega, rfl, rfl⟩⟩

theorem owns_block {w : World} {B n size : Nat} {E : TypeId} {v : Value} {xs : List Value} (h : w.ownsRow B E size v n xs) : ∀ g, v.ownBlock = some g → B ≤ g := by
  intro g hg
  rcases h.2 with ⟨rfl, _⟩ | ⟨g', cap, cur, rfl, hB, _⟩
  · simp [Value.ownBlock] at hg
  · simp [Value.ownBlock] at hg
    omega
theorem owns_snoc {w : World} {B : Nat} {E : TypeId} {v : Value} {l : List Int} {k : Int} (h : w.ownsRow B E 1 v (l.length + 1) (l.map (Value.int .i64) ++ [.int .i64 k])) :
    w.ownsRow B E 1 v (l ++ [k]).length ((l ++ [k]).map (Value.int .i64)) := by
  simpa using h

/-- the answer is an owned slice of numbers, and a code -/
def NumsCode (w : World) (E : TypeId) (l : List Int) (code : Int) (e : Ending) (w' : World) : Prop :=
  ∃ A c, e = .returned (.tuple #[.slice A l.length c, .int .i64 code]) ∧ l.length ≤ c ∧ c ≤ maxLen ∧ Row w' w.heap.size w'.heap.size A l.length 1 E (fun j => l.getD j 0) ∧ Below w.heap.size w w'

end Go.Proofs.Ytgfnagkelhbplaa.mem
