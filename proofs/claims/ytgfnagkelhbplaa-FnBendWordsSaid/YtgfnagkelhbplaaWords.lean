/-
  The words of a text: the model's.
-/
import Derived.Test.YtgfnagkelhbplaaSplit
import Derived.Handy
import Derived.Lib.Hide
namespace Go.Proofs.Ytgfnagkelhbplaa.split
open Go.ChangeShapes Go.WideShapes Go.ChangeAt Go.RowKit
open Go.Proofs.Ytgfnagkelhbplaa.mem
set_option linter.unusedVariables false

theorem owns_parts {w : World} {B : Nat} {E : TypeId} {v : Value} {ps : List (List UInt8)} (h : w.ownsRow B E 1 v ps.length (ps.map strV)) (hne : ps ≠ []) :
    ∃ g cap, v = .slice (some ⟨g, 0, none⟩) ps.length cap ∧ B ≤ g ∧ g < w.heap.size ∧ ps.length ≤ cap ∧ cap ≤ maxLen ∧ ∀ j p, ps[j]? = some p → w.cell? ⟨g, j, none⟩ = some (.string ⟨p.toArray⟩) := by
  obtain ⟨hl, h⟩ := h
  rcases h with ⟨rfl, h0⟩ | ⟨g, cap, cur, rfl, hB, hh, hc, hm, hs, ht⟩
  · exact absurd (List.eq_nil_of_length_eq_zero h0) hne
  · refine ⟨g, cap, rfl, hB, ?_, hc, hm, fun j p hj => ?_⟩
    · obtain ⟨hlt, _⟩ := Array.getElem?_eq_some_iff.1 hh
      exact hlt
    · have hj1 : j < ps.length := (List.getElem?_eq_some_iff.1 hj).1
      have e2 : cur.toList[j]? = (cur.toList.take (ps.length * 1))[j]? := by rw [List.getElem?_take_of_lt (by omega)]
      have e3 : cur[j]? = some (strV p) := by
        rw [← Array.getElem?_toList, e2, ht, List.getElem?_map, hj]
        rfl
      simp [World.cell?, hh, e3]
      rfl
theorem split_count (d : UInt8) (l : List UInt8) : ∀ cur, (splitA d cur l).length ≤ l.length + 1 := by
  induction l with
  | nil => intro cur; simp [splitA]
  | cons c r ih =>
    intro cur
    rw [splitA]
    split
    · have := ih []
      simp only [List.length_cons]
      omega
    · have := ih (cur ++ [c])
      simp only [List.length_cons]
      omega
def full (p : List UInt8) : Bool := !p.isEmpty
/-- the words of a text: the parts between blanks that are not empty -/
def words (l : List UInt8) : List (List UInt8) := (split 32 l).filter full
theorem full_yes {ps : List (List UInt8)} {k : Nat} {p : List UInt8} (hp : ps[k]? = some p) (h : full p = true) : (ps.take (k + 1)).filter full = (ps.take k).filter full ++ [p] := by
  rw [List.take_add_one, hp, List.filter_append]
  simp [h]
theorem full_no {ps : List (List UInt8)} {k : Nat} {p : List UInt8} (hp : ps[k]? = some p) (h : full p = false) : (ps.take (k + 1)).filter full = (ps.take k).filter full := by
  rw [List.take_add_one, hp, List.filter_append]
  simp [h]
theorem full_len (ps : List (List UInt8)) (k : Nat) : ((ps.take k).filter full).length ≤ ps.length :=
  Nat.le_trans (List.length_filter_le _ _) (by rw [List.length_take]; omega)
theorem owns_lower {w : World} {B B' n size : Nat} {E : TypeId} {v : Value} {xs : List Value} (h : w.ownsRow B E size v n xs) (hb : B' ≤ B) : w.ownsRow B' E size v n xs := by
  obtain ⟨hl, h⟩ := h
  rcases h with h | ⟨g, cap, cur, e, hB, r⟩
  · exact ⟨hl, .inl h⟩
  · exact ⟨hl, .inr ⟨g, cap, cur, e, Nat.le_trans hb hB, r⟩⟩

end Go.Proofs.Ytgfnagkelhbplaa.split
