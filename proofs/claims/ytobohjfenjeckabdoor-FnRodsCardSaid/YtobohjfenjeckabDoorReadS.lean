/-
  The model's reading of a rod.
-/
import Derived.Test.YtobohjfenjeckabDoorReadPure
import Derived.Test.YtobohjfenjeckabDoorNumI
namespace Go.Proofs.YtobohjfenjeckabDoor.num
open Go.ChangeShapes Go.WideShapes Go.ChangeAt Go.RowKit
open Go.Proofs.YtobohjfenjeckabDoor.mem Go.Proofs.YtobohjfenjeckabDoor.dec Go.Proofs.YtobohjfenjeckabDoor.split Go.Proofs.YtobohjfenjeckabDoor.rod
set_option linter.unusedVariables false

theorem owns_parts {w : World} {B : Nat} {E : TypeId} {v : Value} {ps : List (List UInt8)} (h : w.ownsRow B E 1 v ps.length (ps.map strV)) (hne : ps ≠ []) :
    ∃ g cap, v = .slice (some ⟨g, 0, none⟩) ps.length cap ∧ B ≤ g ∧ g < w.heap.size ∧ ps.length ≤ cap ∧ cap ≤ maxLen ∧ ∀ j p, ps[j]? = some p → w.cell? ⟨g, j, none⟩ = some (.string ⟨p.toArray⟩) := by
  obtain ⟨hl, h⟩ := h
  rcases h with ⟨rfl, h0⟩ | ⟨g, cap, cur, rfl, hB, hh, hc, hm, hs, ht⟩
  · exact absurd (List.eq_nil_of_length_eq_zero h0) hne
  · refine ⟨g, cap, rfl, hB, ?_, hc, hm, fun j p hj => ?_⟩
    · obtain ⟨hlt, _⟩ := Array.getElem?_eq_some_iff.1 hh
      exact hlt
    · have hj1 : j < ps.length := (List.getElem?_eq_some_iff.1 hj).1
      have e2 : cur.toList[j]? = (cur.toList.take (ps.length * 1))[j]? := by rw [List.getElem?_take_of_lt (by omega)]
      have e3 : cur[j]? = some (strV p) := by
        rw [← Array.getElem?_toList, e2, ht, List.getElem?_map, hj]
        rfl
      simp [World.cell?, hh, e3]
      rfl
theorem splitA_len (d : UInt8) (l : List UInt8) : ∀ cur p, p ∈ splitA d cur l → p.length ≤ cur.length + l.length := by
  induction l with
  | nil =>
    intro cur p h
    rw [splitA, List.mem_singleton] at h
    subst h
    simp
  | cons c r ih =>
    intro cur p h
    rw [splitA] at h
    split at h
    · rcases List.mem_cons.1 h with h | h
      · subst h; simp
      · have := ih [] p h
        simp at this ⊢
        omega
    · have := ih _ p h
      simp at this ⊢
      omega
theorem split_len {d : UInt8} {l p : List UInt8} (h : p ∈ split d l) : p.length ≤ l.length := by
  have := splitA_len d l [] p h
  simpa using this
theorem arr_size (p : List UInt8) : (⟨p.toArray⟩ : ByteArray).size = p.length := by show p.toArray.size = _; simp
/-- the answer: the rod and true, or no rod -/
def retV : Option (Int × Int × Int) → Value
  | some (L, B, T) => .tuple #[.agg #[.int .i64 L, .int .i64 B, .int .i64 T], .bool true]
  | none => .tuple #[.agg #[.int .i64 0, .int .i64 0, .int .i64 0], .bool false]
theorem readR_len {l : List UInt8} (h : (split 32 l).length ≠ 3) : readR l = none := by
  unfold readR
  split
  · rename_i hs; rw [hs] at h; exact absurd rfl h
  · rfl
theorem readR_mid {l a m c : List UInt8} (h : split 32 l = [a, m, c]) (hm : m ≠ [109, 109]) : readR l = none := by
  unfold readR
  rw [h]
  simp only []
  rw [if_neg hm]
theorem readR_two {l a c : List UInt8} (h : split 32 l = [a, [109, 109], c]) (h2 : (split 45 c).length ≠ 2) : readR l = none := by
  unfold readR
  rw [h]
  simp only []
  rw [if_pos trivial]
  split
  · rename_i hs; rw [hs] at h2; exact absurd rfl h2
  · rfl
theorem readR_all {l a c b t : List UInt8} (h : split 32 l = [a, [109, 109], c]) (h2 : split 45 c = [b, t]) : readR l = if (ans a).2 = true ∧ (ans b).2 = true ∧ (ans t).2 = true then rodOf (ans a).1 (ans b).1 (ans t).1 else none := by
  unfold readR
  rw [h]
  simp only []
  rw [if_pos trivial, h2]

theorem bset {B : Nat} {w w' : World} (h : Below B w w') (a : Addr) (v : Value) (ha : B ≤ a.block) : Below B w (w'.setCell a v) :=
  ⟨h.os, h.tape, h.output, by simpa using h.size, fun k hk => (Below.heap_setCell _ _ _ _ (fun e => by omega)).trans (h.block k hk)⟩

end Go.Proofs.YtobohjfenjeckabDoor.num
