/-
  Copies of slices: of numbers, by the model's helper and by the library's Clone; of beds, whose numbers stay shared.
-/
import Derived.Test.YtopiecbldnhihaaDoorFold6
import Derived.Test.YtopiecbldnhihaaDoorFold5
import Derived.Lib.SliceRun
namespace Go.Proofs.YtopiecbldnhihaaDoor.rod
open Go.ChangeShapes Go.WideShapes Go.ChangeAt Go.RowKit Go.Proofs.YtopiecbldnhihaaDoor.mem Go.Proofs.YtopiecbldnhihaaDoor.nums
set_option linter.unusedVariables false

/-- cells as a list -/
def cellsOf (V : Nat → Value) (n : Nat) : List Value := (List.range n).map V
theorem cellsOf_len (V : Nat → Value) (n : Nat) : (cellsOf V n).length = n := by simp [cellsOf]
theorem cellsOf_at {V : Nat → Value} {n j : Nat} {u : Value} (h : (cellsOf V n)[j]? = some u) : j < n ∧ u = V j := by
  unfold cellsOf at h
  rw [List.getElem?_map] at h
  by_cases hj : j < n
  · rw [List.getElem?_range hj] at h
    exact ⟨hj, by simpa using h.symm⟩
  · rw [List.getElem?_eq_none (by simp; omega)] at h
    cases h
theorem addr_at (b o j : Nat) : (⟨b, o, none⟩ : Addr).add j = ⟨b, o + j, none⟩ := by
  unfold Addr.add
  split
  · rename_i e; rw [e]; rfl
  · rfl
def intV (X : Nat → Int) (j : Nat) : Value := .int .i64 (X j)
theorem row_of_cells {w : World} {B n : Nat} {v : Value} {X : Nat → Int} (h : w.ownsRow B 2 1 v n (cellsOf (intV X) n)) :
    ∃ A c, v = .slice A n c ∧ n ≤ c ∧ c ≤ maxLen ∧ Row w B w.heap.size A n 1 2 X := by
  have h' : w.ownsRow B 2 1 v n (cellsOf (intV X) (n * 1)) := by rw [Nat.mul_one]; exact h
  obtain ⟨A, c, e, h1, h2, h3⟩ := ownV_of_owns h'
  refine ⟨A, c, e, h1, h2, fun hn => ?_⟩
  obtain ⟨g, e2, a, b, c', hb, hs, hc⟩ := h3 hn
  exact ⟨g, e2, a, b, c', hb, hs, hc⟩
theorem owns_none0 (w : World) (B size : Nat) (E : TypeId) (hB : B ≤ w.heap.size) : (w.alloc (Obj.cells #[] E)).ownsRow B E size (.slice (some ⟨w.heap.size, 0, none⟩) 0 0) 0 [] :=
  ⟨by simp, .inr ⟨w.heap.size, 0, #[], rfl, hB, Go.Deep.blk_alloc_new _ _, Nat.le_refl _, by unfold maxLen; omega, by simp, by simp⟩⟩

set_option maxHeartbeats 2000000 in
set_option maxRecDepth 100000 in
theorem own_s (b o n c : Nat) (X : Nat → Int) (w : World) (hn : n ≤ 1048576) (hb : b < w.heap.size) (h : Ints w b o (n * 1) X) :
    Calls Tryd.prog 49 #[.slice (some ⟨b, o, none⟩) n c] w (NewRow w n 1 2 X) := by
  have H := Lib.hid h
  clear h
  obtain ⟨i0, hi0, hz0, hz1, hz2⟩ := info_parts info_num
  go_enter Tryd.func49, Tryd.ntmps49
  go_wp2_with (at_builtin; refine wpList_append_own _ rfl _ _ 24 rfl w.heap.size 2 i0 (.int .i64 0) 1 8 Tryd.underlying24 hi0 hz0 hz1 hz2 rfl (by decide) _ _ _ rfl (owns_none0 w w.heap.size 1 2 (Nat.le_refl _)) ⟨b, o, none⟩ n c (cellsOf (intV X) (n * 1)) rfl (cellsOf_len _ _) ?c1 ?c2 ?c3 ?c4 ?c5 ?_)
  case c1 =>
    intro j u hj
    obtain ⟨h1, rfl⟩ := cellsOf_at hj
    rw [addr_at]
    exact (Below.cell (B := w.heap.size) (p := ⟨b, o + j, none⟩) (by go_grown) hb).trans (H.out j h1)
  case c2 => intro u hu; obtain ⟨j, hj⟩ := List.getElem?_of_mem hu; obtain ⟨_, rfl⟩ := cellsOf_at hj; rfl
  case c3 => unfold maxLen; omega
  case c4 => omega
  case c5 => simp
  intro v' w1 hown1 hgrow1 _
  try simp only [Nat.zero_add, List.nil_append] at hown1
  have g1 : Below w.heap.size w w1 := Below.grown (by go_grown) hgrow1 (by simp) (fun g hg => by simp [Value.ownBlock] at hg; omega)
  obtain ⟨A1, c1, rfl, k1, k2, hr⟩ := row_of_cells hown1
  have HR := Lib.hid hr
  clear hr hown1 hgrow1
  go_wp2
  go_ret
  exact ⟨A1, c1, rfl, k1, k2, HR.out, g1⟩

set_option maxHeartbeats 2000000 in
set_option maxRecDepth 100000 in
theorem clone_i (b o n c : Nat) (X : Nat → Int) (w : World) (hn : n ≤ 1048576) (hb : b < w.heap.size) (h : Ints w b o (n * 1) X) :
    Calls Tryd.prog 40 #[.slice (some ⟨b, o, none⟩) n c] w (NewRow w n 1 2 X) := by
  have H := Lib.hid h
  clear h
  obtain ⟨i0, hi0, hz0, hz1, hz2⟩ := info_parts info_num
  have q22 : ∀ (w : World) (a : Option Addr) (n c n' c' : Nat), (binOp .eql 24 (.slice a n c) (.slice none n' c')).run Tryd.prog w = .ok (.bool a.isNone) w := fun w a n c n' c' => Lib.run_eql_slice_nil w _ _ a n c n' c' Tryd.underlying24
  go_enter Tryd.func40, Tryd.ntmps40
  go_wp2_with (at_builtin; refine wpList_append_own _ rfl _ _ 24 rfl w.heap.size 2 i0 (.int .i64 0) 1 8 Tryd.underlying24 hi0 hz0 hz1 hz2 rfl (by decide) _ _ _ rfl (owns_none0 w w.heap.size 1 2 (Nat.le_refl _)) ⟨b, o, none⟩ n c (cellsOf (intV X) (n * 1)) rfl (cellsOf_len _ _) ?c1 ?c2 ?c3 ?c4 ?c5 ?_)
  case c1 =>
    intro j u hj
    obtain ⟨h1, rfl⟩ := cellsOf_at hj
    rw [addr_at]
    exact (Below.cell (B := w.heap.size) (p := ⟨b, o + j, none⟩) (by go_grown) hb).trans (H.out j h1)
  case c2 => intro u hu; obtain ⟨j, hj⟩ := List.getElem?_of_mem hu; obtain ⟨_, rfl⟩ := cellsOf_at hj; rfl
  case c3 => unfold maxLen; omega
  case c4 => omega
  case c5 => simp
  intro v' w1 hown1 hgrow1 _
  try simp only [Nat.zero_add, List.nil_append] at hown1
  have g1 : Below w.heap.size w w1 := Below.grown (by go_grown) hgrow1 (by simp) (fun g hg => by simp [Value.ownBlock] at hg; omega)
  obtain ⟨A1, c1, rfl, k1, k2, hr⟩ := row_of_cells hown1
  have HR := Lib.hid hr
  clear hr hown1 hgrow1
  go_wp2
  go_ret
  exact ⟨A1, c1, rfl, k1, k2, HR.out, g1⟩

theorem bedV_one (P : Nat → Option Addr) (M C : Nat → Nat) (G : Nat → Int) (i : Nat) : (bedV P M C G i).oneCell' = true := by
  unfold bedV; split <;> rfl

end Go.Proofs.YtopiecbldnhihaaDoor.rod
