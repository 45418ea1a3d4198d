/-
  The laws' own batches: some few short ones.
-/
import Derived.Test.YtcpaenmhnoagdabSrc
import Derived.Test.YtcpaenmhnoagdabBatM
import Derived.OwnWalk
import Derived.RangeFuncBox
namespace Go.Proofs.Ytcpaenmhnoagdab.src
open Go.ChangeShapes Go.WideShapes Go.ChangeAt Go.RowKit Go.Proofs.Ytcpaenmhnoagdab.mem Go.Proofs.Ytcpaenmhnoagdab.rod
set_option linter.unusedVariables false
/-- batches are few hours long, and early -/
def Small (Y : Nat → Int) (n : Nat) : Prop := ∀ i, i < n → 0 ≤ Y (i * 4) ∧ Y (i * 4) ≤ 19 ∧ 1 ≤ Y (i * 4 + 1) ∧ Y (i * 4 + 1) ≤ 14 ∧ 1 ≤ Y (i * 4 + 2) ∧ Y (i * 4 + 2) ≤ 10 ∧ 1 ≤ Y (i * 4 + 3) ∧ Y (i * 4 + 3) ≤ 7
def add4 (Y : Nat → Int) (i : Nat) (a b c d : Int) (j : Nat) : Int := if j = i * 4 then a else if j = i * 4 + 1 then b else if j = i * 4 + 2 then c else if j = i * 4 + 3 then d else Y j
theorem add4_0 (Y : Nat → Int) (i : Nat) (a b c d : Int) : add4 Y i a b c d (i * 4) = a := by unfold add4; rw [if_pos rfl]
theorem add4_1 (Y : Nat → Int) (i : Nat) (a b c d : Int) : add4 Y i a b c d (i * 4 + 1) = b := by unfold add4; rw [if_neg (by omega), if_pos rfl]
theorem add4_2 (Y : Nat → Int) (i : Nat) (a b c d : Int) : add4 Y i a b c d (i * 4 + 2) = c := by unfold add4; rw [if_neg (by omega), if_neg (by omega), if_pos rfl]
theorem add4_3 (Y : Nat → Int) (i : Nat) (a b c d : Int) : add4 Y i a b c d (i * 4 + 3) = d := by unfold add4; rw [if_neg (by omega), if_neg (by omega), if_neg (by omega), if_pos rfl]
theorem add4_o {Y : Nat → Int} {i : Nat} {a b c d : Int} {j : Nat} (h : j < i * 4) : add4 Y i a b c d j = Y j := by unfold add4; rw [if_neg (by omega), if_neg (by omega), if_neg (by omega), if_neg (by omega)]
theorem Small.add {Y : Nat → Int} {n : Nat} {a b c d : Int} (h : Small Y n) (a0 : 0 ≤ a) (a1 : a ≤ 19) (b0 : 1 ≤ b) (b1 : b ≤ 14) (c0 : 1 ≤ c) (c1 : c ≤ 10) (d0 : 1 ≤ d) (d1 : d ≤ 7) : Small (add4 Y n a b c d) (n + 1) := fun i hi => by
  by_cases e : i = n
  · subst e; rw [add4_0, add4_1, add4_2, add4_3]; omega
  · rw [add4_o (by omega), add4_o (by omega), add4_o (by omega), add4_o (by omega)]
    exact h i (by omega)
/-- cells of whole numbers -/
def iC (Y : Nat → Int) (n : Nat) : List Value := (List.range n).map fun j => .int .i64 (Y j)
theorem iC_len (Y : Nat → Int) (n : Nat) : (iC Y n).length = n := by simp [iC]
theorem iC_add (Y : Nat → Int) (i : Nat) (a b c d : Int) : iC (add4 Y i a b c d) ((i + 1) * 4) = iC Y (i * 4) ++ [.int .i64 a, .int .i64 b, .int .i64 c, .int .i64 d] := by
  unfold iC
  rw [show (i + 1) * 4 = i * 4 + 1 + 1 + 1 + 1 by omega]
  rw [List.range_succ, List.range_succ, List.range_succ, List.range_succ]
  simp only [List.map_append, List.map_cons, List.map_nil, List.append_assoc, List.cons_append, List.nil_append]
  rw [add4_0, add4_1, show i * 4 + 1 + 1 = i * 4 + 2 by omega, add4_2, show i * 4 + 2 + 1 = i * 4 + 3 by omega, add4_3]
  congr 1
  exact List.map_congr_left fun j hj => by rw [add4_o (List.mem_range.1 hj)]
theorem owns_wrote {w w' : World} {B n size lo hi : Nat} {E : TypeId} {v : Value} {xs : List Value} (h : w.ownsRow B E size v n xs) (hw : WroteIn w w' lo hi) (hd : hi ≤ B) : w'.ownsRow B E size v n xs := by
  rcases h with ⟨hl, ⟨rfl, h0⟩ | ⟨g, cap, cur, rfl, hB, hh, hrest⟩⟩
  · exact ⟨hl, .inl ⟨rfl, h0⟩⟩
  · exact ⟨hl, .inr ⟨g, cap, cur, rfl, hB, (hw.block g (Array.getElem?_eq_some_iff.1 hh).1 (by omega)).trans hh, hrest⟩⟩
theorem wrote_grown {w wr w5 : World} {lo hi : Nat} {row : Option Nat} (h : WroteIn w wr lo hi) (hg : wr.grownBy w5 row) (hr : ∀ j, row = some j → w.heap.size ≤ j) : WroteIn w w5 lo hi := by
  have := h.size
  have := hg.size
  exact ⟨hg.os.trans h.os, hg.tape.trans h.tape, hg.output.trans h.output, by omega, fun k hk hd => (hg.block k (by omega) (fun e => by have := hr k e.symm; omega)).trans (h.block k hk hd)⟩
theorem owns_ge {w : World} {B n size : Nat} {E : TypeId} {v : Value} {xs : List Value} (h : w.ownsRow B E size v n xs) : ∀ j, v.ownBlock = some j → B ≤ j := fun j e => by
  rcases h.2 with ⟨rfl, _⟩ | ⟨g, cap, cur, rfl, hB, _⟩
  · simp [Value.ownBlock] at e
  · simp [Value.ownBlock] at e; omega
theorem owns_0 (w : World) (E : TypeId) (B : Nat) (Y : Nat → Int) (hB : B ≤ w.heap.size) : (w.alloc (.cells #[] E)).ownsRow B E 4 (.slice (some ⟨w.heap.size, 0, none⟩) 0 0) 0 (iC Y 0) :=
  ⟨rfl, .inr ⟨w.heap.size, 0, #[], rfl, hB, Go.Deep.blk_alloc_new _ _, Nat.le_refl _, by unfold maxLen; omega, rfl, rfl⟩⟩
theorem sl_of_owns {w : World} {B n : Nat} {E : TypeId} {v : Value} {Y : Nat → Int} (h : w.ownsRow B E 4 v n (iC Y (n * 4))) : ∃ A c, v = .slice A n c ∧ n ≤ c ∧ c ≤ maxLen ∧ Row w B w.heap.size A n 4 E Y := by
  rcases h.2 with ⟨rfl, rfl⟩ | ⟨g, cap, cur, rfl, hB, hh, hc, hm, hs, ht⟩
  · exact ⟨none, 0, rfl, Nat.le_refl _, by unfold maxLen; omega, Row.none_⟩
  · refine ⟨_, _, rfl, hc, hm, fun hn => ⟨g, rfl, hB, (Array.getElem?_eq_some_iff.1 hh).1, cur, hh, by rw [hs]; exact Nat.mul_le_mul_right _ hc, fun i hi => ?_⟩⟩
    have e1 : cur[i]? = cur.toList[i]? := by simp
    have e2 : cur.toList[i]? = (cur.toList.take (n * 4))[i]? := by rw [List.getElem?_take_of_lt hi]
    rw [e1, e2, ht]
    unfold iC
    rw [List.getElem?_map, List.getElem?_range hi]
    rfl
def n4 (a b c d : Int) (j : Nat) : Int := if j = 0 then a else if j = 1 then b else if j = 2 then c else d
theorem own_new4 (w : World) (a b c d : Int) (E : TypeId) : mem.Own (w.alloc (.cells #[.int .i64 a, .int .i64 b, .int .i64 c, .int .i64 d] E)) w.heap.size E 4 (n4 a b c d) :=
  own_new _ _ _ _ _ (fun i hi => by match i, hi with | 0, _ => rfl | 1, _ => rfl | 2, _ => rfl | 3, _ => rfl) (by simp)
theorem own_wrote4 {w w' : World} {g n lo hi : Nat} {E : TypeId} {X : Nat → Int} (h : mem.Own w g E n X) (hw : WroteIn w w' lo hi) (hd : ¬ (lo ≤ g ∧ g < hi)) : mem.Own w' g E n X := h.of_block (hw.block g h.lt hd)
theorem Src.alloc {w : World} {b n c : Nat} {A : Option Addr} {K : Int} (h : Src w b A n c K) (o : Obj) : Src (w.alloc o) b A n c K := h.of_block (Go.Deep.blk_alloc_lt _ _ _ h.lt) (by simp)

end Go.Proofs.Ytcpaenmhnoagdab.src
