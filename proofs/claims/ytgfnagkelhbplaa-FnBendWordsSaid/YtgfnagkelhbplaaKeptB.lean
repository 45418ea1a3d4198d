/-
  What a draw leaves as it was: all blocks that were there, but for the source's. Rows that grow; one of some numbers.
-/
import Derived.Test.YtgfnagkelhbplaaSrcB
import Derived.Test.YtgfnagkelhbplaaNums
import Derived.Test.YtgfnagkelhbplaaOwnV
import Derived.OwnWalk
namespace Go.Proofs.Ytgfnagkelhbplaa.src
open Go.ChangeShapes Go.WideShapes Go.ChangeAt Go.RowKit Go.Proofs.Ytgfnagkelhbplaa.mem
set_option linter.unusedVariables false

/-- blocks below N, but for b, hold what they held -/
structure Kept (N b : Nat) (w w' : World) : Prop where
  os : w'.os = w.os
  tape : w'.tape = w.tape
  output : w'.output = w.output
  size : w.heap.size ≤ w'.heap.size
  block : ∀ k, k < N → k ≠ b → w'.heap[k]? = w.heap[k]?
section
variable {N b : Nat} {w w' w'' : World}
theorem Kept.refl (N b : Nat) (w : World) : Kept N b w w := ⟨rfl, rfl, rfl, Nat.le_refl _, fun _ _ _ => rfl⟩
theorem Kept.trans (h : Kept N b w w') (k : Kept N b w' w'') : Kept N b w w'' := by
  have := h.size
  have := k.size
  exact ⟨k.os.trans h.os, k.tape.trans h.tape, k.output.trans h.output, by omega, fun j hj hb => (k.block j hj hb).trans (h.block j hj hb)⟩
theorem Kept.mono {M : Nat} (h : Kept N b w w') (hM : M ≤ N) : Kept M b w w' := ⟨h.os, h.tape, h.output, h.size, fun j hj hb => h.block j (by omega) hb⟩
theorem Kept.wrote (h : Kept N b w w') (k : WroteIn w' w'' b (b + 1)) (hN : N ≤ w.heap.size) : Kept N b w w'' := by
  have := h.size
  have := k.size
  exact ⟨k.os.trans h.os, k.tape.trans h.tape, k.output.trans h.output, by omega, fun j hj hb => (k.block j (by omega) (by omega)).trans (h.block j hj hb)⟩
theorem Kept.alloc (h : Kept N b w w') (hN : N ≤ w.heap.size) (o : Obj) : Kept N b w (w'.alloc o) := by
  have := h.size
  exact ⟨h.os, h.tape, h.output, by simp; omega, fun j hj hb => (Go.Deep.blk_alloc_lt _ _ _ (by omega)).trans (h.block j hj hb)⟩
theorem Kept.set (h : Kept N b w w') {a : Addr} (ha : N ≤ a.block) (v : Value) : Kept N b w (w'.setCell a v) :=
  ⟨h.os, h.tape, h.output, by simpa using h.size, fun j hj hb => (Below.heap_setCell _ _ _ _ (by omega)).trans (h.block j hj hb)⟩
theorem Kept.grown {row : Option Nat} (h : Kept N b w w') (hN : N ≤ w.heap.size) (hg : w'.grownBy w'' row) (hr : ∀ j, row = some j → N ≤ j) : Kept N b w w'' := by
  have := h.size
  have := hg.size
  exact ⟨hg.os.trans h.os, hg.tape.trans h.tape, hg.output.trans h.output, by omega, fun k hk hb => (hg.block k (by omega) (fun e => by have := hr k e.symm; omega)).trans (h.block k hk hb)⟩
theorem Kept.below (h : Kept N b w w') (hb : N ≤ b) : Below N w w' := ⟨h.os, h.tape, h.output, h.size, fun k hk => h.block k hk (by omega)⟩
theorem Sb.kept {A : Option Addr} {n : Nat} {X : Nat → Int} (h : Sb w A n X) (hk : Kept N b w w') (hA : 0 < n → ∀ x o, A = some ⟨x, o, none⟩ → x < b) (hb : b ≤ N) : Sb w' A n X := fun hn => by
  obtain ⟨x, o, e, h1, h2⟩ := h hn
  have := hA hn x o e
  have := hk.size
  refine ⟨x, o, e, by omega, fun j hj => ⟨?_, (h2 j hj).2⟩⟩
  rw [← (h2 j hj).1]
  unfold World.cell?
  rw [hk.block x (by omega) (by omega)]
end
/-- cells of whole numbers -/
def iC (Y : Nat → Int) (n : Nat) : List Value := (List.range n).map fun j => .int .i64 (Y j)
theorem iC_len (Y : Nat → Int) (n : Nat) : (iC Y n).length = n := by simp [iC]
def snoc (Y : Nat → Int) (i : Nat) (v : Int) (j : Nat) : Int := if j = i then v else Y j
theorem iC_snoc (Y : Nat → Int) (i : Nat) (v : Int) : iC (snoc Y i v) (i + 1) = iC Y i ++ [.int .i64 v] := by
  unfold iC
  rw [List.range_succ, List.map_append]
  congr 1
  · exact List.map_congr_left fun j hj => by
      have := List.mem_range.1 hj
      unfold snoc
      rw [if_neg (by omega)]
  · simp [snoc]
theorem owns_ge {w : World} {B n size : Nat} {E : TypeId} {v : Value} {xs : List Value} (h : w.ownsRow B E size v n xs) : ∀ j, v.ownBlock = some j → B ≤ j := fun j e => by
  rcases h.2 with ⟨rfl, _⟩ | ⟨g, cap, cur, rfl, hB, _⟩
  · simp [Value.ownBlock] at e
  · simp [Value.ownBlock] at e; omega
/-- a row's block is none of another type -/
theorem owns_ne {w : World} {B n size g : Nat} {E E' : TypeId} {v : Value} {xs : List Value} {c : Array Value} {z : Nat × Nat} (h : w.ownsRow B E size v n xs) (hg : w.heap[g]? = some (.cells c E' z)) (hE : E ≠ E') : v.ownBlock ≠ some g := fun e => by
  rcases h.2 with ⟨rfl, _⟩ | ⟨g', cap, cur, rfl, hB, hh, _⟩
  · simp [Value.ownBlock] at e
  · simp [Value.ownBlock] at e
    subst e
    rw [hh] at hg
    cases hg
    exact hE rfl
theorem owns_of_block {w w' : World} {B n size : Nat} {E : TypeId} {v : Value} {xs : List Value} (h : w.ownsRow B E size v n xs) (hb : ∀ g, v.ownBlock = some g → g < w.heap.size → w'.heap[g]? = w.heap[g]?) : w'.ownsRow B E size v n xs := by
  rcases h with ⟨hl, ⟨rfl, h0⟩ | ⟨g, cap, cur, rfl, hB, hh, hrest⟩⟩
  · exact ⟨hl, .inl ⟨rfl, h0⟩⟩
  · exact ⟨hl, .inr ⟨g, cap, cur, rfl, hB, (hb g (by simp [Value.ownBlock]) (Array.getElem?_eq_some_iff.1 hh).1).trans hh, hrest⟩⟩
theorem owns_set {w : World} {B n size : Nat} {E : TypeId} {v : Value} {xs : List Value} (h : w.ownsRow B E size v n xs) {a : Addr} (ha : v.ownBlock ≠ some a.block) (x : Value) : (w.setCell a x).ownsRow B E size v n xs :=
  owns_of_block h fun g e hg => Go.Deep.blk_setCell_other _ _ _ _ (fun e' => ha (by rw [e, e']))
theorem owns_wrote1 {w w' : World} {B n size b : Nat} {E : TypeId} {v : Value} {xs : List Value} (h : w.ownsRow B E size v n xs) (hw : WroteIn w w' b (b + 1)) (hb : b < B) : w'.ownsRow B E size v n xs :=
  owns_of_block h fun g e hg => hw.block g hg (by have := owns_ge h g e; omega)
theorem owns_kept {w w' : World} {B n size N b : Nat} {E : TypeId} {v : Value} {xs : List Value} (h : w.ownsRow B E size v n xs) (hk : Kept N b w w') (hN : w.heap.size ≤ N) (hb : b < B) : w'.ownsRow B E size v n xs :=
  owns_of_block h fun g e hg => hk.block g (by omega) (by have := owns_ge h g e; omega)
theorem owns_new0 (w : World) (E : TypeId) (size B : Nat) (hB : B ≤ w.heap.size) : (w.alloc (.cells #[] E)).ownsRow B E size (.slice (some ⟨w.heap.size, 0, none⟩) 0 0) 0 [] :=
  ⟨by simp, .inr ⟨w.heap.size, 0, #[], rfl, hB, Go.Deep.blk_alloc_new _ _, Nat.le_refl _, by unfold maxLen; omega, by simp, by simp⟩⟩
theorem own_of_owns {w : World} {B n : Nat} {E : TypeId} {v : Value} {Y : Nat → Int} (h : w.ownsRow B E 1 v n (iC Y n)) : ∃ A c, v = .slice A n c ∧ n ≤ c ∧ c ≤ maxLen ∧ Row w B w.heap.size A n 1 E Y := by
  rcases h.2 with ⟨rfl, rfl⟩ | ⟨g, cap, cur, rfl, hB, hh, hc, hm, hs, ht⟩
  · exact ⟨none, 0, rfl, Nat.le_refl _, by unfold maxLen; omega, Row.none_⟩
  · refine ⟨_, _, rfl, hc, hm, fun hn => ⟨g, rfl, hB, (Array.getElem?_eq_some_iff.1 hh).1, cur, hh, by rw [hs]; exact Nat.mul_le_mul_right _ hc, fun i hi => ?_⟩⟩
    have e1 : cur[i]? = cur.toList[i]? := by simp
    have e2 : cur.toList[i]? = (cur.toList.take (n * 1))[i]? := by rw [List.getElem?_take_of_lt hi]
    rw [e1, e2, ht]
    unfold iC
    rw [List.getElem?_map, List.getElem?_range (by omega)]
    rfl

/-- the answer is yes or no, and the source lies on -/
def DrawnB (w : World) (b : Nat) (A : Option Addr) (n c : Nat) (K : Int) (e : Ending) (w' : World) : Prop :=
  ∃ v : Bool, e = .returned (.bool v) ∧ Src w' b A n c K ∧ WroteIn w w' b (b + 1)
set_option maxHeartbeats 1000000 in
theorem one_c (b : Nat) (A : Option Addr) (n c : Nat) (X : Nat → Int) (K m h : Int) (w : World) (hn : n ≤ 4096) (hK : K ≤ 900000000) (hm : m - 1 ≤ h) (h0 : 0 ≤ h) (hA : 0 < n → ∀ x o, A = some ⟨x, o, none⟩ → x < b) (hs : Src w b A n c K) (hx : Sb w A n X) :
    Calls Try.prog 80 #[.pointer (some ⟨b, 0, none⟩), .int .i64 m] w (DrawnB w b A n c (K + 2)) := by
  have HP := Lib.hid (pick_c b A n c X K m h w hn hK hm h0 hA hs hx)
  clear hs hx hA
  go_enter Try.func80, Try.ntmps80
  go_wp2_with fail
  refine HP.out.mono ?_
  rintro e w1 ⟨v, rfl, v0, v1, s1, hw1⟩
  have S1 := Lib.hid s1
  clear s1
  go_wp2
  go_ret
  exact ⟨_, rfl, S1.out, hw1⟩
/-- the answer is one of some numbers, and the source lies on -/
def DrawnI (w : World) (b : Nat) (A : Option Addr) (n c : Nat) (K : Int) (l : Nat) (Z : Nat → Int) (e : Ending) (w' : World) : Prop :=
  ∃ j : Nat, j < l ∧ e = .returned (.int .i64 (Z j)) ∧ Src w' b A n c K ∧ WroteIn w w' b (b + 1)
set_option maxHeartbeats 1000000 in
theorem among_c (b : Nat) (A : Option Addr) (n c : Nat) (X : Nat → Int) (K : Int) (g l d : Nat) (Z : Nat → Int) (w : World) (hn : n ≤ 4096) (hK : K ≤ 900000000) (hA : 0 < n → ∀ x o, A = some ⟨x, o, none⟩ → x < b) (hs : Src w b A n c K) (hx : Sb w A n X) (l1 : 1 ≤ l) (l2 : l ≤ 10) (hg : b ≠ g) (hgl : g < w.heap.size) (hz : Ints w g 0 l Z) :
    Calls Try.prog 81 #[.pointer (some ⟨b, 0, none⟩), .slice (some ⟨g, 0, none⟩) l d] w (DrawnI w b A n c (K + 2) l Z) := by
  have HP := Lib.hid (pick_c b A n c X K l ((l : Int) - 1) w hn hK (by omega) (by omega) hA hs hx)
  have HZ := Lib.hid hz
  clear hs hx hA hz
  go_enter Try.func81, Try.ntmps81
  go_wp2_with fail
  refine HP.out.mono ?_
  rintro e w1 ⟨v, rfl, v0, v1, s1, hw1⟩
  obtain ⟨j, rfl⟩ : ∃ j : Nat, v = j := ⟨v.toNat, by omega⟩
  have hjl : j < l := by omega
  have hji : (j : Int) < (l : Int) := by omega
  have z0 : w1.cell? ⟨g, j, none⟩ = some (.int .i64 (Z j)) := by
    have := HZ.out j hjl
    rw [Nat.zero_add] at this
    rw [← this]
    unfold World.cell?
    rw [hw1.block g hgl (by omega)]
  have S1 := Lib.hid s1
  clear s1
  go_wp2
  go_ret
  exact ⟨j, hjl, rfl, S1.out, hw1⟩
end Go.Proofs.Ytgfnagkelhbplaa.src
