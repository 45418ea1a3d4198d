/-
  Words for memory: a list of whole numbers in cells; make of a slice of structs of whole numbers. No function of the program lies here.
-/
import Derived.Test.YtgfnagkelhbplaaRows
import Derived.WalkKit
import Derived.ProofKit
import Derived.OpenShut
import Derived.Handy
import Derived.Lib.Hide
import Derived.Deep.OwnRows
import Derived.Deep.Draws
namespace Go.Proofs.Ytgfnagkelhbplaa.mem
open Go.ChangeShapes Go.WideShapes Go.ChangeAt Go.RowKit
set_option linter.unusedVariables false

/-- n whole numbers lie in block b from offset o on -/
def Ints (w : World) (b o n : Nat) (X : Nat → Int) : Prop := ∀ j, j < n → w.cell? ⟨b, o + j, none⟩ = some (.int .i64 (X j))
theorem Ints.below {w w' : World} {b o n : Nat} {X : Nat → Int} {K : Nat} (h : Ints w b o n X) (hb : Below K w w') (hK : b < K) : Ints w' b o n X := fun i hi =>
  (hb.cell (p := ⟨b, _, none⟩) hK).trans (h i hi)
theorem Ints.congr {w : World} {b o n : Nat} {X Y : Nat → Int} (h : Ints w b o n X) (e : ∀ j, j < n → X j = Y j) : Ints w b o n Y := fun i hi => by rw [h i hi, e i hi]

/-- block g is a row of its own, whose first n cells are whole numbers -/
def Own (w : World) (g : Nat) (E : TypeId) (n : Nat) (X : Nat → Int) : Prop :=
  ∃ c : Array Value, w.heap[g]? = some (.cells c E (0, 0)) ∧ n ≤ c.size ∧ ∀ i, i < n → c[i]? = some (.int .i64 (X i))
section
variable {w w' : World} {g n : Nat} {E : TypeId} {X Y : Nat → Int}
theorem Own.cell (h : Own w g E n X) {j : Nat} (hj : j < n) : w.cell? ⟨g, j, none⟩ = some (.int .i64 (X j)) := by
  obtain ⟨c, hb, _, hc⟩ := h
  simp [World.cell?, hb, hc j hj]
theorem Own.ints (h : Own w g E n X) : Ints w g 0 n X := fun j hj => by rw [Nat.zero_add]; exact h.cell hj
theorem Own.lt (h : Own w g E n X) : g < w.heap.size := by
  obtain ⟨c, hb, _, _⟩ := h
  obtain ⟨hlt, _⟩ := Array.getElem?_eq_some_iff.1 hb
  exact hlt
theorem Own.frozen (h : Own w g E n X) (j : Nat) : w.frozen? ⟨g, j, none⟩ = false := by
  obtain ⟨c, hb, _, _⟩ := h
  simp [World.frozen?, hb]
theorem Own.congr (h : Own w g E n X) (e : ∀ j, j < n → X j = Y j) : Own w g E n Y := by
  obtain ⟨c, hb, hn, hc⟩ := h
  exact ⟨c, hb, hn, fun i hi => by rw [hc i hi, e i hi]⟩
theorem Own.le {m : Nat} (h : Own w g E n X) (hm : m ≤ n) : Own w g E m X := by
  obtain ⟨c, hb, hn, hc⟩ := h
  exact ⟨c, hb, by omega, fun i hi => hc i (by omega)⟩
theorem Own.of_block (h : Own w g E n X) (e : w'.heap[g]? = w.heap[g]?) : Own w' g E n X := by
  obtain ⟨c, hb, hn, hc⟩ := h
  exact ⟨c, e.trans hb, hn, hc⟩
theorem Own.below {K : Nat} (h : Own w g E n X) (hb : Below K w w') (hK : g < K) : Own w' g E n X := h.of_block (hb.block g hK)
theorem Own.alloc (h : Own w g E n X) (o : Obj) : Own (w.alloc o) g E n X := h.of_block (Go.Deep.blk_alloc_lt _ _ _ h.lt)
theorem Own.drewN (h : Own w g E n X) (k : Nat) : Own (w.drewN k) g E n X := h
theorem Own.drew (h : Own w g E n X) : Own w.drew g E n X := h
theorem Own.set (h : Own w g E n X) (i : Nat) (v : Int) : Own (w.setCell ⟨g, i, none⟩ (.int .i64 v)) g E n (fun j => if j = i then v else X j) := by
  obtain ⟨c, hb, hn, hc⟩ := h
  refine ⟨c.setIfInBounds i (.int .i64 v), ?_, by simpa using hn, fun j hj => ?_⟩
  · simp [World.setCell, Array.getElem?_modify, hb]
  · rw [Array.getElem?_setIfInBounds]
    by_cases e : j = i
    · subst e
      simp [show j < c.size by omega]
    · rw [if_neg (fun h => e h.symm)]
      show c[j]? = some (.int .i64 (if j = i then v else X j))
      rw [if_neg e]
      exact hc j hj
theorem Own.setOther (h : Own w g E n X) {a : Addr} (ha : g ≠ a.block) (v : Value) : Own (w.setCell a v) g E n X := h.of_block (Go.Deep.blk_setCell_other _ _ _ _ ha)
end

theorem drewN_below {B : Nat} {a w : World} (h : Below B a w) (n : Nat) : Below B a (w.drewN n) := ⟨h.os, h.tape, h.output, h.size, h.block⟩

/-- behind the call only blocks from lo to less than hi may hold something else -/
structure WroteIn (w w' : World) (lo hi : Nat) : Prop where
  os : w'.os = w.os
  tape : w'.tape = w.tape
  output : w'.output = w.output
  size : w.heap.size ≤ w'.heap.size
  block : ∀ k, k < w.heap.size → ¬ (lo ≤ k ∧ k < hi) → w'.heap[k]? = w.heap[k]?
theorem WroteIn.refl (w : World) (lo hi : Nat) : WroteIn w w lo hi := ⟨rfl, rfl, rfl, Nat.le_refl _, fun _ _ _ => rfl⟩
theorem WroteIn.set {w w' : World} {lo hi : Nat} (h : WroteIn w w' lo hi) {g i : Nat} (h0 : lo ≤ g) (h1 : g < hi) (v : Value) : WroteIn w (w'.setCell ⟨g, i, none⟩ v) lo hi :=
  ⟨h.os, h.tape, h.output, by simpa using h.size, fun k hk hr => (Below.heap_setCell _ _ _ _ (fun e => hr (by rw [e]; exact ⟨h0, h1⟩))).trans (h.block k hk hr)⟩
theorem WroteIn.below {w w' : World} {lo hi B : Nat} (h : WroteIn w w' lo hi) (hB : B ≤ w.heap.size) (hl : B ≤ lo) : Below B w w' := ⟨h.os, h.tape, h.output, h.size, fun k hk => h.block k (by omega) (by omega)⟩
theorem WroteIn.drewN {w w' : World} {lo hi : Nat} (h : WroteIn w w' lo hi) (n : Nat) : WroteIn w (w'.drewN n) lo hi := ⟨h.os, h.tape, h.output, h.size, h.block⟩
theorem WroteIn.cell {w w' : World} {lo hi b o : Nat} (h : WroteIn w w' lo hi) (hb : b < w.heap.size) (hd : ¬ (lo ≤ b ∧ b < hi)) : w'.cell? ⟨b, o, none⟩ = w.cell? ⟨b, o, none⟩ := by
  have e := h.block b hb hd
  unfold World.cell?
  simp only [e]
theorem WroteIn.drew {w w' : World} {lo hi : Nat} (h : WroteIn w w' lo hi) : WroteIn w w'.drew lo hi := ⟨h.os, h.tape, h.output, h.size, h.block⟩

/-- what make lays for structs of whole numbers: zeros -/
theorem own_made (w : World) (z : Array Value) (m n : Nat) (E : TypeId) (hz : ∀ i, i < z.size → z[i]? = some (.int .i64 0)) (hm : 0 < z.size) (hn : m = n) : Own (w.alloc (.cells (madeCells z m) E)) w.heap.size E n (fun _ => 0) := by
  subst hn
  refine ⟨_, Go.Deep.blk_alloc_new _ _, Nat.le_of_eq (size_madeCells _ _).symm, fun i hi => ?_⟩
  have h1 : i % z.size < z.size := Nat.mod_lt _ hm
  have h2 := hz _ h1
  simp only [madeCells, Array.getElem?_map, Array.getElem?_range, hi, if_true, Option.map_some]
  rw [getElem!_pos z (i % z.size) h1]
  rw [Array.getElem?_eq_getElem h1] at h2
  exact h2
theorem run_make_rows {P : Program} (t e : TypeId) (z : Value) (k bytes : Nat) (ht : P.underlying t = some (.slice e)) (hinfo : (P.info? e).map (fun i => (i.zero, i.size, i.bytes)) = some (some z, k, bytes))
    (kl kc : IntKind) (n : Nat) (hbytes : bytes * n ≤ 281474976710656) (h63 : n ≤ 9223372036854775807) (w : World) :
    (Instr.makeSlice t (.int kl (n : Int)) (.int kc (n : Int))).run P w = .ok (.slice (some ⟨w.heap.size, 0, none⟩) n n) (w.alloc (.cells (madeCells z.cells (n * k)) e)) := by
  obtain ⟨i, hi, hzz⟩ := Option.map_eq_some_iff.1 hinfo
  simp only [Prod.mk.injEq] at hzz
  obtain ⟨hz, hs, hb⟩ := hzz
  have hb' : (i.bytes : Int) * (n : Int) ≤ 281474976710656 := by
    rw [hb]
    have h : ((bytes * n : Nat) : Int) ≤ 281474976710656 := by omega
    rwa [Int.natCast_mul] at h
  have hr := run_make (P := P) w t e i z ht hi hz kl kc n n (by omega) (Int.le_refl _) hb' (by omega)
  simp only [Int.toNat_natCast, hs] at hr
  exact hr

/-- a slice value of n elements of k whole numbers each, nil or not -/
def Sl (w : World) (A : Option Addr) (n k : Nat) (X : Nat → Int) : Prop := 0 < n → ∃ b o, A = some ⟨b, o, none⟩ ∧ b < w.heap.size ∧ Ints w b o (n * k) X

/-- a slice value of the call's own: n elements of type E, k whole numbers each, in a block from lo to less than hi -/
def Row (w : World) (lo hi : Nat) (A : Option Addr) (n k : Nat) (E : TypeId) (X : Nat → Int) : Prop := 0 < n → ∃ g, A = some ⟨g, 0, none⟩ ∧ lo ≤ g ∧ g < hi ∧ Own w g E (n * k) X
section
variable {w w' : World} {lo hi : Nat} {A : Option Addr} {n k : Nat} {E : TypeId} {X Y : Nat → Int}
theorem Row.below {K : Nat} (h : Row w lo hi A n k E X) (hb : Below K w w') (hK : hi ≤ K) : Row w' lo hi A n k E X := fun hn => by
  obtain ⟨g, e, h1, h2, ho⟩ := h hn
  exact ⟨g, e, h1, h2, ho.below hb (by omega)⟩
theorem Row.wrote {lo' hi' : Nat} (h : Row w lo hi A n k E X) (hw : WroteIn w w' lo' hi') (hd : hi ≤ lo' ∨ hi' ≤ lo) : Row w' lo hi A n k E X := fun hn => by
  obtain ⟨g, e, h1, h2, ho⟩ := h hn
  exact ⟨g, e, h1, h2, ho.of_block (hw.block g ho.lt (by omega))⟩
theorem Row.sl (h : Row w lo hi A n k E X) : Sl w A n k X := fun hn => by
  obtain ⟨g, e, h1, h2, ho⟩ := h hn
  exact ⟨g, 0, e, ho.lt, ho.ints⟩
theorem Row.wide {lo' hi' : Nat} (h : Row w lo hi A n k E X) (h1 : lo' ≤ lo) (h2 : hi ≤ hi') : Row w lo' hi' A n k E X := fun hn => by
  obtain ⟨g, e, a, b, ho⟩ := h hn
  exact ⟨g, e, by omega, by omega, ho⟩
theorem Row.congr (h : Row w lo hi A n k E X) (e : ∀ j, j < n * k → X j = Y j) : Row w lo hi A n k E Y := fun hn => by
  obtain ⟨g, e', a, b, ho⟩ := h hn
  exact ⟨g, e', a, b, ho.congr e⟩
theorem Row.none_ : Row w lo hi A 0 k E X := fun h => absurd h (by omega)
theorem Sl.below {K : Nat} (h : Sl w A n k X) (hb : Below K w w') (hK : w.heap.size ≤ K) : Sl w' A n k X := fun hn => by
  obtain ⟨b, o, e, h1, h2⟩ := h hn
  have := hb.size
  exact ⟨b, o, e, by omega, h2.below hb (by omega)⟩
theorem Sl.none_ : Sl w A 0 k X := fun h => absurd h (by omega)
end

/-- the one world is the other after some draws -/
def Drew (w wr : World) : Prop := ∃ m, wr = w.drewN m
theorem Drew.refl (w : World) : Drew w w := ⟨0, rfl⟩
theorem Drew.drewN {w wr : World} (h : Drew w wr) (n : Nat) : Drew w (wr.drewN n) := by obtain ⟨m, rfl⟩ := h; exact ⟨m + n, by simp⟩
theorem Drew.drew {w wr : World} (h : Drew w wr) : Drew w wr.drew := h.drewN 1
theorem Drew.ints {w wr : World} {b o n : Nat} {X : Nat → Int} (d : Drew w wr) (h : Ints w b o n X) : Ints wr b o n X := by obtain ⟨m, rfl⟩ := d; exact h
theorem Drew.sl {w wr : World} {A : Option Addr} {n k : Nat} {X : Nat → Int} (d : Drew w wr) (h : Sl w A n k X) : Sl wr A n k X := by obtain ⟨m, rfl⟩ := d; exact h
theorem Drew.cell {w wr : World} {a : Addr} {v : Option Value} (d : Drew w wr) (h : w.cell? a = v) : wr.cell? a = v := by obtain ⟨m, rfl⟩ := d; exact h

/-- the answer is a new slice of n elements of type E, k numbers each -/
def NewRow (w : World) (n k : Nat) (E : TypeId) (X : Nat → Int) (e : Ending) (w' : World) : Prop :=
  ∃ A c, e = .returned (.slice A n c) ∧ n ≤ c ∧ c ≤ maxLen ∧ Row w' w.heap.size w'.heap.size A n k E X ∧ Below w.heap.size w w'
/-- the answer is a number, and a slice of its own holds other numbers now -/
def Marked (w : World) (lo hi : Nat) (A : Option Addr) (n k : Nat) (E : TypeId) (v : Int) (X : Nat → Int) (e : Ending) (w' : World) : Prop :=
  e = .returned (.int .i64 v) ∧ Row w' lo hi A n k E X ∧ WroteIn w w' lo hi

end Go.Proofs.Ytgfnagkelhbplaa.mem
