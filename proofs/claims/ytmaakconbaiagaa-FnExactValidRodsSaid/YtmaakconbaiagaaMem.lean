/-
  Words for memory: a list of whole numbers in cells; make of a slice of structs of whole numbers. No function of the program lies here.
-/
import Derived.Test.YtmaakconbaiagaaRows
import Derived.WalkKit
import Derived.ProofKit
import Derived.OpenShut
import Derived.Handy
import Derived.Lib.Hide
import Derived.Deep.OwnRows
import Derived.Deep.Draws
namespace Go.Proofs.Ytmaakconbaiagaa.mem
open Go.ChangeShapes Go.WideShapes Go.ChangeAt Go.RowKit
set_option linter.unusedVariables false

/-- n whole numbers lie in block b from offset o on -/
def Ints (w : World) (b o n : Nat) (X : Nat → Int) : Prop := ∀ j, j < n → w.cell? ⟨b, o + j, none⟩ = some (.int .i64 (X j))
theorem Ints.below {w w' : World} {b o n : Nat} {X : Nat → Int} {K : Nat} (h : Ints w b o n X) (hb : Below K w w') (hK : b < K) : Ints w' b o n X := fun i hi =>
  (hb.cell (p := ⟨b, _, none⟩) hK).trans (h i hi)
theorem Ints.congr {w : World} {b o n : Nat} {X Y : Nat → Int} (h : Ints w b o n X) (e : ∀ j, j < n → X j = Y j) : Ints w b o n Y := fun i hi => by rw [h i hi, e i hi]

/-- block g is a row of its own of n whole numbers -/
def Own (w : World) (g : Nat) (E : TypeId) (n : Nat) (X : Nat → Int) : Prop := w.rowIs g E n (fun j => .int .i64 (X j))
section
variable {w w' : World} {g n : Nat} {E : TypeId} {X Y : Nat → Int}
theorem Own.ints (h : Own w g E n X) : Ints w g 0 n X := fun j hj => by rw [Nat.zero_add]; exact World.rowIs.cell h hj
theorem Own.lt (h : Own w g E n X) : g < w.heap.size := World.rowIs.lt h
theorem Own.cell (h : Own w g E n X) {j : Nat} (hj : j < n) : w.cell? ⟨g, j, none⟩ = some (.int .i64 (X j)) := World.rowIs.cell h hj
theorem Own.frozen (h : Own w g E n X) (j : Nat) : w.frozen? ⟨g, j, none⟩ = false := World.rowIs.frozen h j
theorem Own.congr (h : Own w g E n X) (e : ∀ j, j < n → X j = Y j) : Own w g E n Y := World.rowIs.congr h fun j hj => by rw [e j hj]
theorem Own.below {K : Nat} (h : Own w g E n X) (hb : Below K w w') (hK : g < K) : Own w' g E n X := World.rowIs.of_block h (hb.block g hK)
theorem Own.grown {row : Option Nat} (h : Own w g E n X) (hg : w.grownBy w' row) (hr : some g ≠ row) : Own w' g E n X := World.rowIs.of_block h (hg.block g h.lt hr)
theorem Own.alloc (h : Own w g E n X) (o : Obj) : Own (w.alloc o) g E n X := World.rowIs.alloc h o
theorem Own.drewN (h : Own w g E n X) (k : Nat) : Own (w.drewN k) g E n X := h
theorem Own.drew (h : Own w g E n X) : Own w.drew g E n X := h
theorem Own.set (h : Own w g E n X) (i : Nat) (v : Int) : Own (w.setCell ⟨g, i, none⟩ (.int .i64 v)) g E n (fun j => if j = i then v else X j) :=
  World.rowIs.congr (World.rowIs.set h i _) fun j _ => by by_cases e : j = i <;> simp [e]
theorem Own.setOther (h : Own w g E n X) {a : Addr} (ha : g ≠ a.block) (v : Value) : Own (w.setCell a v) g E n X := World.rowIs.setOther h ha v
end

theorem below_grown {w w' : World} (h : w.grownBy w' none) : Below w.heap.size w w' := ⟨h.os, h.tape, h.output, h.size, fun k hk => h.block k hk (by simp)⟩
theorem below_grownBy {w w' : World} {g B : Nat} (h : w.grownBy w' (some g)) (hB : B ≤ w.heap.size) (hg : B ≤ g) : Below B w w' :=
  ⟨h.os, h.tape, h.output, h.size, fun k hk => h.block k (by omega) (fun e => by cases e; omega)⟩
theorem grownBy_of {w w' : World} (h : Below w.heap.size w w') (row : Option Nat) : w.grownBy w' row := ⟨h.os, h.tape, h.output, h.size, fun k hk _ => h.block k hk⟩
theorem grownBy_trans {a b c : World} {row : Option Nat} (h : a.grownBy b row) (k : b.grownBy c row) : a.grownBy c row :=
  ⟨k.os.trans h.os, k.tape.trans h.tape, k.output.trans h.output, Nat.le_trans h.size k.size, fun i hi hr => (k.block i (Nat.lt_of_lt_of_le hi h.size) hr).trans (h.block i hi hr)⟩
theorem grownBy_refl (w : World) (row : Option Nat) : w.grownBy w row := ⟨rfl, rfl, rfl, Nat.le_refl _, fun _ _ _ => rfl⟩
theorem grownBy_set {w w' : World} {g : Nat} (h : w.grownBy w' (some g)) (i : Nat) (v : Value) : w.grownBy (w'.setCell ⟨g, i, none⟩ v) (some g) :=
  ⟨h.os, h.tape, h.output, by simpa using h.size, fun k hk hr => (Below.heap_setCell _ _ _ _ (fun e => hr (by rw [e]))).trans (h.block k hk hr)⟩
theorem grownBy_drewN {w w' : World} {row : Option Nat} (h : w.grownBy w' row) (n : Nat) : w.grownBy (w'.drewN n) row := ⟨h.os, h.tape, h.output, h.size, h.block⟩
theorem grownBy_drew {w w' : World} {row : Option Nat} (h : w.grownBy w' row) : w.grownBy w'.drew row := ⟨h.os, h.tape, h.output, h.size, h.block⟩

/-- what make lays for structs of whole numbers: zeros -/
theorem own_made (w : World) (z : Array Value) (m n : Nat) (E : TypeId) (hz : ∀ i, i < z.size → z[i]? = some (.int .i64 0)) (hm : 0 < z.size) (hn : m = n) : Own (w.alloc (.cells (madeCells z m) E)) w.heap.size E n (fun _ => 0) := by
  subst hn
  refine ⟨_, Go.Deep.blk_alloc_new _ _, size_madeCells _ _, fun i hi => ?_⟩
  have h1 : i % z.size < z.size := Nat.mod_lt _ hm
  have h2 := hz _ h1
  simp only [madeCells, Array.getElem?_map, Array.getElem?_range, hi, if_true, Option.map_some]
  rw [getElem!_pos z (i % z.size) h1]
  rw [Array.getElem?_eq_getElem h1] at h2
  exact h2
theorem run_make_rows {P : Program} (t e : TypeId) (z : Value) (k bytes : Nat) (ht : P.underlying t = some (.slice e)) (hinfo : (P.info? e).map (fun i => (i.zero, i.size, i.bytes)) = some (some z, k, bytes))
    (kl kc : IntKind) (n : Nat) (hbytes : bytes * n ≤ 281474976710656) (h63 : n ≤ 9223372036854775807) (w : World) :
    (Instr.makeSlice t (.int kl (n : Int)) (.int kc (n : Int))).run P w = .ok (.slice (some ⟨w.heap.size, 0, none⟩) n n) (w.alloc (.cells (madeCells z.cells (n * k)) e)) := by
  obtain ⟨i, hi, hzz⟩ := Option.map_eq_some_iff.1 hinfo
  simp only [Prod.mk.injEq] at hzz
  obtain ⟨hz, hs, hb⟩ := hzz
  have hb' : (i.bytes : Int) * (n : Int) ≤ 281474976710656 := by
    rw [hb]
    have h : ((bytes * n : Nat) : Int) ≤ 281474976710656 := by omega
    rwa [Int.natCast_mul] at h
  have hr := run_make (P := P) w t e i z ht hi hz kl kc n n (by omega) (Int.le_refl _) hb' (by omega)
  simp only [Int.toNat_natCast, hs] at hr
  exact hr

/-- a slice value of n elements of k whole numbers each, nil or not -/
def Sl (w : World) (A : Option Addr) (n k : Nat) (X : Nat → Int) : Prop := 0 < n → ∃ b o, A = some ⟨b, o, none⟩ ∧ b < w.heap.size ∧ Ints w b o (n * k) X

/-- the answer is a new slice of n elements of type E, k numbers each -/
def NewRow (w : World) (n : Nat) (E : TypeId) (m : Nat) (X : Nat → Int) (e : Ending) (w' : World) : Prop :=
  ∃ g, e = .returned (.slice (some ⟨g, 0, none⟩) n n) ∧ w.heap.size ≤ g ∧ Own w' g E m X ∧ Below w.heap.size w w'

end Go.Proofs.Ytmaakconbaiagaa.mem
