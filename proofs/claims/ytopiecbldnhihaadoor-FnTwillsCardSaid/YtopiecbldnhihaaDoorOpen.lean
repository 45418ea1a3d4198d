/-
  An argument that is a slice of structs of whole numbers, or a slice of whole numbers, read as one flat list of cells.
-/
import Derived.Test.YtopiecbldnhihaaDoorMem
import Derived.ShutString
import Derived.ChangeOld
import Derived.Lib.SmallJoins
import Derived.Deep.Slices
import Derived.Deep.Fields
namespace Go.Proofs.YtopiecbldnhihaaDoor.mem
open Go.ChangeShapes Go.WideShapes Go.ChangeAt Go.RowKit Go.Deep
set_option linter.unusedVariables false

theorem lt_of_cell {w : World} {b o : Nat} {v : Value} (h : w.cell? ⟨b, o, none⟩ = some v) : b < w.heap.size := by
  rcases Nat.lt_or_ge b w.heap.size with hlt | hge
  · exact hlt
  · have e : w.heap[b]? = none := Array.getElem?_eq_none hge
    simp [World.cell?, e] at h

section
variable {H : Type} {enc : TypeId × Value → H} {P : Program} {w : World} {base : Nat} {spare : Nat → Bool} {held : Bool}
theorem flat_of {len k : Nat} {a : Addr} (hk : 0 < k) (h : ∀ i, i < len → ∀ j, j < k → ∃ n, w.cell? (a.add (i * k + j)) = some (.int .i64 n) ∧ (Lit.int .i64 n).wf = true) :
    ∃ X : Nat → Int, Sl w (some a) len k X ∧ ∀ j, j < len * k → (Lit.int .i64 (X j)).wf = true := by
  have h' : ∀ j, j < len * k → ∃ n, w.cell? (a.add j) = some (.int .i64 n) ∧ (Lit.int .i64 n).wf = true := fun j hj => by
    have h1 : j / k < len := (Nat.div_lt_iff_lt_mul hk).2 hj
    have h2 : j % k < k := Nat.mod_lt _ hk
    have h3 := h (j / k) h1 (j % k) h2
    have h4 : j / k * k + j % k = j := by rw [Nat.mul_comm]; exact Nat.div_add_mod j k
    rwa [h4] at h3
  obtain ⟨X, hX⟩ := choose_lt h'
  refine ⟨X, fun hn => ?_, fun j hj => (hX j hj).2⟩
  have hpos : 0 < len * k := Nat.mul_pos hn hk
  have hc := (hX 0 hpos).1
  obtain ⟨b, off, spot⟩ := a
  have hspot : spot = none := by simpa [Addr.add] using World.cell?_spot hc
  subst hspot
  have hc0 : w.cell? ⟨b, off, none⟩ = some (.int .i64 (X 0)) := by simpa [Addr.add] using hc
  refine ⟨b, off, rfl, lt_of_cell hc0, fun j hj => ?_⟩
  have := (hX j hj).1
  unfold Addr.add at this
  split at this
  · rename_i e; subst e; simpa using this
  · simpa using this

theorem open_flat {t e : TypeId} {fs : Array Field} {fuel : Nat} {a0 : Option Addr} {len cap : Nat} {x : DataW H × List MemPlace} (ht : P.underlying t = some (.slice e)) (he : P.underlying e = some (.struct fs))
    (hone : oneCellFields P fs = true) (hC : P.cellsOf e = fs.size) (hpos : 0 < fs.size) (hint : ∀ (j : Nat) (f : Field), fs[j]? = some f → P.underlying f.type = some (.int .i64)) (h : DataW.trod enc P w base spare held fuel t [.slice a0 len cap] = some x) :
    len ≤ cap ∧ cap ≤ maxLen ∧ ∃ X : Nat → Int, Sl w a0 len fs.size X ∧ ∀ j, j < len * fs.size → (Lit.int .i64 (X j)).wf = true := by
  rcases open_slice ht h with ⟨hcs, _⟩ | ⟨a, l, c, m, n, D, Pl, hcs, hb, hl, hm, hmm, hx, hi⟩
  · simp at hcs
    obtain ⟨rfl, rfl, rfl⟩ := hcs
    exact ⟨Nat.le_refl _, by unfold maxLen; omega, fun _ => 0, fun hn => absurd hn (by omega), fun j hj => by simp at hj⟩
  · simp at hcs
    obtain ⟨rfl, rfl, rfl⟩ := hcs
    refine ⟨hl, hm, flat_of hpos fun i him j hj => ?_⟩
    have hle : len ≤ m := by rw [hmm]; split <;> omega
    obtain ⟨cs', hc, ht'⟩ := hi i (by omega)
    rw [hC] at hc
    obtain ⟨ys, n', hn', hy, hlen, hyl, hf⟩ := DataW.trod_struct he ht'
    obtain ⟨_, hcl, hat⟩ := World.cells?_some hc
    have hfj : fs[j]? = some (fs[j]'hj) := Array.getElem?_eq_getElem hj
    obtain ⟨ho, hk⟩ := hone_of hone j _ hfj
    have h1 := hf j _ hfj
    rw [ho, hk] at h1
    have hone' : (cs'.drop j).take 1 = [cs'[j]'(by omega)] := by
      rw [List.drop_eq_getElem_cons (by omega)]
      rfl
    rw [hone'] at h1
    have hys : ys[j]? = some (ys[j]'(by omega)) := List.getElem?_eq_getElem (by omega)
    obtain ⟨v, hv, _, hw⟩ := DataW.trod_int (hint j _ hfj) (h1.trans hys)
    refine ⟨v, ?_, hw⟩
    rw [← Go.Deep.add_add, hat j hj, List.getElem?_eq_getElem (by omega)]
    simp at hv
    rw [hv]

theorem open_nums {t e : TypeId} {fuel : Nat} {a0 : Option Addr} {len cap : Nat} {x : DataW H × List MemPlace} (ht : P.underlying t = some (.slice e)) (he : P.underlying e = some (.int .i64))
    (hC : P.cellsOf e = 1) (h : DataW.trod enc P w base spare held fuel t [.slice a0 len cap] = some x) :
    len ≤ cap ∧ cap ≤ maxLen ∧ ∃ X : Nat → Int, Sl w a0 len 1 X ∧ ∀ j, j < len * 1 → (Lit.int .i64 (X j)).wf = true := by
  rcases open_slice ht h with ⟨hcs, _⟩ | ⟨a, l, c, m, n, D, Pl, hcs, hb, hl, hm, hmm, hx, hi⟩
  · simp at hcs
    obtain ⟨rfl, rfl, rfl⟩ := hcs
    exact ⟨Nat.le_refl _, by unfold maxLen; omega, fun _ => 0, fun hn => absurd hn (by omega), fun j hj => by simp at hj⟩
  · simp at hcs
    obtain ⟨rfl, rfl, rfl⟩ := hcs
    refine ⟨hl, hm, flat_of (by omega) fun i him j hj => ?_⟩
    have hle : len ≤ m := by rw [hmm]; split <;> omega
    obtain ⟨cs', hc, ht'⟩ := hi i (by omega)
    rw [hC] at hc
    obtain ⟨_, hcl, hat⟩ := World.cells?_some hc
    obtain ⟨v, hv, _, hw⟩ := DataW.trod_int he ht'
    obtain rfl : j = 0 := by omega
    refine ⟨v, ?_, hw⟩
    have := hat 0 (by omega)
    rw [hv] at this
    simpa [Addr.add] using this
end

end Go.Proofs.YtopiecbldnhihaaDoor.mem
