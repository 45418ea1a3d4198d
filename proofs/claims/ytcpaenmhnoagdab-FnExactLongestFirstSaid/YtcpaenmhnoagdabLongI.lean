/-
  The rods by descending lengths: contracts of the program's, over the library's sort.Slice.
-/
import Derived.Test.YtcpaenmhnoagdabLongS
import Derived.Test.YtcpaenmhnoagdabShelf
import Derived.Shelf.GgSortFunc.Whole
import Derived.Shelf.GgSortFunc.Tiny
import Derived.Deep.QuietTactic
namespace Go.Proofs.Ytcpaenmhnoagdab.rod
open Go.ChangeShapes Go.WideShapes Go.ChangeAt Go.RowKit Go.Proofs.Ytcpaenmhnoagdab.mem Go.Proofs.Ytcpaenmhnoagdab.nums
set_option linter.unusedVariables false

set_option maxHeartbeats 2000000 in
theorem less_i (Bs Bl g c1 n b o c2 : Nat) (W : World) (D : Nat → Nat) (L : Nat → Int) (hs : W.cell? ⟨Bs, 0, none⟩ = some (.slice (some ⟨g, 0, none⟩) n c1)) (hl : W.cell? ⟨Bl, 0, none⟩ = some (.slice (some ⟨b, o, none⟩) n c2))
    (hc : ∀ t, t < n → W.cell? ⟨g, t, none⟩ = some (.int .i64 (D t : Nat))) (hD : ∀ t, t < n → D t < n) (hL : ∀ x, x < n → W.cell? ⟨b, o + x * 3, none⟩ = some (.int .i64 (L x))) (i j : Nat) (hi : i < n) (hj : j < n) :
    Calls Try.prog 83 #[.int .i64 i, .int .i64 j, .pointer (some ⟨Bs, 0, none⟩), .pointer (some ⟨Bl, 0, none⟩)] W fun e w' => e = .returned (.bool (bfr L (D i) (D j))) ∧ ∃ q, w' = W.drewN q := by
  have ci := hc i hi
  have cj := hc j hj
  have di := hD i hi
  have dj := hD j hj
  generalize D i = x at *
  generalize D j = y at *
  have xl := hL x di
  have yl := hL y dj
  clear hc hD hL
  by_cases he : L x = L y
  · have hr : bfr L x y = decide (x < y) := by unfold bfr; rw [he]; simp
    rw [hr]
    have hnb : (L x != L y) = false := by simp [he]
    clear he hr
    go_enter Try.func83, Try.ntmps83
    go_wp2
    go_quiet (fail)
    go_wp2
    go_quiet (fail)
    go_wp2
    go_ret
    first | exact ⟨rfl, (Drew.refl W).drewN _⟩ | exact ⟨rfl, ((Drew.refl W).drewN _).drewN _⟩
  · have hr : bfr L x y = decide (L y < L x) := by unfold bfr; simp [he]
    rw [hr]
    have hnb : (L x != L y) = true := by simp [he]
    clear he hr
    go_enter Try.func83, Try.ntmps83
    go_wp2
    go_quiet (fail)
    go_wp2
    go_quiet (fail)
    go_wp2
    go_quiet (fail)
    go_wp2
    go_ret
    first | exact ⟨rfl, (((Drew.refl W).drewN _).drewN _).drewN _⟩ | exact ⟨rfl, (Drew.refl W).drewN _⟩

/-- what a sort leaves in a block of the call's own -/
theorem own_sorted {w : World} {g n m : Nat} {E : TypeId} {X : Nat → Int} {α : Type} [Inhabited α] (enc : α → Value) (d : Array α) (os : Array Obj) (Y : Nat → Int) (h : Own w g E n X) (hd : d.size = n) (hY : ∀ j, j < n → enc d[j]! = .int .i64 (Y j)) :
    Own (Go.Sort.grow (Go.Sort.putRow enc (Go.Sort.ahead w m) g 0 d) os) g E n Y := by
  obtain ⟨cur, hb, hs, hc⟩ := h
  have hlt : g < w.heap.size := (Array.getElem?_eq_some_iff.1 hb).1
  have hb' : (Go.Sort.putRow enc (Go.Sort.ahead w m) g 0 d).heap[g]? = some (.cells (Go.Sort.putCells enc 0 d cur) E (0, 0)) := by
    simp [Go.Sort.putRow, Go.Sort.mapBlock, Go.Sort.ahead, Array.getElem?_modify, hb, Go.Sort.onCells]
  refine ⟨Go.Sort.putCells enc 0 d cur, ?_, by simp [Go.Sort.putCells]; exact hs, fun i hi => ?_⟩
  · rw [Go.Sort.heap_grow_old _ _ (by simp [Go.Sort.putRow, Go.Sort.mapBlock, Go.Sort.ahead]; exact hlt)]
    exact hb'
  · simp only [Go.Sort.putCells, Array.getElem?_mapIdx, hc i hi, Option.map_some]
    rw [if_pos ⟨Nat.zero_le _, by omega⟩, Nat.sub_zero, hY i hi]
theorem below_sorted {w : World} {g m B : Nat} {α : Type} [Inhabited α] (enc : α → Value) (d : Array α) (os : Array Obj) (hB : B ≤ g) (hw : B ≤ w.heap.size) : Below B w (Go.Sort.grow (Go.Sort.putRow enc (Go.Sort.ahead w m) g 0 d) os) := by
  refine ⟨rfl, rfl, rfl, ?_, fun k hk => ?_⟩
  · simp [Go.Sort.putRow, Go.Sort.mapBlock, Go.Sort.ahead]
  · rw [Go.Sort.heap_grow_old _ _ (by simp [Go.Sort.putRow, Go.Sort.mapBlock, Go.Sort.ahead]; omega)]
    simp only [Go.Sort.putRow, Go.Sort.mapBlock, Go.Sort.ahead, Array.getElem?_modify]
    rw [if_neg (by omega)]

theorem swo_bfr (L : Nat → Int) (n : Nat) : Go.Sort.SWO (fun x y : Fin n => bfr L x.val y.val) :=
  ⟨fun x => bfr_irrefl x.val, fun x y z h1 h2 => bfr_trans h1 h2, fun x y z h1 h2 => bfr_ntrans h1 h2⟩
noncomputable def siI : TypeInfo := (Try.prog.info? 2).get (by kernel_rfl)
theorem siK (n : Nat) (h2 : 2 ≤ n) : Lib.swapperK n siI 6 = 5 := by
  have a : siI.hasPointers = false := by kernel_rfl
  have b : siI.bytes = 8 := by kernel_rfl
  have c : (n == 0) = false := by simp; omega
  have d : (n == 1) = false := by simp; omega
  simp [Lib.swapperK, a, b, c, d]
def encF {n : Nat} (x : Fin n) : Value := .int .i64 (x.val : Int)

/-- the numbers 0 .. n-1, as a sort takes them -/
def allF (n : Nat) : Array (Fin n) := Array.ofFn fun x => x
theorem order_of {L : Nat → Int} {n : Nat} [Inhabited (Fin n)] {d' : Array (Fin n)} (hp : Go.Sort.PermIn 0 (allF n).size (allF n) d') (hs : Go.Sort.SortedIn (fun x y : Fin n => bfr L x.val y.val) 0 (allF n).size d') :
    d'.size = n ∧ ∀ j, j < n → encF d'[j]! = .int .i64 ((soI L n).getD j 0) := by
  have hn : (allF n).size = n := by simp [allF]
  obtain ⟨hsz, _, hperm⟩ := hp
  rw [hn] at hsz hs
  have e1 : d'.extract 0 (allF n).size = d' := by rw [show (allF n).size = d'.size by omega]; exact Array.extract_size
  rw [e1, Array.extract_size] at hperm
  have hl : (d'.toList.map Fin.val) = so L n := by
    refine so_unique ?_ ?_
    · have h1 := hperm.map Fin.val
      have h2 : (allF n).toList.map Fin.val = List.range n := by
        apply List.ext_getElem
        · simp [allF]
        · intro i h1 h2
          simp [allF]
      rw [h2] at h1
      exact h1
    · rw [List.pairwise_map, List.pairwise_iff_getElem]
      intro i j hi hj hij
      have h := hs i j (Nat.zero_le _) hij (by simp at hj; omega)
      simp at hi hj
      rw [getElem!_pos d' j (by omega), getElem!_pos d' i (by omega)] at h
      simpa using h
  refine ⟨hsz, fun j hj => ?_⟩
  rw [soI_at, ← hl, getElem!_pos d' j (by omega)]
  unfold encF
  rw [List.getD, List.getElem?_map, Array.getElem?_toList, Array.getElem?_eq_getElem (by omega)]
  rfl

theorem allF_size (n : Nat) : (allF n).size = n := by simp [allF]
theorem holds_all {w : World} {g n : Nat} {E : TypeId} [Inhabited (Fin n)] (h : Own w g E n (fun j => if j < n then (j : Int) else 0)) : Go.Sort.Holds encF w g 0 (allF n) := by
  intro j hj
  rw [allF_size] at hj
  refine ⟨?_, ?_⟩
  · have hc := h.cell hj
    rw [if_pos hj] at hc
    rw [Nat.zero_add, hc, getElem!_pos (allF n) j (by rw [allF_size]; exact hj)]
    simp [encF, allF]
  · rw [Nat.zero_add]; exact h.frozen j
theorem cell_sorted {w : World} {g m bk of : Nat} {v : Value} {α : Type} [Inhabited α] (enc : α → Value) (d : Array α) (os : Array Obj) (hne : bk ≠ g) (hg : g < w.heap.size) (h : w.cell? ⟨bk, of, none⟩ = some v) (hb : bk < w.heap.size) :
    (Go.Sort.grow (Go.Sort.putRow enc (Go.Sort.ahead w m) g 0 d) os).cell? ⟨bk, of, none⟩ = some v := by
  rw [Go.Sort.cell?_grow _ _ _ (by simp [Go.Sort.putRow, Go.Sort.mapBlock, Go.Sort.ahead]; exact hb), Go.Sort.cell?_putRow_other _ _ _ _ _ _ (Or.inl hne)]
  exact h
theorem less_reads {A : Option Addr} {Bs Bl g c1 c2 n : Nat} {X : Nat → Int} {L : Nat → Int} {W : World} {E : TypeId} [Inhabited (Fin n)] (hL : ∀ x, L x = X (x * 3)) (hs : W.cell? ⟨Bs, 0, none⟩ = some (.slice (some ⟨g, 0, none⟩) n c1)) (hl : W.cell? ⟨Bl, 0, none⟩ = some (.slice A n c2))
    (h1 : Bs ≠ g) (h2 : Bl ≠ g) (h3 : Bs < W.heap.size) (h4 : Bl < W.heap.size) (hA : 0 < n → ∃ b o, A = some ⟨b, o, none⟩ ∧ b < g ∧ Ints W b o (n * 3) X) (h : Own W g E n (fun j => if j < n then (j : Int) else 0)) :
    Go.Proofs.LessReads Try.prog 83 #[.pointer (some ⟨Bs, 0, none⟩), .pointer (some ⟨Bl, 0, none⟩)] encF (fun x y : Fin n => bfr L x.val y.val) g 0 (allF n).size W := by
  have hg := h.lt
  intro m os dk hsz i j hi hj
  rw [allF_size] at hsz hi hj
  obtain ⟨b, o, rfl, hb, hX⟩ := hA (by omega)
  have hH := holds_all h
  refine less_i Bs Bl g c1 n b o c2 _ (fun t => (dk[t]!).val) L (cell_sorted _ _ _ h1 hg hs h3) (cell_sorted _ _ _ h2 hg hl h4) (fun t ht => ?_) (fun t ht => (dk[t]!).isLt) (fun x hx => ?_) i j hi hj
  · have hr := Go.Sort.cell?_putRow encF (Go.Sort.ahead W m) g 0 (allF n) dk (Go.Sort.holds_ahead _ _ _ _ _ _ hH) (by rw [hsz, allF_size]) t (by omega)
    rw [Nat.zero_add] at hr
    show (Go.Sort.grow (Go.Sort.putRow encF (Go.Sort.ahead W m) g 0 dk) os).cell? _ = _
    rw [Go.Sort.cell?_grow _ _ _ (by simp [Go.Sort.putRow, Go.Sort.mapBlock, Go.Sort.ahead]; exact hg), hr]
    rfl
  · exact cell_sorted _ _ _ (by omega) hg (by rw [hX (x * 3) (by omega), hL]) (by omega)

end Go.Proofs.Ytcpaenmhnoagdab.rod
