/-
  Rows of bytes of the call's own, and the texts that are made of them. No function of the program lies here.
-/
import Derived.Test.YtakcgeafcecimaaDoorAppend
import Derived.Test.YtakcgeafcecimaaDoorOwnV
import Derived.Test.YtakcgeafcecimaaDoorWk
import Derived.Laws.BytesString
import Derived.Laws.BytesArg
namespace Go.Proofs.YtakcgeafcecimaaDoor.wk
open Go.ChangeShapes Go.WideShapes Go.ChangeAt Go.RowKit
open Go.Proofs.YtakcgeafcecimaaDoor.mem Go.Proofs.YtakcgeafcecimaaDoor.rod Go.Proofs.YtakcgeafcecimaaDoor.wv
set_option linter.unusedVariables false

def bv (b : UInt8) : Value := .int .u8 (b.toNat : Int)
theorem oneCell_bv (b : UInt8) : (bv b).oneCell' = true := rfl
theorem push_all (ns : List UInt8) : ∀ s : ByteArray, (ns.map fun b => (b.toNat : Int)).foldl (fun r n => r.push (UInt8.ofNat n.toNat)) s = ⟨s.data ++ ns.toArray⟩ := by
  induction ns with
  | nil => intro s; simp
  | cons b ns ih =>
    intro s
    simp only [List.map_cons, List.foldl_cons]
    rw [ih]
    congr 1
    simp [ByteArray.push]
theorem run_str_row {P : Program} (w : World) (src dst e : TypeId) (hs : P.underlying src = some (.slice e)) (he : P.underlying e = some (.int .u8)) (hd : P.underlying dst = some .string)
    (a : Addr) (n cap : Nat) (ds : List UInt8) (hn : ds.length = n) (h : ∀ (j : Nat) v, (ds.map bv)[j]? = some v → w.cell? (a.add j) = some v) :
    (convert src dst (.slice (some a) n cap)).run P w = .ok (.string ⟨ds.toArray⟩) w := by
  rw [run_convert_bytes_string w src dst e _ _ _ hs he hd]
  subst hn
  have hl := run_loadCells_list (P := P) (w := w) a (ds.map bv) h
  rw [List.length_map] at hl
  have e1 : ds.map bv = (ds.map fun b => (b.toNat : Int)).map (Value.int .u8) := by rw [List.map_map]; rfl
  rw [e1] at hl
  rw [run_bytesToString w a ds.length cap _ hl, push_all]
  congr 2
  simp
/-- the text of an owned row of bytes -/
theorem str_of_owns {P : Program} {w : World} (src dst e : TypeId) (hs : P.underlying src = some (.slice e)) (he : P.underlying e = some (.int .u8)) (hd : P.underlying dst = some .string)
    {B n : Nat} {v : Value} (l : List UInt8) (h : w.ownsRow B e 1 v n (l.map bv)) : (convert src dst v).run P w = .ok (.string ⟨l.toArray⟩) w := by
  obtain ⟨hl, h0⟩ := h
  rw [List.length_map, Nat.mul_one] at hl
  rcases h0 with ⟨rfl, rfl⟩ | ⟨g, cap, cur, rfl, hB, hh, hc, hm, hsz, ht⟩
  · have : l = [] := List.length_eq_zero_iff.1 hl
    subst this
    rw [run_convert_bytes_string w src dst e _ _ _ hs he hd]
    rfl
  · refine run_str_row w src dst e hs he hd _ _ _ l hl fun j u hj => ?_
    have := World.ownsRow.cells (w := w) (base := B) (e := e) (size := 1) (v := .slice (some ⟨g, 0, none⟩) n cap) (n := n) (xs := l.map bv) ⟨by rw [List.length_map, Nat.mul_one]; exact hl, .inr ⟨g, cap, cur, rfl, hB, hh, hc, hm, hsz, ht⟩⟩ (g := g) rfl j u hj
    exact this
theorem ownsB_empty (w : World) (B : Nat) (E : TypeId) (hB : B ≤ w.heap.size) : (w.alloc (Obj.cells #[] E)).ownsRow B E 1 (.slice (some ⟨w.heap.size, 0, none⟩) 0 0) 0 (([] : List UInt8).map bv) :=
  ⟨rfl, .inr ⟨w.heap.size, 0, #[], rfl, hB, Go.Deep.blk_alloc_new _ _, Nat.le_refl _, by unfold maxLen; omega, rfl, rfl⟩⟩
theorem ownsB_snoc {w : World} {B n : Nat} {E : TypeId} {v : Value} {l : List UInt8} {b : UInt8} (h : w.ownsRow B E 1 v (n + 1) (l.map bv ++ [bv b])) : w.ownsRow B E 1 v (n + 1) ((l ++ [b]).map bv) := by
  simpa using h

/-- the text whose bytes are told -/
def mkL (g : Nat → UInt8) (n : Nat) : List UInt8 := (List.range n).map g
def mkB (g : Nat → UInt8) (n : Nat) : ByteArray := ⟨(mkL g n).toArray⟩
theorem mkL_succ (g : Nat → UInt8) (n : Nat) : mkL g (n + 1) = mkL g n ++ [g n] := by unfold mkL; rw [List.range_succ, List.map_append]; rfl
theorem mkL_len (g : Nat → UInt8) (n : Nat) : (mkL g n).length = n := by unfold mkL; simp
theorem mkB_size (g : Nat → UInt8) (n : Nat) : (mkB g n).size = n := by
  show (mkL g n).toArray.size = n
  simp [mkL]
theorem mkB_byte (g : Nat → UInt8) {n i : Nat} (h : i < n) : byteAt (mkB g n) i = ((g i).toNat : Int) := by
  have hs : i < (mkB g n).size := by rw [mkB_size]; exact h
  rw [byteAt_eq hs]
  have : (mkB g n)[i]'hs = (mkL g n)[i]'(by rw [mkL_len]; exact h) := by rfl
  rw [this]
  simp [mkL]
/-- the byte at a place -/
def byteU (s : ByteArray) (i : Nat) : UInt8 := if h : i < s.size then s[i]'h else 0
theorem byteU_at (s : ByteArray) (i : Nat) : byteAt s i = ((byteU s i).toNat : Int) := by
  unfold byteAt byteU
  by_cases h : i < s.size
  · rw [dif_pos h, dif_pos h]
  · rw [dif_neg h, dif_neg h]; rfl
def sideU (s : ByteArray) (n r k : Nat) : UInt8 := byteU s ((r * n + k) % s.size)
theorem sideU_at (s : ByteArray) (n r k : Nat) : side (byteAt s) s.size n r k = ((sideU s n r k).toNat : Int) := byteU_at _ _
theorem sideV (s : ByteArray) (n r k : Nat) : Value.int .u8 (side (byteAt s) s.size n r k) = bv (sideU s n r k) := by rw [sideU_at]; rfl
end Go.Proofs.YtakcgeafcecimaaDoor.wk
