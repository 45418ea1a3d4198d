/-
  Rows of bytes of the call's own, and the texts that are made of them. No function of the program lies here.
  Contracts: the grips of a weaver in all rounds, and whether it holds a stake on both sides; of the program.
-/
import Derived.Test.YtopiecbldnhihaaDoorFold5
import Derived.Test.YtopiecbldnhihaaDoorFold6
import Derived.Test.YtopiecbldnhihaaDoorFold4
import Derived.Laws.BytesString
import Derived.Laws.BytesArg
import Derived.Test.YtopiecbldnhihaaDoorGm
namespace Go.Proofs.YtopiecbldnhihaaDoor.wk
open Go.ChangeShapes Go.WideShapes Go.ChangeAt Go.RowKit
open Go.Proofs.YtopiecbldnhihaaDoor.mem Go.Proofs.YtopiecbldnhihaaDoor.rod Go.Proofs.YtopiecbldnhihaaDoor.wv
set_option linter.unusedVariables false

def bv (b : UInt8) : Value := .int .u8 (b.toNat : Int)
theorem oneCell_bv (b : UInt8) : (bv b).oneCell' = true := rfl
theorem push_all (ns : List UInt8) : ∀ s : ByteArray, (ns.map fun b => (b.toNat : Int)).foldl (fun r n => r.push (UInt8.ofNat n.toNat)) s = ⟨s.data ++ ns.toArray⟩ := by
  induction ns with
  | nil => intro s; simp
  | cons b ns ih =>
    intro s
    simp only [List.map_cons, List.foldl_cons]
    rw [ih]
    congr 1
    simp [ByteArray.push]
theorem run_str_row {P : Program} (w : World) (src dst e : TypeId) (hs : P.underlying src = some (.slice e)) (he : P.underlying e = some (.int .u8)) (hd : P.underlying dst = some .string)
    (a : Addr) (n cap : Nat) (ds : List UInt8) (hn : ds.length = n) (h : ∀ (j : Nat) v, (ds.map bv)[j]? = some v → w.cell? (a.add j) = some v) :
    (convert src dst (.slice (some a) n cap)).run P w = .ok (.string ⟨ds.toArray⟩) w := by
  rw [run_convert_bytes_string w src dst e _ _ _ hs he hd]
  subst hn
  have hl := run_loadCells_list (P := P) (w := w) a (ds.map bv) h
  rw [List.length_map] at hl
  have e1 : ds.map bv = (ds.map fun b => (b.toNat : Int)).map (Value.int .u8) := by rw [List.map_map]; rfl
  rw [e1] at hl
  rw [run_bytesToString w a ds.length cap _ hl, push_all]
  congr 2
  simp
/-- the text of an owned row of bytes -/
theorem str_of_owns {P : Program} {w : World} (src dst e : TypeId) (hs : P.underlying src = some (.slice e)) (he : P.underlying e = some (.int .u8)) (hd : P.underlying dst = some .string)
    {B n : Nat} {v : Value} (l : List UInt8) (h : w.ownsRow B e 1 v n (l.map bv)) : (convert src dst v).run P w = .ok (.string ⟨l.toArray⟩) w := by
  obtain ⟨hl, h0⟩ := h
  rw [List.length_map, Nat.mul_one] at hl
  rcases h0 with ⟨rfl, rfl⟩ | ⟨g, cap, cur, rfl, hB, hh, hc, hm, hsz, ht⟩
  · have : l = [] := List.length_eq_zero_iff.1 hl
    subst this
    rw [run_convert_bytes_string w src dst e _ _ _ hs he hd]
    rfl
  · refine run_str_row w src dst e hs he hd _ _ _ l hl fun j u hj => ?_
    have := World.ownsRow.cells (w := w) (base := B) (e := e) (size := 1) (v := .slice (some ⟨g, 0, none⟩) n cap) (n := n) (xs := l.map bv) ⟨by rw [List.length_map, Nat.mul_one]; exact hl, .inr ⟨g, cap, cur, rfl, hB, hh, hc, hm, hsz, ht⟩⟩ (g := g) rfl j u hj
    exact this
theorem ownsB_empty (w : World) (B : Nat) (E : TypeId) (hB : B ≤ w.heap.size) : (w.alloc (Obj.cells #[] E)).ownsRow B E 1 (.slice (some ⟨w.heap.size, 0, none⟩) 0 0) 0 (([] : List UInt8).map bv) :=
  ⟨rfl, .inr ⟨w.heap.size, 0, #[], rfl, hB, Go.Deep.blk_alloc_new _ _, Nat.le_refl _, by unfold maxLen; omega, rfl, rfl⟩⟩
theorem ownsB_snoc {w : World} {B n : Nat} {E : TypeId} {v : Value} {l : List UInt8} {b : UInt8} (h : w.ownsRow B E 1 v (n + 1) (l.map bv ++ [bv b])) : w.ownsRow B E 1 v (n + 1) ((l ++ [b]).map bv) := by
  simpa using h

/-- the text whose bytes are told -/
def mkL (g : Nat → UInt8) (n : Nat) : List UInt8 := (List.range n).map g
def mkB (g : Nat → UInt8) (n : Nat) : ByteArray := ⟨(mkL g n).toArray⟩
theorem mkL_succ (g : Nat → UInt8) (n : Nat) : mkL g (n + 1) = mkL g n ++ [g n] := by unfold mkL; rw [List.range_succ, List.map_append]; rfl
theorem mkL_len (g : Nat → UInt8) (n : Nat) : (mkL g n).length = n := by unfold mkL; simp
theorem mkB_size (g : Nat → UInt8) (n : Nat) : (mkB g n).size = n := by
  show (mkL g n).toArray.size = n
  simp [mkL]
theorem mkB_byte (g : Nat → UInt8) {n i : Nat} (h : i < n) : byteAt (mkB g n) i = ((g i).toNat : Int) := by
  have hs : i < (mkB g n).size := by rw [mkB_size]; exact h
  rw [byteAt_eq hs]
  have : (mkB g n)[i]'hs = (mkL g n)[i]'(by rw [mkL_len]; exact h) := by rfl
  rw [this]
  simp [mkL]
/-- the byte at a place -/
def byteU (s : ByteArray) (i : Nat) : UInt8 := if h : i < s.size then s[i]'h else 0
theorem byteU_at (s : ByteArray) (i : Nat) : byteAt s i = ((byteU s i).toNat : Int) := by
  unfold byteAt byteU
  by_cases h : i < s.size
  · rw [dif_pos h, dif_pos h]
  · rw [dif_neg h, dif_neg h]; rfl
def sideU (s : ByteArray) (n r k : Nat) : UInt8 := byteU s ((r * n + k) % s.size)
theorem sideU_at (s : ByteArray) (n r k : Nat) : side (byteAt s) s.size n r k = ((sideU s n r k).toNat : Int) := byteU_at _ _
theorem sideV (s : ByteArray) (n r k : Nat) : Value.int .u8 (side (byteAt s) s.size n r k) = bv (sideU s n r k) := by rw [sideU_at]; rfl
end Go.Proofs.YtopiecbldnhihaaDoor.wk

namespace Go.Proofs.YtopiecbldnhihaaDoor.wk
open Go.ChangeShapes Go.WideShapes Go.ChangeAt Go.RowKit
open Go.Proofs.YtopiecbldnhihaaDoor.mem Go.Proofs.YtopiecbldnhihaaDoor.rod Go.Proofs.YtopiecbldnhihaaDoor.wv Go.Proofs.YtopiecbldnhihaaDoor.gm
set_option linter.unusedVariables false

theorem wpList_mapUpdate_gm {P : Program} (w : World) {ops : Array Oper} {rest : List Oper} {o : Oper} {a : Act} {Q : Exit → Act → World → Prop}
    (hg : o.guard = none) (m x v : Operand) (t : TypeId) (hop : o.op = Op.mapUpdate t m x v) (k e : TypeId) (K : WideMaps.KeyLaw P k) (ht : P.underlying t = some (.map k e)) (b : Nat) (S : Value → Prop)
    (hm : a.eval m = .map (some b)) (hgm : GM P k w b S) (key : Value) (kl : Lit) (hx : a.eval x = key) (hv : a.eval v = .bool true) (hkey : keyOf P k key = some kl)
    (hK : ∀ w', GM P k w' b (fun u => S u ∨ u = key) → w.grownBy w' (some b) → wpList P ops Q rest (a.put o.dst undef) w') :
    wpList P ops Q (o :: rest) a w := by
  refine wpList_plain hg fun K' hK' => ?_
  obtain ⟨w', hrun, r1, r2⟩ := hgm.update K ht hkey
  unfold Oper.wp
  simp [execOp, hop, hm, hx, hv, hrun, Result.andThen]
  exact hK' _ _ (hK w' r1 r2)

/-- the grips of the rounds ahead of r, and of the stakes ahead of k in it -/
def grS (s : ByteArray) (n r k : Nat) (v : Value) : Prop := ∃ r' k' : Nat, (r' < r ∧ k' < n ∨ r' = r ∧ k' < k) ∧ v = gk (k' : Int) ((sideU s n r' k').toNat : Int)
theorem grS_0 (s : ByteArray) (n : Nat) (v : Value) : False ↔ grS s n 0 0 v := ⟨False.elim, fun ⟨r', k', h, _⟩ => by omega⟩
theorem grS_step (s : ByteArray) (n r k : Nat) (v : Value) : (grS s n r k v ∨ v = gk (k : Int) ((sideU s n r k).toNat : Int)) ↔ grS s n r (k + 1) v := by
  constructor
  · rintro (⟨r', k', h, e⟩ | e)
    · exact ⟨r', k', by omega, e⟩
    · exact ⟨r, k, .inr ⟨rfl, by omega⟩, e⟩
  · rintro ⟨r', k', h, e⟩
    by_cases hk : r' = r ∧ k' = k
    · obtain ⟨rfl, rfl⟩ := hk; exact .inr e
    · exact .inl ⟨r', k', by omega, e⟩
theorem grS_row (s : ByteArray) (n r : Nat) (v : Value) : grS s n r n v ↔ grS s n (r + 1) 0 v :=
  ⟨fun ⟨r', k', h, e⟩ => ⟨r', k', by omega, e⟩, fun ⟨r', k', h, e⟩ => ⟨r', k', by omega, e⟩⟩
theorem gk_inj {a c a' c' : Int} (h : gk a c = gk a' c') : a = a' ∧ c = c' := by
  unfold gk at h
  simp at h
  exact h
/-- the side is met at the stake -/
theorem grS_has (s : ByteArray) (n k R : Nat) (c : Int) (hk : k < n) : grS s n R 0 (gk (k : Int) c) ↔ ∃ r, r < R ∧ stk (byteAt s) s.size n k r = c := by
  constructor
  · rintro ⟨r', k', h, e⟩
    obtain ⟨e1, e2⟩ := gk_inj e
    have : k = k' := by omega
    subst this
    exact ⟨r', by omega, by show side _ _ _ _ _ = _; rw [sideU_at]; exact e2.symm⟩
  · rintro ⟨r, hr, e⟩
    exact ⟨r, k, by omega, by rw [← sideU_at]; show _ = gk (k : Int) (stk (byteAt s) s.size n k r); rw [e]⟩
theorem side_kinds {s : ByteArray} (hs : strokeB s = true) (n r k : Nat) : side (byteAt s) s.size n r k = 70 ∨ side (byteAt s) s.size n r k = 66 := by
  obtain ⟨h0, _, h2⟩ := stroke_of hs
  exact h2 _ (Nat.mod_lt _ h0)
theorem both_iff {s : ByteArray} (hs : strokeB s = true) {n k : Nat} (hk : k < n) :
    (!looseB (byteAt s) s.size n k) = true ↔ grS s n (rnd s.size n) 0 (gk (k : Int) 70) ∧ grS s n (rnd s.size n) 0 (gk (k : Int) 66) := by
  rw [grS_has s n k _ _ hk, grS_has s n k _ _ hk, ← two_kinds (f := stk (byteAt s) s.size n k) (rnd_pos n (stroke_of hs).1) (fun r _ => side_kinds hs n r k)]
  unfold looseB
  simp
theorem wf_i64 {a : Int} (h : 0 ≤ a) (h1 : a ≤ 1000000) : (Lit.int .i64 a).wf = true := WalkArith.wf_i64 (by omega)
theorem wf_u8 (b : UInt8) : (Lit.int .u8 (b.toNat : Int)).wf = true := by
  have := b.toNat_lt
  simp [Lit.wf, IntKind.min, IntKind.max, IntKind.signed, IntKind.bits]
  omega

end Go.Proofs.YtopiecbldnhihaaDoor.wk
