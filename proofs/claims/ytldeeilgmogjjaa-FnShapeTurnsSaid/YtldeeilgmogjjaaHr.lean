/-
  The table of known plans: what it holds, a look-up, a store. No condition of a statement lies here.
-/
import Derived.Test.YtldeeilgmogjjaaHq
import Derived.Test.YtldeeilgmogjjaaHh
import Derived.Maps.Own
import Derived.Maps.OwnOps
import Derived.DeepKeys5
import Derived.Defers
import Derived.Recover
import Derived.Test.YtldeeilgmogjjaaOpen
import Derived.Test.YtldeeilgmogjjaaNums
import Derived.Test.YtldeeilgmogjjaaIn
namespace Go.Proofs.Ytldeeilgmogjjaa.shp
open Go.ChangeShapes Go.WideShapes Go.ChangeAt Go.RowKit Go.Proofs.Ytldeeilgmogjjaa.mem Go.Proofs.Ytldeeilgmogjjaa.rod Go.Proofs.Ytldeeilgmogjjaa.nums
set_option linter.unusedVariables false
set_option maxRecDepth 100000

open Go.MapKept Go.ChangeMaps
/-- a place: a level with a number of stakes -/
def pk (i : Nat) (s : Int) : Value := .agg #[.int .i64 (i : Int), .int .i64 s]
theorem pk_inj {i j : Nat} {s t : Int} (h : pk i s = pk j t) : i = j ∧ s = t := by
  unfold pk at h
  injection h with h
  injection h with h
  injection h with h1 h2
  injection h2 with h2 _
  injection h1 with _ h1
  injection h2 with _ h2
  exact ⟨by omega, h2⟩
theorem laidOut' : laidOutB Try.prog = true := by kernel_rfl
theorem keyed : WideMaps.KeyLaw Try.prog 72 := deep_law_gate laidOut' (by decide +kernel) (by decide +kernel) (by kernel_rfl) (by kernel_rfl)
theorem cells2 : Try.prog.cellsOf 72 = 2 := by kernel_rfl
theorem cellsA : Try.prog.cellsOf 2 = 1 := by kernel_rfl
theorem isKey : Try.prog.keyType 72 = true := by kernel_rfl
theorem depth_pos : ∃ m, Try.prog.types.size = m + 1 := ⟨Try.prog.types.size - 1, by decide +kernel⟩
theorem key_of {i : Nat} {s : Int} (hi : i ≤ 12) (s0 : 3 ≤ s) (s1 : s ≤ 60) : ∃ l, keyOf Try.prog 72 (pk i s) = some l := by
  obtain ⟨m, hm⟩ := depth_pos
  have wa : (Lit.int .i64 (i : Int)).wf = true := by have q1 : IntKind.i64.min = -9223372036854775808 := rfl; have q2 : IntKind.i64.max = 9223372036854775807 := rfl; simp [Lit.wf]; omega
  have wc : (Lit.int .i64 s).wf = true := by have q1 : IntKind.i64.min = -9223372036854775808 := rfl; have q2 : IntKind.i64.max = 9223372036854775807 := rfl; simp [Lit.wf]; omega
  refine ⟨.string (keyBytes [.int .i64 (i : Int), .int .i64 s]), ?_⟩
  unfold keyOf
  simp only [Try.underlying72]
  rw [if_pos (by simp [isKey, Value.formed, Try.underlying72, cells2, pk]), hm]
  unfold Program.keyLits
  simp only [Try.underlying72, Value.cells, pk]
  simp [cells2, cellsA, Program.keyLits, Try.underlying2, wa, wc, List.mapM_cons]

/-- a slice value that is a plan, in a row of its own from block K on, not in block b -/
def PlanV (w : World) (K b : Nat) (v : Value) (l : List Int) : Prop := ∃ g c, v = .slice (some ⟨g, 0, none⟩) l.length c ∧ l.length ≤ c ∧ c ≤ maxLen ∧ K ≤ g ∧ g ≠ b ∧ Own w g 2 l.length (fun j => l.getD j 0)
theorem PlanV.keep {w w' : World} {K b : Nat} {v : Value} {l : List Int} (h : PlanV w K b v l) (hk : ∀ g, g < w.heap.size → g ≠ b → w'.heap[g]? = w.heap[g]?) : PlanV w' K b v l := by
  obtain ⟨g, c, e, h1, h2, h3, h4, ho⟩ := h
  exact ⟨g, c, e, h1, h2, h3, h4, ho.of_block (hk g ho.lt h4)⟩
/-- the value is a plan, or nil if there is none -/
def OptV (w : World) (K b : Nat) (v : Value) : Option (List Int) → Prop
  | none => v = .slice none 0 0
  | some l => PlanV w K b v l
theorem OptV.slice {w : World} {K b : Nat} {v : Value} {o : Option (List Int)} (h : OptV w K b v o) : ∃ A l c, v = .slice A l c := by
  cases o with
  | none => exact ⟨_, _, _, h⟩
  | some l => obtain ⟨g, c, e, _⟩ := h; exact ⟨_, _, _, e⟩
theorem OptV.keep {w w' : World} {K b : Nat} {v : Value} {o : Option (List Int)} (h : OptV w K b v o) (hk : ∀ g, g < w.heap.size → g ≠ b → w'.heap[g]? = w.heap[g]?) : OptV w' K b v o := by
  cases o with
  | none => exact h
  | some l => exact PlanV.keep h hk
/-- block b is a table of plans: each one is that of its place -/
def Memo (w : World) (b K n : Nat) (F : Nat → Int → Option (List Int)) : Prop :=
  ∃ es clock, w.heap[b]? = some (.map es clock) ∧ ∀ e ∈ es.toList, ∃ (i : Nat) (s : Int), e.key = pk i s ∧ i < n ∧ 3 ≤ s ∧ s ≤ 60 ∧ OptV w K b e.val (F i s)
theorem Memo.lt {w : World} {b K n : Nat} {F : Nat → Int → Option (List Int)} (h : Memo w b K n F) : b < w.heap.size := by
  obtain ⟨es, clock, hb, _⟩ := h
  exact (Array.getElem?_eq_some_iff.1 hb).1
theorem Memo.keep {w w' : World} {b K n : Nat} {F : Nat → Int → Option (List Int)} (h : Memo w b K n F) (hk : ∀ g, g < w.heap.size → w'.heap[g]? = w.heap[g]?) : Memo w' b K n F := by
  have hl := h.lt
  obtain ⟨es, clock, hb, h1⟩ := h
  exact ⟨es, clock, (hk b hl).trans hb, fun e he => by
    obtain ⟨i, s, a1, a2, a3, a4, a5⟩ := h1 e he
    exact ⟨i, s, a1, a2, a3, a4, a5.keep fun g hg _ => hk g hg⟩⟩
theorem memo_made (w : World) (K n : Nat) (F : Nat → Int → Option (List Int)) : Memo (w.alloc (.map #[] 0)) w.heap.size K n F :=
  ⟨#[], 0, (MapKept.heap_alloc w _).1, by simp⟩
theorem entry_keyed {n : Nat} (hn : n ≤ 12) {e : MapEntry} {i : Nat} {s : Int} (h1 : e.key = pk i s) (h2 : i < n) (h3 : 3 ≤ s) (h4 : s ≤ 60) : ∃ l, keyOf Try.prog 72 e.key = some l := by
  rw [h1]; exact key_of (by omega) h3 h4
/-- a look-up -/
theorem Memo.lookup {w0 w : World} {b K n : Nat} {F : Nat → Int → Option (List Int)} (h : Memo w0 b K n F) (hk : ∀ g, g < w0.heap.size → w.heap[g]? = w0.heap[g]?) (hn : n ≤ 12) {i : Nat} {s : Int} (hi : i < n) (s0 : 3 ≤ s) (s1 : s ≤ 60) :
    (Instr.lookup 47 (.map (some b)) (pk i s) true).run Try.prog w = .ok (.tuple #[.slice none 0 0, .bool false]) w ∨ ∃ v, (Instr.lookup 47 (.map (some b)) (pk i s) true).run Try.prog w = .ok (.tuple #[v, .bool true]) w ∧ OptV w0 K b v (F i s) := by
  have hbl := h.lt
  obtain ⟨es, clock, hb0, h1⟩ := h
  have hb := (hk b hbl).trans hb0
  obtain ⟨kl, hkey⟩ := key_of (i := i) (s := s) (by omega) s0 s1
  have hz : (zeroValue 50).run Try.prog w = .ok (.slice none 0 0) w := Try.zeroValue50 w
  rcases keyed.find w hkey es.toList (fun x hx => by obtain ⟨i, s, a1, a2, a3, a4, _⟩ := h1 x hx; exact entry_keyed hn a1 a2 a3 a4) with ⟨f1, f2⟩ | ⟨j, e0, f1, f2, f3⟩
  · left
    simp [Instr.lookup, run_underlying Try.underlying47, MapKept.run_getObj_map hb, keyed.check w _ hkey, f1, hz, Result.andThen]
  · right
    have hm : e0 ∈ es.toList := List.mem_of_getElem? f2
    obtain ⟨i', s', a1, a2, a3, a4, a5⟩ := h1 e0 hm
    obtain ⟨rfl, rfl⟩ := pk_inj (a1.symm.trans f3)
    refine ⟨e0.val, ?_, a5⟩
    simp [Instr.lookup, run_underlying Try.underlying47, MapKept.run_getObj_map hb, keyed.check w _ hkey, f1, Result.andThen]
/-- a store -/
theorem Memo.update {w : World} {b K n : Nat} {F : Nat → Int → Option (List Int)} (h : Memo w b K n F) (hn : n ≤ 12) {i : Nat} {s : Int} (hi : i < n) (s0 : 3 ≤ s) (s1 : s ≤ 60) {v : Value} (hv : OptV w K b v (F i s)) :
    ∃ w', (Instr.mapUpdate 47 (.map (some b)) (pk i s) v).run Try.prog w = .ok () w' ∧ Memo w' b K n F ∧ w.grownBy w' (some b) := by
  obtain ⟨es, clock, hb, h1⟩ := h
  obtain ⟨kl, hkey⟩ := key_of (i := i) (s := s) (by omega) s0 s1
  have hbl : b < w.heap.size := (Array.getElem?_eq_some_iff.1 hb).1
  have hother : ∀ o (g : Nat), g < w.heap.size → g ≠ b → (setBlock w b o).heap[g]? = w.heap[g]? := fun o g hg hne => heap_setBlock_other hb _ hne
  rcases keyed.find w hkey es.toList (fun x hx => by obtain ⟨i, s, a1, a2, a3, a4, _⟩ := h1 x hx; exact entry_keyed hn a1 a2 a3 a4) with ⟨f1, f2⟩ | ⟨j, e0, f1, f2, f3⟩
  · refine ⟨setBlock w b (.map (es.push ⟨pk i s, v, clock⟩) (clock + 1)), ?_, ⟨_, _, heap_setBlock_same hb _, ?_⟩, ⟨rfl, rfl, rfl, by simp [setBlock], fun g _ hi => heap_setBlock_other hb _ (fun e => hi (by rw [e]))⟩⟩
    · simp [Instr.mapUpdate, run_underlying Try.underlying47, MapKept.run_getObj_map hb, keyed.check w false hkey, f1, MapKept.run_setObj_map _ hb, Result.andThen, setBlock]
    · intro x hx
      simp only [Array.toList_push, List.mem_append, List.mem_singleton] at hx
      rcases hx with hx | rfl
      · obtain ⟨i', s', a1, a2, a3, a4, a5⟩ := h1 x hx
        exact ⟨i', s', a1, a2, a3, a4, a5.keep (hother _)⟩
      · exact ⟨i, s, rfl, hi, s0, s1, hv.keep (hother _)⟩
  · have hj : es[j]? = some e0 := by simpa using f2
    have hlist : (es.modify j (fun e' => { e' with key := pk i s, val := v })).toList = es.toList.set j { e0 with key := pk i s, val := v } := by rw [Array.toList_modify, modify_eq_set _ _ _ _ f2]
    refine ⟨setBlock w b (.map (es.modify j (fun e' => { e' with key := pk i s, val := v })) clock), ?_, ⟨_, _, heap_setBlock_same hb _, ?_⟩, ⟨rfl, rfl, rfl, by simp [setBlock], fun g _ hi => heap_setBlock_other hb _ (fun e => hi (by rw [e]))⟩⟩
    · simp [Instr.mapUpdate, run_underlying Try.underlying47, MapKept.run_getObj_map hb, keyed.check w false hkey, f1, hj, f3, keyed.stays w hkey, MapKept.run_setObj_map _ hb, Result.andThen, setBlock]
    · intro x hx
      rw [hlist] at hx
      obtain ⟨q, hq, ex⟩ := List.getElem_of_mem hx
      rw [List.getElem_set] at ex
      split at ex
      · subst ex; exact ⟨i, s, rfl, hi, s0, s1, hv.keep (hother _)⟩
      · have hq' : q < es.toList.length := by simpa using hq
        obtain ⟨i', s', a1, a2, a3, a4, a5⟩ := h1 x (ex ▸ List.getElem_mem hq')
        exact ⟨i', s', a1, a2, a3, a4, a5.keep (hother _)⟩

/-- what stands while plans are found: the rules in block rb, the table in block b -/
structure Stand (w : World) (K rb b n : Nat) (V : Nat → Value) (F : Nat → Int → Option (List Int)) : Prop where
  rules : OwnV w rb 69 n V
  memo : Memo w b K n F
  far : rb ≠ b
  n12 : n ≤ 12
  base : K ≤ w.heap.size
theorem Stand.below {w w' : World} {K rb b n : Nat} {V : Nat → Value} {F : Nat → Int → Option (List Int)} (h : Stand w K rb b n V F) (hb : Below w.heap.size w w') : Stand w' K rb b n V F :=
  ⟨h.rules.below hb h.rules.lt, h.memo.keep fun g hg => hb.block g hg, h.far, h.n12, Nat.le_trans h.base hb.size⟩
/-- the answer is the plan of a place, and only the table and what is new may have changed -/
def Got (K rb b n : Nat) (V : Nat → Value) (F : Nat → Int → Option (List Int)) (w : World) (o : Option (List Int)) (e : Ending) (w' : World) : Prop :=
  ∃ v, e = .returned v ∧ OptV w' K b v o ∧ Stand w' K rb b n V F ∧ WroteIn w w' b (b + 1)
end Go.Proofs.Ytldeeilgmogjjaa.shp
