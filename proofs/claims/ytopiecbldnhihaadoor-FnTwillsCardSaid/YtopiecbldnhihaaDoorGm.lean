/-
  A map of the call's own from a stake and a side to true: what a store does, what a look-up answers.
-/
import Derived.Test.YtopiecbldnhihaaDoorMem
import Derived.Maps.Own
import Derived.Maps.OwnOps
import Derived.DeepKeys5
namespace Go.Proofs.YtopiecbldnhihaaDoor.gm
open Go.ChangeShapes Go.WideShapes Go.ChangeAt Go.RowKit
open Go.Proofs.YtopiecbldnhihaaDoor.mem
open Go.MapKept Go.ChangeMaps
set_option linter.unusedVariables false

/-! ### any program: a map whose elements are true, told by its keys -/
/-- block b is a map of true at just the keys of S -/
def GM (P : Program) (k : TypeId) (w : World) (b : Nat) (S : Value → Prop) : Prop :=
  ∃ es clock, w.heap[b]? = some (.map es clock) ∧ (∀ e ∈ es.toList, e.val = .bool true ∧ ∃ l, keyOf P k e.key = some l) ∧ ∀ v, (∃ e ∈ es.toList, e.key = v) ↔ S v
section
variable {P : Program} {k : TypeId} {w w' : World} {b : Nat} {S T : Value → Prop}
theorem GM.lt (h : GM P k w b S) : b < w.heap.size := by
  obtain ⟨es, clock, hb, _⟩ := h
  exact (Array.getElem?_eq_some_iff.1 hb).1
theorem GM.of_block (h : GM P k w b S) (e : w'.heap[b]? = w.heap[b]?) : GM P k w' b S := by
  obtain ⟨es, clock, hb, r⟩ := h
  exact ⟨es, clock, e.trans hb, r⟩
theorem GM.below {K : Nat} (h : GM P k w b S) (hb : Below K w w') (hK : b < K) : GM P k w' b S := h.of_block (hb.block b hK)
theorem GM.wrote {lo hi : Nat} (h : GM P k w b S) (hw : WroteIn w w' lo hi) (hd : ¬ (lo ≤ b ∧ b < hi)) : GM P k w' b S := h.of_block (hw.block b h.lt hd)
theorem GM.alloc (h : GM P k w b S) (o : Obj) : GM P k (w.alloc o) b S := h.of_block (Go.Deep.blk_alloc_lt _ _ _ h.lt)
theorem GM.drewN (h : GM P k w b S) (n : Nat) : GM P k (w.drewN n) b S := h
theorem GM.congr (h : GM P k w b S) (e : ∀ v, S v ↔ T v) : GM P k w b T := by
  obtain ⟨es, clock, hb, h1, h2⟩ := h
  exact ⟨es, clock, hb, h1, fun v => (h2 v).trans (e v)⟩
theorem gm_made (P : Program) (k : TypeId) (w : World) : GM P k (w.alloc (.map #[] 0)) w.heap.size (fun _ => False) :=
  ⟨#[], 0, (MapKept.heap_alloc w _).1, by simp, by simp⟩

/-- a store of true -/
theorem GM.update {t e : TypeId} (h : GM P k w b S) (K : WideMaps.KeyLaw P k) (ht : P.underlying t = some (.map k e)) {key : Value} {kl : Lit} (hkey : keyOf P k key = some kl) :
    ∃ w', (Instr.mapUpdate t (.map (some b)) key (.bool true)).run P w = .ok () w' ∧ GM P k w' b (fun v => S v ∨ v = key) ∧ w.grownBy w' (some b) := by
  obtain ⟨es, clock, hb, h1, h2⟩ := h
  rcases K.find w hkey es.toList (fun x hx => (h1 x hx).2) with ⟨f1, f2⟩ | ⟨j, e0, f1, f2, f3⟩
  · refine ⟨setBlock w b (.map (es.push ⟨key, .bool true, clock⟩) (clock + 1)), ?_, ⟨_, _, heap_setBlock_same hb _, ?_, ?_⟩, ⟨rfl, rfl, rfl, by simp [setBlock], fun i _ hi => heap_setBlock_other hb _ (fun e => hi (by rw [e]))⟩⟩
    · simp [Instr.mapUpdate, run_underlying ht, MapKept.run_getObj_map hb, K.check w false hkey, f1, MapKept.run_setObj_map _ hb, Result.andThen, setBlock]
    · intro x hx
      simp only [Array.toList_push, List.mem_append, List.mem_singleton] at hx
      rcases hx with hx | rfl
      · exact h1 x hx
      · exact ⟨rfl, _, hkey⟩
    · intro v
      simp only [Array.toList_push, List.mem_append, List.mem_singleton]
      rw [← h2 v]
      constructor
      · rintro ⟨x, hx | rfl, rfl⟩
        · exact .inl ⟨x, hx, rfl⟩
        · exact .inr rfl
      · rintro (⟨x, hx, rfl⟩ | rfl)
        · exact ⟨x, .inl hx, rfl⟩
        · exact ⟨_, .inr rfl, rfl⟩
  · have hj : es[j]? = some e0 := by simpa using f2
    have hjl : j < es.toList.length := (List.getElem?_eq_some_iff.1 f2).1
    have hlist : (es.modify j (fun e' => { e' with key := key, val := .bool true })).toList = es.toList.set j { e0 with key := key, val := .bool true } := by rw [Array.toList_modify, modify_eq_set _ _ _ _ f2]
    refine ⟨setBlock w b (.map (es.modify j (fun e' => { e' with key := key, val := .bool true })) clock), ?_, ⟨_, _, heap_setBlock_same hb _, ?_, ?_⟩, ⟨rfl, rfl, rfl, by simp [setBlock], fun i _ hi => heap_setBlock_other hb _ (fun e => hi (by rw [e]))⟩⟩
    · simp [Instr.mapUpdate, run_underlying ht, MapKept.run_getObj_map hb, K.check w false hkey, f1, hj, f3, K.stays w hkey, MapKept.run_setObj_map _ hb, Result.andThen, setBlock]
    · intro x hx
      rw [hlist] at hx
      obtain ⟨i, hi, ex⟩ := List.getElem_of_mem hx
      rw [List.getElem_set] at ex
      split at ex
      · subst ex; exact ⟨rfl, _, hkey⟩
      · have hi' : i < es.toList.length := by simpa using hi
        exact h1 x (ex ▸ List.getElem_mem hi')
    · intro v
      show _ ↔ (S v ∨ v = key)
      rw [hlist, ← h2 v]
      constructor
      · rintro ⟨x, hx, rfl⟩
        obtain ⟨i, hi, ex⟩ := List.getElem_of_mem hx
        rw [List.getElem_set] at ex
        split at ex
        · subst ex; exact .inr rfl
        · have hi' : i < es.toList.length := by simpa using hi
          exact .inl ⟨x, ex ▸ List.getElem_mem hi', rfl⟩
      · have hnew : ({ e0 with key := key, val := .bool true } : MapEntry) ∈ es.toList.set j { e0 with key := key, val := .bool true } := List.mem_iff_getElem.2 ⟨j, by simpa using hjl, by simp⟩
        rintro (⟨x, hx, rfl⟩ | rfl)
        · obtain ⟨i, hi, ex⟩ := List.getElem_of_mem hx
          by_cases hij : j = i
          · subst hij
            have : x = e0 := by rw [← ex]; rw [List.getElem?_eq_getElem hjl] at f2; exact Option.some.inj f2
            exact ⟨_, hnew, by rw [this, f3]⟩
          · exact ⟨x, List.mem_iff_getElem.2 ⟨i, by simpa using hi, by rw [List.getElem_set, if_neg hij]; exact ex⟩, rfl⟩
        · exact ⟨_, hnew, rfl⟩

/-- a look-up -/
theorem GM.lookup {t e : TypeId} (h : GM P k w b S) (K : WideMaps.KeyLaw P k) (ht : P.underlying t = some (.map k e)) (hz : (zeroValue e).run P w = .ok (.bool false) w) {key : Value} {kl : Lit} (hkey : keyOf P k key = some kl)
    (r : Bool) (hr : r = true ↔ S key) : (Instr.lookup t (.map (some b)) key false).run P w = .ok (.bool r) w := by
  obtain ⟨es, clock, hb, h1, h2⟩ := h
  rcases K.find w hkey es.toList (fun x hx => (h1 x hx).2) with ⟨f1, f2⟩ | ⟨j, e0, f1, f2, f3⟩
  · have hn : r = false := by
      cases r
      · rfl
      · obtain ⟨x, hx, e⟩ := (h2 key).2 (hr.1 rfl)
        exact absurd e (f2 x hx)
    subst hn
    simp [Instr.lookup, run_underlying ht, MapKept.run_getObj_map hb, K.check w _ hkey, f1, hz, Result.andThen]
  · have hm : e0 ∈ es.toList := List.mem_of_getElem? f2
    have hy : r = true := hr.2 ((h2 key).1 ⟨e0, hm, f3⟩)
    subst hy
    simp [Instr.lookup, run_underlying ht, MapKept.run_getObj_map hb, K.check w _ hkey, f1, (h1 e0 hm).1, Result.andThen]
end

/-! ### this program: a stake and a side -/
def gk (a c : Int) : Value := .agg #[.int .i64 a, .int .u8 c]
theorem laidOut' : laidOutB Tryd.prog = true := by kernel_rfl
theorem cellsA : Tryd.prog.cellsOf 2 = 1 := by kernel_rfl
theorem cellsC : Tryd.prog.cellsOf 5 = 1 := by kernel_rfl
theorem depth_pos : ∃ m, Tryd.prog.types.size = m + 1 := ⟨Tryd.prog.types.size - 1, by decide +kernel⟩
end Go.Proofs.YtopiecbldnhihaaDoor.gm
