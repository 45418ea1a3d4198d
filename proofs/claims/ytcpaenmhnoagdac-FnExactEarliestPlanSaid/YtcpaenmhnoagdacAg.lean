/-
  The program's heap of events in memory, and its methods.
-/
import Derived.Test.YtcpaenmhnoagdacIn
import Derived.Test.YtcpaenmhnoagdacHp
namespace Go.Proofs.Ytcpaenmhnoagdac.ag
open Go.ChangeShapes Go.WideShapes Go.ChangeAt Go.RowKit Go.Proofs.Ytcpaenmhnoagdac.mem Go.Proofs.Ytcpaenmhnoagdac.hp
set_option linter.unusedVariables false

/-- events as one row of numbers -/
def fl (a : Nat → Ev) (j : Nat) : Int := if j % 2 = 0 then (a (j / 2)).1 else (a (j / 2)).2
theorem fl_0 (a : Nat → Ev) (k : Nat) : fl a (k * 2) = (a k).1 := by unfold fl; rw [if_pos (by omega), show k * 2 / 2 = k by omega]
theorem fl_1 (a : Nat → Ev) (k : Nat) : fl a (k * 2 + 1) = (a k).2 := by unfold fl; rw [if_neg (by omega), show (k * 2 + 1) / 2 = k by omega]

/-- the heap lies at block p: a slice of n events, in block g -/
structure Ag (w : World) (p g n cap : Nat) (a : Nat → Ev) : Prop where
  sl : w.cell? ⟨p, 0, none⟩ = some (.slice (some ⟨g, 0, none⟩) n cap)
  fr : w.frozen? ⟨p, 0, none⟩ = false
  le : n ≤ cap
  mx : cap ≤ maxLen
  lt : p < w.heap.size
  ne : g ≠ p
  own : Own w g 136 (n * 2) (fl a)

/-- of what was there only the blocks p and g may hold something else -/
structure Only (w w' : World) (p g : Nat) : Prop where
  os : w'.os = w.os
  tape : w'.tape = w.tape
  output : w'.output = w.output
  size : w.heap.size ≤ w'.heap.size
  block : ∀ k, k < w.heap.size → k ≠ p → k ≠ g → w'.heap[k]? = w.heap[k]?
theorem Only.refl (w : World) (p g : Nat) : Only w w p g := ⟨rfl, rfl, rfl, Nat.le_refl _, fun _ _ _ _ => rfl⟩
theorem Only.trans {a b c : World} {p g : Nat} (h : Only a b p g) (k : Only b c p g) : Only a c p g := by
  have := h.size
  have := k.size
  exact ⟨k.os.trans h.os, k.tape.trans h.tape, k.output.trans h.output, by omega, fun j hj h1 h2 => (k.block j (by omega) h1 h2).trans (h.block j hj h1 h2)⟩
theorem Only.set {w w' : World} {p g b : Nat} (h : Only w w' p g) (hb : b = p ∨ b = g) (i : Nat) (v : Value) : Only w (w'.setCell ⟨b, i, none⟩ v) p g :=
  ⟨h.os, h.tape, h.output, by simpa using h.size, fun k hk h1 h2 => (Below.heap_setCell _ _ _ _ (show k ≠ b by rcases hb with e | e <;> omega)).trans (h.block k hk h1 h2)⟩
theorem Only.drewN {w w' : World} {p g : Nat} (h : Only w w' p g) (n : Nat) : Only w (w'.drewN n) p g := ⟨h.os, h.tape, h.output, h.size, h.block⟩
theorem Only.alloc {w w' : World} {p g : Nat} (h : Only w w' p g) (o : Obj) : Only w (w'.alloc o) p g := by
  have := h.size
  exact ⟨h.os, h.tape, h.output, by simp; omega, fun k hk h1 h2 => (Go.Deep.blk_alloc_lt _ _ _ (by omega)).trans (h.block k hk h1 h2)⟩
theorem Only.new {w w' : World} {p g b : Nat} (h : Only w w' p g) (hb : w.heap.size ≤ b) (i : Nat) (v : Value) : Only w (w'.setCell ⟨b, i, none⟩ v) p g :=
  ⟨h.os, h.tape, h.output, by simpa using h.size, fun k hk h1 h2 => (Below.heap_setCell _ _ _ _ (show k ≠ b by omega)).trans (h.block k hk h1 h2)⟩

set_option maxHeartbeats 1000000 in
theorem less_v (g n cap i k : Nat) (a : Nat → Ev) (w : World) (hn : n ≤ maxLen) (hi : i < n) (hk : k < n) (ho : Own w g 136 (n * 2) (fl a)) :
    Calls Try.prog 144 #[.slice (some ⟨g, 0, none⟩) n cap, .int .i64 i, .int .i64 k] w fun e w' => e = .returned (.bool (decide ((a i).1 < (a k).1))) ∧ Drew w w' := by
  unfold maxLen at hn
  have p0 := ho.cell (j := i * 2) (by omega)
  have q0 := ho.cell (j := k * 2) (by omega)
  rw [fl_0] at p0 q0
  have i0 : (0 : Int) ≤ (i : Int) := by omega
  have k0 : (0 : Int) ≤ (k : Int) := by omega
  have i1 : (i : Int) < (n : Int) := by omega
  have k1 : (k : Int) < (n : Int) := by omega
  clear ho
  go_enter Try.func144, Try.ntmps144
  go_wp2_with fail
  go_quiet (fail)
  go_wp2
  go_ret
  exact ⟨rfl, (Drew.refl _).drewN _⟩

end Go.Proofs.Ytcpaenmhnoagdac.ag
