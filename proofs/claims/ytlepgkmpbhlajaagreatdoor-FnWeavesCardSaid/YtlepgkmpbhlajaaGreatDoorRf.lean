/-
  A range over a function: what the caller holds between two rounds speaks of what lay when the loop began; the function may write whatever it lays itself. No function of the program lies here.
-/
import Derived.Test.YtlepgkmpbhlajaaGreatDoorMem
import Derived.RangeFuncNested
import Derived.RangeFuncBound
import Derived.RangeFuncCalls
import Derived.RangeFuncLeaves
import Derived.WalkKit
import Derived.OwnWalkIn
import Derived.TacticsInMore
import Derived.LoopNIn
import Derived.LoopIn
namespace Go.Proofs.YtlepgkmpbhlajaaGreatDoor.rf
open Go.RowKit Go.Proofs.YtlepgkmpbhlajaaGreatDoor.mem
set_option linter.unusedVariables false

/-- whatever lay from block B on lies as it lay -/
structure Frm (B : Nat) (W W' : World) : Prop where
  size : W.heap.size ≤ W'.heap.size
  block : ∀ k, B ≤ k → k < W.heap.size → W'.heap[k]? = W.heap[k]?
theorem Frm.refl (B : Nat) (W : World) : Frm B W W := ⟨Nat.le_refl _, fun _ _ _ => rfl⟩
theorem Frm.trans {B : Nat} {W W1 W2 : World} (h : Frm B W W1) (k : Frm B W1 W2) : Frm B W W2 :=
  ⟨Nat.le_trans h.size k.size, fun i h1 h2 => (k.block i h1 (Nat.lt_of_lt_of_le h2 h.size)).trans (h.block i h1 h2)⟩
theorem Frm.mono {B C : Nat} {W W' : World} (h : Frm B W W') (hc : B ≤ C) : Frm C W W' := ⟨h.size, fun i h1 h2 => h.block i (Nat.le_trans hc h1) h2⟩
theorem Frm.put {B : Nat} {W W' : World} (h : Frm B W W') {l : Nat} (o : Obj) (hl : l < B ∨ W.heap.size ≤ l) : Frm B W (W'.putObj l o) :=
  ⟨by simpa using h.size, fun i h1 h2 => (World.putObj_heap_other (by omega)).trans (h.block i h1 h2)⟩
theorem Frm.set {B : Nat} {W W' : World} (h : Frm B W W') {b : Nat} (i : Nat) (v : Value) (hl : b < B ∨ W.heap.size ≤ b) : Frm B W (W'.setCell ⟨b, i, none⟩ v) :=
  ⟨by simpa using h.size, fun k h1 h2 => (Below.heap_setCell _ _ _ _ (show k ≠ b by omega)).trans (h.block k h1 h2)⟩
theorem Frm.alloc {B : Nat} {W W' : World} (h : Frm B W W') (o : Obj) : Frm B W (W'.alloc o) := by
  have := h.size
  exact ⟨by simp; omega, fun k h1 h2 => (Go.Deep.blk_alloc_lt _ _ _ (by omega)).trans (h.block k h1 h2)⟩
theorem Frm.drewN {B : Nat} {W W' : World} (h : Frm B W W') (n : Nat) : Frm B W (W'.drewN n) := ⟨h.size, h.block⟩
theorem Frm.of_below {B C : Nat} {W W' : World} (h : Below C W W') (hc : W.heap.size ≤ C) : Frm B W W' := ⟨h.size, fun k _ h2 => h.block k (by omega)⟩

/-- what calling a function's closure with a loop for yield does: from state to state, until it is done or a round has said 'no more' -/
def Iter {σ α : Type} (F : Fence) (n : Nat) (P : Program) (gf : Nat) (lb : Array Value) (encs : α → Array Value) (R : σ → α → σ → Prop) (S : σ → Prop) (s0 : σ) (w : World) : Prop :=
  ∀ (l : Nat) (J : σ → World → Prop) (Jx : World → Prop) (W : World), Below w.heap.size w W →
    (∀ s A B, Below W.heap.size A B → J s A → J s B) → (∀ A B, Below W.heap.size A B → Jx A → Jx B) →
    (∀ s x s' W1, J s W1 → R s x s' → W.heap.size ≤ W1.heap.size → YieldAt F (n - 1) P l (encs x) W1 fun e W' =>
      ((e = .returned (.bool true) ∧ J s' W') ∨ (e = .returned (.bool false) ∧ Jx W')) ∧ Frm W.heap.size W1 W') →
    J s0 W → CallsIn F n P gf (#[.func (.yield l) #[] #[]] ++ lb) W fun e W' => (∃ v, e = .returned v) ∧ ((∃ s, S s ∧ J s W') ∨ Jx W')

/-- how a round may be left -/
def roundEnd {σ : Type} (B : Nat) (I : σ → World → Prop) (Ix : Code → World → Prop) (s' : σ) (W : World) : Exit → Act → World → Prop
  | .normal, _, W' => Frm B W W' ∧ I s' W'
  | .ret, _, W' => Frm B W W' ∧ Ix .ret W'
  | .exit id, _, W' => Frm B W W' ∧ Ix (.exit id) W'
  | .goto t, _, W' => Frm B W W' ∧ Ix (.goto t) W'
  | .panic _, _, _ => False
  | .outgrown, _, _ => False

theorem put_below {W : World} {n0 l : Nat} {o : Obj} (o' : Obj) (hn : n0 ≤ l) (hl : W.heap[l]? = some o) : Below n0 W (W.putObj l o') :=
  (Below.refl n0 W).grown (grownBy_putObj' W l o') (by have := (Array.getElem?_eq_some_iff.1 hl).1; omega) (fun k e => by cases e; exact hn)

theorem range_law {σ α : Type} {F : Fence} {n : Nat} {P : Program} {g : Operand} {ps : Array Tmp} {assign body : Code} {Q : Exit → Act → World → Prop} {a : Act} {w : World}
    (hro : F.round = none) (h1 : 1 ≤ n) {gf : Nat} {lb : Array Value} (hg : a.eval g = .func (.func gf) #[] lb) (hF : F.fn gf) (eg : ∀ args w, (callFunc gf args).run P w = .ok (.enter gf args) w)
    {encs : α → Array Value} {R : σ → α → σ → Prop} {S : σ → Prop} {s0 : σ} (it : Iter F (n - 1) P gf lb encs R S s0 w) (hps : ∀ x, (encs x).size = ps.size)
    (I : σ → World → Prop) (Ix : Code → World → Prop) (hI : ∀ s A B, Below w.heap.size A B → I s A → I s B) (hIx : ∀ c A B, Below w.heap.size A B → Ix c A → Ix c B) (h0 : I s0 w) (Ax : α → Act → World → Prop) (hAx : ∀ x a' A B, Frm (w.heap.size + 2) A B → Ax x a' A → Ax x a' B)
    (hassign : ∀ (l : Nat) (s s' : σ) (x : α) (W : World) (K : Act → World → Prop), w.heap.size + 2 ≤ W.heap.size → R s x s' → I s W → (∀ a' W', Frm w.heap.size W W' → I s W' → Ax x a' W' → K a' W') →
      assign.wpIn (F.inRound l) (n - 1 - 1) P (Exit.then K (fun _ _ _ => False)) { tmps := (ps.zip (encs x)).foldl (fun t (p, v) => t.setIfInBounds p v) a.tmps, defers := [] } W)
    (hbody : ∀ (l : Nat) (s s' : σ) (x : α) (a' : Act) (W : World), w.heap.size + 2 ≤ W.heap.size → R s x s' → I s W → Ax x a' W → body.wpIn (F.inRound l) (n - 1 - 1) P (roundEnd w.heap.size I Ix s' W) a' W)
    (hdone : ∀ (D : Nat) (s : σ) (W : World), w.heap.size ≤ D → S s → I s W → W.heap[D]? = some (.deferred (some [])) → Q .normal { a with defers := { target := .collected D, args := #[] } :: a.defers } W)
    (hstop : ∀ (D : Nat) (c : Code) (W : World), w.heap.size ≤ D → Ix c W → W.heap[D]? = some (.deferred (some [])) → c.wpIn F n P Q { a with defers := { target := .collected D, args := #[] } :: a.defers } W) :
    (Code.rangeFunc g ps assign body).wpIn F n P Q a w := by
  refine wpIn_rangeFunc (fun fn hfn => ?_)
  rw [hro]
  let ro : LoopState → Option Code → Obj := fun st pe => .loop { state := st, pending := pe, fn := fn, tmps := a.tmps, params := ps, assign := assign, body := body, defers := w.heap.size }
  let wD := w.alloc (.deferred (some []))
  let wL := wD.alloc (ro .ready none)
  have zD : wD.heap.size = w.heap.size + 1 := World.size_alloc _ _
  have zL : wL.heap.size = w.heap.size + 2 := by rw [World.size_alloc, zD]
  have bL : Below w.heap.size w wL := ((Below.refl _ w).alloc (Nat.le_refl _) _).alloc (show w.heap.size ≤ wD.heap.size by omega) _
  -- the two blocks of the loop's own
  let Bk : LoopState → Option Code → World → Prop := fun st pe W => W.heap[w.heap.size + 1]? = some (ro st pe) ∧ W.heap[w.heap.size]? = some (.deferred (some []))
  have kB : ∀ {st pe A B}, Below wL.heap.size A B → Bk st pe A → Bk st pe B := fun hb h => ⟨(hb.block _ (by omega)).trans h.1, (hb.block _ (by omega)).trans h.2⟩
  have kF : ∀ {st pe A B}, Frm w.heap.size A B → w.heap.size + 2 ≤ A.heap.size → Bk st pe A → Bk st pe B := fun hb hs h => ⟨(hb.block _ (by omega) (by omega)).trans h.1, (hb.block _ (by omega) (by omega)).trans h.2⟩
  have kP : ∀ {st pe st' pe' A}, w.heap.size + 2 ≤ A.heap.size → Bk st pe A → Bk st' pe' (A.putObj (w.heap.size + 1) (ro st' pe')) := fun hs h => ⟨World.putObj_heap_same (by omega), (World.putObj_heap_other (by omega)).trans h.2⟩
  have b0 : Bk .ready none wL := by
    refine ⟨?_, (Go.Deep.blk_alloc_lt _ _ _ (show w.heap.size < wD.heap.size by omega)).trans (World.alloc_heap_new w _)⟩
    have := World.alloc_heap_new wD (ro .ready none)
    rwa [zD] at this
  refine ⟨w.heap.size + 1, [{ target := .collected w.heap.size, args := #[] }], wL, { target := .fn (.func gf) lb, args := #[.func (.yield (w.heap.size + 1)) #[] #[]] }, wL, gf,
    #[.func (.yield (w.heap.size + 1)) #[] #[]] ++ lb, wL, run_enterLoop_outer _ _ _ _ _, ?_, ?_, ?_, fun _ => h1, ?_⟩
  · simp only [resolve, hg]
    simp [go_sem]
  · intro f' hf'
    simp [Target.leads] at hf'
    subst hf'
    exact hF
  · simp [invoke, go_sem, eg]
  have back : ∀ {e W'}, ((∃ v, e = Ending.returned v) ∧ ((∃ s, S s ∧ I s W' ∧ Bk .ready none W' ∧ w.heap.size + 2 ≤ W'.heap.size) ∨ (∃ c, Ix c W' ∧ Bk .done (some c) W' ∧ w.heap.size + 2 ≤ W'.heap.size))) →
      rangePost F n P (w.heap.size + 1) Q { a with defers := [{ target := .collected w.heap.size, args := #[] }] ++ a.defers } e W' := by
    rintro e W' ⟨⟨v, rfl⟩, ⟨s, hS, hi, hb, hz⟩ | ⟨c, hi, hb, hz⟩⟩
    · exact ⟨none, _, run_endLoop hb.1 (by simp), hdone _ s _ (Nat.le_refl _) hS (hI _ _ _ (put_below _ (by omega) hb.1) hi) ((World.putObj_heap_other (by omega)).trans hb.2)⟩
    · exact ⟨some c, _, run_endLoop hb.1 (by simp), hstop _ c _ (Nat.le_refl _) (hIx _ _ _ (put_below _ (by omega) hb.1) hi) ((World.putObj_heap_other (by omega)).trans hb.2)⟩
  refine (it (w.heap.size + 1) (fun s W => I s W ∧ Bk .ready none W ∧ w.heap.size + 2 ≤ W.heap.size) (fun W => ∃ c, Ix c W ∧ Bk .done (some c) W ∧ w.heap.size + 2 ≤ W.heap.size) wL bL
    (fun s A B hb h => ⟨hI s A B (hb.mono (by omega)) h.1, kB hb h.2.1, Nat.le_trans h.2.2 hb.size⟩)
    (fun A B hb h => by
      obtain ⟨c, h, h', h''⟩ := h
      exact ⟨c, hIx c A B (hb.mono (by omega)) h, kB hb h', Nat.le_trans h'' hb.size⟩)
    ?_ ⟨hI _ _ _ bL h0, b0, by omega⟩).mono (fun e W' h => back h)
  rintro s x s' W0 ⟨hi0, hb0, hz0⟩ hR _
  refine ⟨fn, _, assign, body, run_yield hb0.1 (hps x), roundIn_of_wpIn hfn (hassign _ s s' x W0 _ hz0 hR hi0 fun a' W f0 hi hax => ⟨_, run_beginRound (kF f0 hz0 hb0).1 rfl, ?_⟩)⟩
  have hb := kF f0 hz0 hb0
  have hz : w.heap.size + 2 ≤ W.heap.size := Nat.le_trans hz0 f0.size
  have q1 : Below w.heap.size W (W.putObj (w.heap.size + 1) (ro .busy none)) := put_below _ (by omega) hb.1
  have q2 : Frm wL.heap.size W (W.putObj (w.heap.size + 1) (ro .busy none)) := (Frm.refl _ W).put _ (by omega)
  refine wpIn_mono (hbody _ s s' x a' _ (by rw [World.putObj_size]; omega) hR (hI _ _ _ q1 hi) (hAx _ _ _ _ ((Frm.refl _ W).put _ (by omega)) hax)) ?_
  have hz2 : w.heap.size + 2 ≤ (W.putObj (w.heap.size + 1) (ro .busy none)).heap.size := by rw [World.putObj_size]; omega
  have hb2 : Bk .busy none (W.putObj (w.heap.size + 1) (ro .busy none)) := kP hz hb
  have fin : ∀ (j : Option Code) (W3 : World), Frm w.heap.size (W.putObj (w.heap.size + 1) (ro .busy none)) W3 →
      ∃ W4, (Instr.endRound (w.heap.size + 1) j).run P W3 = .ok (.bool j.isNone) W4 ∧ Bk (if j.isNone then .ready else .done) j W4 ∧ w.heap.size + 2 ≤ W4.heap.size ∧ Below w.heap.size W3 W4 ∧ Frm wL.heap.size W0 W4 := fun j W3 hf => by
    have hb3 := kF hf hz2 hb2
    have z3 := hf.size
    refine ⟨_, run_endRound j hb3.1, kP (by omega) hb3, by rw [World.putObj_size]; omega, put_below _ (by omega) hb3.1, ?_⟩
    exact Frm.trans (Frm.trans (f0.mono (by omega)) (q2.trans (hf.mono (by omega)))) ((Frm.refl _ W3).put _ (by omega))
  rintro e a3 W3 hp
  cases e with
  | normal =>
    obtain ⟨W4, r1, r2, r3, r4, r5⟩ := fin none W3 hp.1
    exact ⟨_, _, r1, .inl ⟨rfl, hI _ _ _ r4 hp.2, r2, r3⟩, r5⟩
  | ret =>
    obtain ⟨W4, r1, r2, r3, r4, r5⟩ := fin (some .ret) W3 hp.1
    exact ⟨_, _, r1, .inr ⟨rfl, _, hIx _ _ _ r4 hp.2, r2, r3⟩, r5⟩
  | exit id =>
    obtain ⟨W4, r1, r2, r3, r4, r5⟩ := fin (some (.exit id)) W3 hp.1
    exact ⟨_, _, r1, .inr ⟨rfl, _, hIx _ _ _ r4 hp.2, r2, r3⟩, r5⟩
  | goto t =>
    obtain ⟨W4, r1, r2, r3, r4, r5⟩ := fin (some (.goto t)) W3 hp.1
    exact ⟨_, _, r1, .inr ⟨rfl, _, hIx _ _ _ r4 hp.2, r2, r3⟩, r5⟩
  | panic ch => exact hp.elim
  | outgrown => exact hp.elim

end Go.Proofs.YtlepgkmpbhlajaaGreatDoor.rf
