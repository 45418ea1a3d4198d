/-
  An argument that bears a slice of whole numbers within a struct, and a slice of such structs, read as cells.
-/
import Derived.Test.YtakcgeafcecimaaDoorOpen
namespace Go.Proofs.YtakcgeafcecimaaDoor.mem
open Go.ChangeShapes Go.WideShapes Go.ChangeAt Go.RowKit Go.Deep
set_option linter.unusedVariables false

section
variable {H : Type} {enc : TypeId × Value → H} {P : Program} {w : World} {base : Nat} {spare : Nat → Bool} {held : Bool}
theorem open_nums_v {t e : TypeId} {fuel : Nat} {v : Value} {x : DataW H × List MemPlace} (ht : P.underlying t = some (.slice e)) (he : P.underlying e = some (.int .i64))
    (hC : P.cellsOf e = 1) (h : DataW.trod enc P w base spare held fuel t [v] = some x) :
    ∃ (A : Option Addr) (len cap : Nat), v = .slice A len cap ∧ len ≤ cap ∧ cap ≤ maxLen ∧ ∃ X : Nat → Int, Sl w A len 1 X ∧ ∀ j, j < len * 1 → (Lit.int .i64 (X j)).wf = true := by
  obtain ⟨A, l, c, rfl⟩ : ∃ A l c, v = .slice A l c := by
    rcases open_slice ht h with ⟨hcs, _⟩ | ⟨a, l, c, m, n, D, Pl, hcs, _⟩
    · simp at hcs
      exact ⟨_, _, _, hcs⟩
    · simp at hcs
      exact ⟨_, _, _, hcs⟩
  obtain ⟨h1, h2, h3⟩ := open_nums ht he hC h
  exact ⟨A, l, c, rfl, h1, h2, h3⟩
theorem open_beds {t e u : TypeId} {f0 f1 : Field} {fuel : Nat} {a0 : Option Addr} {len cap : Nat} {x : DataW H × List MemPlace} (ht : P.underlying t = some (.slice e)) (he : P.underlying e = some (.struct #[f0, f1]))
    (hone : oneCellFields P #[f0, f1] = true) (hC : P.cellsOf e = 2) (h0 : P.underlying f0.type = some (.slice u)) (hu : P.underlying u = some (.int .i64)) (hCu : P.cellsOf u = 1) (h1 : P.underlying f1.type = some (.int .i64))
    (h : DataW.trod enc P w base spare held fuel t [.slice a0 len cap] = some x) :
    len ≤ cap ∧ cap ≤ maxLen ∧ ∃ (M : Nat → Nat) (Y : Nat → Nat → Int) (G : Nat → Int), (0 < len → ∃ b o, a0 = some ⟨b, o, none⟩ ∧ b < w.heap.size ∧ ∀ j, j < len → (∃ A c, w.cell? ⟨b, o + j * 2, none⟩ = some (.slice A (M j) c) ∧ Sl w A (M j) 1 (Y j)) ∧ w.cell? ⟨b, o + j * 2 + 1, none⟩ = some (.int .i64 (G j)))
      ∧ (∀ j, j < len → M j ≤ maxLen) ∧ ∀ j, j < len → (Lit.int .i64 (G j)).wf = true := by
  rcases open_slice ht h with ⟨hcs, _⟩ | ⟨a, l, c, m, n, D, Pl, hcs, hb, hl, hm, hmm, hx, hi⟩
  · simp at hcs
    obtain ⟨rfl, rfl, rfl⟩ := hcs
    exact ⟨Nat.le_refl _, by unfold maxLen; omega, fun _ => 0, fun _ _ => 0, fun _ => 0, fun hn => absurd hn (by omega), fun j hj => absurd hj (by omega), fun j hj => absurd hj (by omega)⟩
  · simp at hcs
    obtain ⟨rfl, rfl, rfl⟩ := hcs
    have hle : len ≤ m := by rw [hmm]; split <;> omega
    have key : ∀ i, ∃ d : (Nat × (Nat → Int)) × Int, i < len → (∃ A c, w.cell? (a.add (i * 2)) = some (.slice A d.1.1 c) ∧ Sl w A d.1.1 1 d.1.2 ∧ d.1.1 ≤ maxLen) ∧ w.cell? (a.add (i * 2 + 1)) = some (.int .i64 d.2) ∧ (Lit.int .i64 d.2).wf = true := by
      intro i
      by_cases him : i < len
      · obtain ⟨cs', hc, ht'⟩ := hi i (by omega)
        rw [hC] at hc
        obtain ⟨ys, n', hn', hy, hlen, hyl, hf⟩ := DataW.trod_struct he ht'
        obtain ⟨_, hcl, hat⟩ := World.cells?_some hc
        simp at hyl
        obtain ⟨o0, k0⟩ := hone_of hone 0 f0 rfl
        obtain ⟨o1, k1⟩ := hone_of hone 1 f1 rfl
        have g0 := hf 0 f0 rfl
        have g1 := hf 1 f1 rfl
        rw [o0, k0] at g0
        rw [o1, k1] at g1
        match cs', hcl with
        | [v0, v1], _ =>
          have hys0 : ys[0]? = some (ys[0]'(by omega)) := List.getElem?_eq_getElem (by omega)
          have hys1 : ys[1]? = some (ys[1]'(by omega)) := List.getElem?_eq_getElem (by omega)
          obtain ⟨A, l0, c0, rfl, q1, q2, X, hX, _⟩ := open_nums_v h0 hu hCu ((by simpa using g0 : DataW.trod enc P w base spare held n' f0.type [v0] = ys[0]?).trans hys0)
          obtain ⟨z, hz, _, hw⟩ := DataW.trod_int h1 ((by simpa using g1 : DataW.trod enc P w base spare held n' f1.type [v1] = ys[1]?).trans hys1)
          simp at hz
          subst hz
          have t0 := hat 0 (by omega)
          have t1 := hat 1 (by omega)
          rw [Go.Deep.add_add] at t0 t1
          exact ⟨((l0, X), z), fun _ => ⟨⟨A, c0, by simpa using t0, hX, Nat.le_trans q1 q2⟩, by simpa using t1, hw⟩⟩
      · exact ⟨((0, fun _ => 0), 0), fun h => absurd h him⟩
    obtain ⟨F, hF⟩ := Classical.axiomOfChoice key
    refine ⟨hl, hm, fun j => (F j).1.1, fun j => (F j).1.2, fun j => (F j).2, fun hn => ?_, fun j hj => ?_, fun j hj => (hF j hj).2.2⟩
    · obtain ⟨⟨A, c, hc0, _⟩, _⟩ := hF 0 hn
      obtain ⟨b, off, spot⟩ := a
      have hspot : spot = none := by simpa [Addr.add] using World.cell?_spot hc0
      subst hspot
      have hb0 : b < w.heap.size := by
        have : w.cell? ⟨b, off, none⟩ = some (.slice A (F 0).1.1 c) := by simpa [Addr.add] using hc0
        exact lt_of_cell this
      refine ⟨b, off, rfl, hb0, fun j hj => ?_⟩
      obtain ⟨⟨A, c, hc, hs, _⟩, hd, _⟩ := hF j hj
      refine ⟨⟨A, c, ?_, hs⟩, ?_⟩
      · by_cases e : j * 2 = 0
        · simpa [Addr.add, e] using hc
        · simpa [Addr.add, e] using hc
      · simpa [Addr.add, Nat.add_assoc] using hd
    · obtain ⟨⟨A, c, _, _, h⟩, _⟩ := hF j hj
      exact h
end

end Go.Proofs.YtakcgeafcecimaaDoor.mem
