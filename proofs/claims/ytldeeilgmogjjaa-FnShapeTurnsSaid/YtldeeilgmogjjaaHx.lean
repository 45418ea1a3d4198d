/-
  StakePlan of the model: a table of the least sums of changes, and the first plan that has the least one. No condition of a statement lies here.
-/
import Derived.Test.YtldeeilgmogjjaaHw
import Derived.Test.YtldeeilgmogjjaaHf
import Derived.Test.YtldeeilgmogjjaaOpen
import Derived.Test.YtldeeilgmogjjaaNums
import Derived.Test.YtldeeilgmogjjaaIn
namespace Go.Proofs.Ytldeeilgmogjjaa.shp
open Go.ChangeShapes Go.WideShapes Go.ChangeAt Go.RowKit Go.Proofs.Ytldeeilgmogjjaa.mem Go.Proofs.Ytldeeilgmogjjaa.rod Go.Proofs.Ytldeeilgmogjjaa.nums
set_option linter.unusedVariables false
set_option maxRecDepth 100000

theorem info_row : (Try.prog.info? 24).map (fun i => (i.zero, i.size, i.bytes)) = some (some (.slice none 0 0), 1, 24) := by kernel_rfl
theorem top_tail {n : Nat} {X : Nat → Int} {lo up : Int} {l : List Int} {t : Int} (hn : 0 < n) (h3 : 3 ≤ t) (h60 : t ≤ 60) (hg : goodB (X 0) lo up t = true) (h : pl X lo up (n - 1) 0 t = some l) :
    l.length = n ∧ ∀ j, j < n → pl X lo up (n - 1 - j) j (l.getD j 0) = some (l.drop j) ∧ 3 ≤ l.getD j 0 ∧ l.getD j 0 ≤ 60 ∧ goodB (X j) lo up (l.getD j 0) = true := by
  have hb := pl_bd (n - 1) h3 h60 h
  have hlen : l.length = n := by have := hb.1; omega
  refine ⟨hlen, fun j => ?_⟩
  induction j with
  | zero =>
    intro _
    rw [hb.2.1]
    exact ⟨h, h3, h60, hg⟩
  | succ j ih =>
    intro hj
    obtain ⟨i1, i2, i3, i4⟩ := ih (by omega)
    rw [show n - 1 - j = (n - 1 - (j + 1)) + 1 by omega] at i1
    rcases pl_step (X := X) (lo := lo) (hi := up) (r := n - 1 - (j + 1)) (i := j) (s := l.getD j 0) with ⟨q, _⟩ | ⟨l', t', m', q, e1, e2, e3, e4, e5, e6, _⟩
    · rw [i1] at q; cases q
    · rw [i1] at q
      obtain rfl := Option.some.inj q
      rw [getD_drop (by omega : j < l.length)] at e1
      have e1 := (List.cons.inj e1).2
      subst e1
      have hd : (l.drop (j + 1)) = l.getD (j + 1) 0 :: l.drop (j + 1 + 1) := getD_drop (by omega)
      have ht : t' = l.getD (j + 1) 0 := by
        have hp := pl_bd _ e2 e3 e6
        obtain ⟨m2, hm2⟩ := planB_head hp
        rw [hd] at hm2
        exact (List.cons.inj hm2).1.symm
      subst ht
      exact ⟨e6, e2, e3, e5⟩
theorem srch {n : Nat} {X : Nat → Int} {lo up : Int} {l : List Int} (hn : n ≤ 12) (hl : l.length = n) (hT : ∀ j, j < n → pl X lo up (n - 1 - j) j (l.getD j 0) = some (l.drop j) ∧ 3 ≤ l.getD j 0 ∧ l.getD j 0 ≤ 60 ∧ goodB (X j) lo up (l.getD j 0) = true) {p : Nat} (hp : p + 1 < n) :
    (0 ≤ cst X lo up (n - 1 - (p + 1)) (p + 1) (l.getD (p + 1) 0) ∧ cst X lo up (n - 1 - (p + 1)) (p + 1) (l.getD (p + 1) 0) + dst (l.getD p 0) (l.getD (p + 1) 0) = cst X lo up (n - 1 - p) p (l.getD p 0)) ∧
    mxI 0 (l.getD p 0 - 6) ≤ l.getD (p + 1) 0 ∧
    ∀ m : Int, mxI 0 (l.getD p 0 - 6) ≤ m → m < l.getD (p + 1) 0 → cst X lo up (n - 1 - (p + 1)) (p + 1) m < 0 ∨ cst X lo up (n - 1 - (p + 1)) (p + 1) m + dst (l.getD p 0) m ≠ cst X lo up (n - 1 - p) p (l.getD p 0) := by
  obtain ⟨a1, a2, a3, a4⟩ := hT p (by omega)
  obtain ⟨b1, b2, b3, b4⟩ := hT (p + 1) hp
  have hx : mxI 0 (l.getD p 0 - 6) = if l.getD p 0 - 6 < 0 then 0 else l.getD p 0 - 6 := rfl
  have ca := cst_some a2 a4 a1
  have cb := cst_some b2 b4 b1
  have r1 : n - 1 - p = (n - 1 - (p + 1)) + 1 := by omega
  rw [r1] at a1
  rcases pl_step (X := X) (lo := lo) (hi := up) (r := n - 1 - (p + 1)) (i := p) (s := l.getD p 0) with ⟨q, _⟩ | ⟨l', t', m', q, e1, e2, e3, e4, e5, e6, e7, e8⟩
  · rw [a1] at q; cases q
  · rw [a1] at q
    obtain rfl := Option.some.inj q
    rw [getD_drop (by omega : p < l.length)] at e1
    have e1 := (List.cons.inj e1).2
    subst e1
    have ht : t' = l.getD (p + 1) 0 := by
      obtain ⟨m2, hm2⟩ := planB_head (pl_bd _ e2 e3 e6)
      rw [getD_drop (by omega : p + 1 < l.length)] at hm2
      exact (List.cons.inj hm2).1.symm
    subst ht
    have hnear := near_iff.1 e4
    have hcb := (chg_planB (pl_bd _ e2 e3 e6) (by omega)).1
    refine ⟨⟨by rw [cb]; exact hcb, by rw [cb, ca, e7]; omega⟩, by rw [hx]; split <;> omega, fun m m1 m2 => ?_⟩
    rcases cst_cases (X := X) (lo := lo) (hi := up) (r := n - 1 - (p + 1)) (i := p + 1) (s := m) (by omega) (by omega) with c | ⟨q, c1, c2, c3, c4, c5, _⟩
    · left; omega
    · right
      have hn2 : nearP (l.getD p 0) m = true := near_iff.2 (by rw [hx] at m1; split at m1 <;> omega)
      have := (e8 m q c1 (by omega) hn2 c2 c3).2 m2
      rw [c4, ca]
      omega
theorem _root_.Go.Proofs.Ytldeeilgmogjjaa.mem.Drew.below' {w wr : World} {B : Nat} (h : Drew w wr) (hB : B ≤ w.heap.size) : Below B w wr := h.below.mono hB
theorem drew_owns {w wr : World} {B n size : Nat} {E : TypeId} {v : Value} {xs : List Value} (d : Drew w wr) (h : w.ownsRow B E size v n xs) : wr.ownsRow B E size v n xs := by obtain ⟨m, rfl⟩ := d; exact h
theorem take_getD {l : List Int} {i j : Nat} (h : j < i) : (l.take i).getD j 0 = l.getD j 0 := by
  simp only [List.getD]
  rw [List.getElem?_take_of_lt h]
/-- rows of the table from i on are done -/
def Tab (w : World) (B T n i : Nat) (X : Nat → Int) (lo up : Int) : Prop := ∃ V : Nat → Value, OwnV w T 24 n V ∧ B ≤ T ∧ ∀ j, i ≤ j → j < n → ∃ g, V j = .slice (some ⟨g, 0, none⟩) 61 61 ∧ g ≠ T ∧ B ≤ g ∧ Own w g 2 61 (fun k => cst X lo up (n - 1 - j) j (k : Int))
theorem Tab.row {w : World} {B T n i j : Nat} {X : Nat → Int} {lo up : Int} (h : Tab w B T n i X lo up) (h1 : i ≤ j) (h2 : j < n) : ∃ g, w.cell? ⟨T, j, none⟩ = some (.slice (some ⟨g, 0, none⟩) 61 61) ∧ g ≠ T ∧ B ≤ g ∧ g < w.heap.size ∧ ∀ k, k < 61 → w.cell? ⟨g, k, none⟩ = some (.int .i64 (cst X lo up (n - 1 - j) j (k : Int))) := by
  obtain ⟨V, hT, _, hV⟩ := h
  obtain ⟨g, e, h3, h4, ho⟩ := hV j h1 h2
  exact ⟨g, by rw [hT.cell h2, e], h3, h4, ho.lt, fun k hk => ho.cell hk⟩
theorem Tab.keep {w w' : World} {B T n i : Nat} {X : Nat → Int} {lo up : Int} (h : Tab w B T n i X lo up) (hk : ∀ g, g < w.heap.size → w'.heap[g]? = w.heap[g]?) : Tab w' B T n i X lo up := by
  obtain ⟨V, hT, hB, hV⟩ := h
  exact ⟨V, hT.of_block (hk T hT.lt), hB, fun j h1 h2 => by
    obtain ⟨g, e, h3, h4, ho⟩ := hV j h1 h2
    exact ⟨g, e, h3, h4, ho.of_block (hk g ho.lt)⟩⟩
theorem Tab.lt {w : World} {B T n i : Nat} {X : Nat → Int} {lo up : Int} (h : Tab w B T n i X lo up) : T < w.heap.size := by
  obtain ⟨V, hT, _⟩ := h
  exact hT.lt
theorem Tab.made (w : World) (n : Nat) (X : Nat → Int) (lo up : Int) : Tab (w.alloc (.cells (madeCells #[.slice none 0 0] n) 24)) w.heap.size w.heap.size n n X lo up :=
  ⟨fun _ => .slice none 0 0, ownV_made w _ _ _ _ _ (fun i _ => by simp; rw [Nat.mod_one]; rfl) (by simp) rfl, Nat.le_refl _, fun j h1 h2 => absurd h2 (by omega)⟩
/-- one more row: laid into the table before its numbers are reckoned -/
theorem Tab.add {w w2 : World} {B T n q g : Nat} {X : Nat → Int} {lo up : Int} (h : Tab w B T n (q + 1) X lo up) (hq : q < n) (hg : g = w.heap.size) (hB : B ≤ g) (hw : w2.heap[T]? = (w.setCell ⟨T, q, none⟩ (.slice (some ⟨g, 0, none⟩) 61 61)).heap[T]?) (hk : ∀ k, k < w.heap.size → k ≠ T → w2.heap[k]? = w.heap[k]?)
    (ho : Own w2 g 2 61 (fun k => cst X lo up (n - 1 - q) q (k : Int))) : Tab w2 B T n q X lo up := by
  have hl := h.lt
  obtain ⟨V, hT, hBT, hV⟩ := h
  refine ⟨_, (hT.set q (.slice (some ⟨g, 0, none⟩) 61 61)).of_block hw, hBT, fun j h1 h2 => ?_⟩
  by_cases e : j = q
  · subst e
    exact ⟨g, if_pos rfl, by omega, hB, ho⟩
  · obtain ⟨g', e', h3, h4, ho'⟩ := hV j (by omega) h2
    exact ⟨g', by simp only [if_neg e]; exact e', h3, h4, ho'.of_block (hk g' ho'.lt h3)⟩
theorem rn_stepY {f : Int → Int} {s m0 mm : Int} {k : Nat} (hm : m0 + (k : Int) = mm) (h : 0 ≤ f mm ∧ (rn f s m0 k < 0 ∨ f mm + dst s mm < rn f s m0 k)) : rn f s m0 (k + 1) = f mm + dst s mm := by subst hm; exact rn_yes h
theorem rn_stepN {f : Int → Int} {s m0 mm : Int} {k : Nat} (hm : m0 + (k : Int) = mm) (h : ¬ (0 ≤ f mm ∧ (rn f s m0 k < 0 ∨ f mm + dst s mm < rn f s m0 k))) : rn f s m0 (k + 1) = rn f s m0 k := by subst hm; exact rn_no h
/-- a row while its numbers are reckoned: those below a are, number a is v -/
def half (c : Int → Int) (a : Nat) (v : Int) (k : Nat) : Int := if k < a then c k else if k = a then v else 0
theorem half_at (c : Int → Int) (a : Nat) (v : Int) : half c a v a = v := by unfold half; simp
theorem half_set {c : Int → Int} {a : Nat} {v u : Int} (k : Nat) : (if k = a then u else half c a v k) = half c a u k := by
  unfold half
  by_cases e : k = a
  · subst e; simp
  · simp only [if_neg e]
theorem half_next {c : Int → Int} {a : Nat} {v : Int} (h : c a = v) (k : Nat) : half c a v k = half c (a + 1) 0 k := by
  unfold half
  by_cases e : k = a
  · subst e; simp [h]
  · by_cases e2 : k < a
    · simp [e2, show k < a + 1 by omega]
    · simp [e2, e, show ¬ k < a + 1 by omega]
theorem half_all {c : Int → Int} {v : Int} (k : Nat) (hk : k < 61) : half c 61 v k = c k := by unfold half; rw [if_pos hk]
theorem half_zero (c : Int → Int) (k : Nat) : (0 : Int) = half c 0 0 k := by unfold half; simp

end Go.Proofs.Ytldeeilgmogjjaa.shp
