/-
  A shape turned upside down needs as many changes, as plain mathematics. No function of the program lies here.
-/
import Derived.Test.YtldeeilgmogjjaaHz
namespace Go.Proofs.Ytldeeilgmogjjaa.shp
open Go.ChangeShapes Go.WideShapes Go.ChangeAt Go.RowKit Go.Proofs.Ytldeeilgmogjjaa.mem Go.Proofs.Ytldeeilgmogjjaa.rod Go.Proofs.Ytldeeilgmogjjaa.nums
set_option linter.unusedVariables false

/-- from each level of a good plan upwards there is a told plan with no more changes -/
theorem good_rest {n : Nat} {X : Nat → Int} {lo up : Int} {Q : List Int} (g : GoodPlan n X lo up Q) : ∀ r i, i + r + 1 = n → ∃ m, pl X lo up r i (Q.getD i 0) = some m ∧ chg m ≤ chs (fun j => Q.getD (i + j) 0) r
  | 0, i, h => ⟨[Q.getD i 0], pl_zero X lo up i _, Int.le_refl 0⟩
  | r + 1, i, h => by
    obtain ⟨m', hm, hc⟩ := good_rest g r (i + 1) (by omega)
    obtain ⟨b1, b2, b3, b4⟩ := g.bd (i + 1) (by omega)
    have hn : nearP (Q.getD i 0) (Q.getD (i + 1) 0) = true := by unfold nearP; exact decide_eq_true (g.near i (by omega))
    have hg : goodB (X (i + 1)) lo up (Q.getD (i + 1) 0) = true := inB_yes b3 b4
    have hf : chs (fun j => Q.getD (i + j) 0) (r + 1) = dst (Q.getD i 0) (Q.getD (i + 1) 0) + chs (fun j => Q.getD (i + 1 + j) 0) r := by
      rw [chs_front]
      have : (fun j => (fun j => Q.getD (i + j) 0) (j + 1)) = fun j => Q.getD (i + 1 + j) 0 := by funext j; show Q.getD (i + (j + 1)) 0 = _; rw [show i + (j + 1) = i + 1 + j by omega]
      rw [this]
      rfl
    rcases pl_step (X := X) (lo := lo) (hi := up) (r := r) (i := i) (s := Q.getD i 0) with ⟨_, hno⟩ | ⟨l, t, m, q, e1, e2, e3, e4, e5, e6, e7, e8⟩
    · have := hno _ b1 b2 hn hg
      rw [hm] at this; cases this
    · refine ⟨l, q, ?_⟩
      have := (e8 _ _ b1 b2 hn hg hm).1
      rw [hf]; omega
theorem top_le {n : Nat} {X : Nat → Int} {lo up : Int} {Q : List Int} (n0 : 0 < n) (g : GoodPlan n X lo up Q) : ∃ l, topPlan n X lo up = some l ∧ chg l ≤ chg Q := by
  obtain ⟨m, hm, hc⟩ := good_rest g (n - 1) 0 (by omega)
  obtain ⟨b1, b2, b3, b4⟩ := g.bd 0 n0
  have hg : goodB (X 0) lo up (Q.getD 0 0) = true := inB_yes b3 b4
  have hq : chs (fun j => Q.getD (0 + j) 0) (n - 1) = chg Q := by
    unfold chg; rw [g.len]
    have : (fun j => Q.getD (0 + j) 0) = fun j => Q.getD j 0 := by funext j; rw [Nat.zero_add]
    rw [this]
  rcases top_min (n := n) (X := X) (lo := lo) (up := up) with ⟨_, hno⟩ | ⟨l, t, h1, _, _, _, _, h2⟩
  · have := hno _ b1 b2 hg
    rw [hm] at this; cases this
  · refine ⟨l, h1, ?_⟩
    have := h2 _ _ b1 b2 hg hm
    omega
theorem rev_getD {Q : List Int} {n j : Nat} (h : Q.length = n) (hj : j < n) : Q.reverse.getD j 0 = Q.getD (n - 1 - j) 0 := by
  subst h
  rw [List.getD_eq_getElem?_getD, List.getD_eq_getElem?_getD, List.getElem?_reverse hj]
theorem chs_rev (X : Nat → Int) : ∀ n, chs (fun j => X (n - j)) n = chs X n
  | 0 => rfl
  | n + 1 => by
    rw [chs_front]
    have : (fun j => (fun j => X (n + 1 - j)) (j + 1)) = fun j => X (n - j) := by funext j; show X (n + 1 - (j + 1)) = _; rw [show n + 1 - (j + 1) = n - j by omega]
    rw [this, chs_rev X n]
    show dst (X (n + 1 - 0)) (X (n + 1 - 1)) + chs X n = chs X n + dst (X n) (X (n + 1))
    rw [show n + 1 - 0 = n + 1 by omega, show n + 1 - 1 = n by omega, dst_comm]; omega
theorem chs_same {X Y : Nat → Int} : ∀ {n : Nat}, (∀ j, j ≤ n → X j = Y j) → chs X n = chs Y n
  | 0, _ => rfl
  | n + 1, h => by
    show chs X n + dst (X n) (X (n + 1)) = chs Y n + dst (Y n) (Y (n + 1))
    rw [chs_same (fun j hj => h j (by omega)), h n (by omega), h (n + 1) (Nat.le_refl _)]
theorem chg_rev {Q : List Int} {n : Nat} (h : Q.length = n) (n0 : 0 < n) : chg Q.reverse = chg Q := by
  unfold chg
  rw [List.length_reverse, h, ← chs_rev (fun j => Q.getD j 0) (n - 1)]
  exact chs_same fun j hj => rev_getD h (by omega)
theorem good_turn {n : Nat} {X X' : Nat → Int} {lo up : Int} {Q : List Int} (hX : ∀ j, j < n → X' j = X (n - 1 - j)) (g : GoodPlan n X lo up Q) : GoodPlan n X' lo up Q.reverse where
  len := by rw [List.length_reverse, g.len]
  bd := fun j hj => by rw [rev_getD g.len hj, hX j hj]; exact g.bd (n - 1 - j) (by omega)
  near := fun j hj => by
    rw [rev_getD g.len (by omega), rev_getD g.len (by omega), dst_comm]
    have := g.near (n - 1 - (j + 1)) (by omega)
    rw [show n - 1 - (j + 1) + 1 = n - 1 - j by omega] at this
    exact this
/-- the best plans of a shape and of the shape turned: both are or none, and their changes are as many -/
theorem turn_same {n : Nat} {X X' : Nat → Int} {lo up : Int} (n0 : 0 < n) (hX : ∀ j, j < n → X' j = X (n - 1 - j)) :
    (topPlan n X lo up = none ∧ topPlan n X' lo up = none) ∨ ∃ P P', topPlan n X lo up = some P ∧ topPlan n X' lo up = some P' ∧ chg P = chg P' := by
  have hX2 : ∀ j, j < n → X j = X' (n - 1 - j) := fun j hj => by rw [hX _ (by omega), show n - 1 - (n - 1 - j) = j by omega]
  cases h1 : topPlan n X lo up with
  | none =>
    cases h2 : topPlan n X' lo up with
    | none => exact .inl ⟨rfl, rfl⟩
    | some P' =>
      obtain ⟨l, hl, _⟩ := top_le n0 (good_turn hX2 (top_good n0 h2))
      rw [h1] at hl; cases hl
  | some P =>
    have g1 := top_good n0 h1
    obtain ⟨l, hl, c1⟩ := top_le n0 (good_turn hX g1)
    have g2 := top_good n0 hl
    obtain ⟨l2, hl2, c2⟩ := top_le n0 (good_turn hX2 g2)
    rw [h1] at hl2
    obtain rfl := Option.some.inj hl2
    rw [chg_rev g1.len n0] at c1
    rw [chg_rev g2.len n0] at c2
    exact .inr ⟨P, l, rfl, hl, by omega⟩

end Go.Proofs.Ytldeeilgmogjjaa.shp
