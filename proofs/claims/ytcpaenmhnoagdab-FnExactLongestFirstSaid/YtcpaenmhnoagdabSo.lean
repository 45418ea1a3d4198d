/-
  The rods by descending lengths: the mathematics. Numbers put into their places one after another; there is one such order.
-/
import Derived.Test.YtcpaenmhnoagdabMem
namespace Go.Proofs.Ytcpaenmhnoagdab.rod
set_option linter.unusedVariables false

section
variable (L : Nat → Int)
/-- the first is longer, or as long and stands before the second -/
def bfr (x y : Nat) : Bool := decide (L y < L x ∨ L x = L y ∧ x < y)
/-- the place of a number, looked for from behind -/
def spot (l : List Nat) (i : Nat) : Nat → Nat
  | 0 => 0
  | k + 1 => if L (l.getD k 0) < L i then spot l i k else k + 1
/-- the first i numbers by descending lengths -/
def so : Nat → List Nat
  | 0 => []
  | i + 1 => (so i).take (spot L (so i) i (so i).length) ++ i :: (so i).drop (spot L (so i) i (so i).length)
end
section
variable {L : Nat → Int}
theorem bfr_irrefl (x : Nat) : bfr L x x = false := by unfold bfr; simp
theorem bfr_total {x y : Nat} (h1 : bfr L x y = false) (h2 : bfr L y x = false) : x = y := by
  unfold bfr at h1 h2
  simp only [decide_eq_false_iff_not, not_or, not_and] at h1 h2
  omega
theorem bfr_trans {x y z : Nat} (h1 : bfr L x y = true) (h2 : bfr L y z = true) : bfr L x z = true := by
  unfold bfr at *
  simp only [decide_eq_true_eq] at *
  omega
theorem bfr_ntrans {x y z : Nat} (h1 : bfr L x y = false) (h2 : bfr L y z = false) : bfr L x z = false := by
  unfold bfr at *
  simp only [decide_eq_false_iff_not, not_or, not_and] at *
  omega
theorem bfr_asymm {x y : Nat} (h : bfr L x y = true) : bfr L y x = false := by
  unfold bfr at *
  simp only [decide_eq_false_iff_not, decide_eq_true_eq, not_or, not_and] at *
  omega
theorem spot_le (l : List Nat) (i : Nat) : ∀ k, spot L l i k ≤ k
  | 0 => Nat.le_refl _
  | k + 1 => by have := spot_le l i k; unfold spot; split <;> omega
theorem spot_after (l : List Nat) (i : Nat) : ∀ k j, spot L l i k ≤ j → j < k → L (l.getD j 0) < L i
  | 0, j, _, h => by omega
  | k + 1, j, h1, h2 => by
    unfold spot at h1
    split at h1
    · rename_i hc
      by_cases e : j = k
      · subst e; exact hc
      · exact spot_after l i k j h1 (by omega)
    · omega
theorem spot_before (l : List Nat) (i : Nat) : ∀ k, 0 < spot L l i k → ¬ L (l.getD (spot L l i k - 1) 0) < L i
  | 0, h => absurd h (Nat.lt_irrefl 0)
  | k + 1, h => by
    unfold spot at h ⊢
    split
    · rename_i hc
      rw [if_pos hc] at h
      exact spot_before l i k h
    · rename_i hc
      exact hc
theorem so_len : ∀ i, (so L i).length = i
  | 0 => rfl
  | i + 1 => by
    have ih := so_len i
    have hs := spot_le (L := L) (so L i) i (so L i).length
    unfold so
    simp only [List.length_append, List.length_cons, List.length_take, List.length_drop]
    omega
theorem so_perm : ∀ i, (so L i).Perm (List.range i)
  | 0 => List.Perm.refl _
  | i + 1 => by
    have ih := so_perm i
    unfold so
    refine List.perm_middle.trans ?_
    rw [List.take_append_drop, List.range_succ]
    exact (List.Perm.cons i ih).trans (List.perm_append_singleton i _).symm
theorem so_mem {i x : Nat} (h : x ∈ so L i) : x < i := by simpa using (so_perm (L := L) i).mem_iff.1 h
theorem so_at {i j : Nat} (h : j < i) : (so L i).getD j 0 < i := by
  have hl : j < (so L i).length := by rw [so_len]; exact h
  rw [List.getD, List.getElem?_eq_getElem hl]
  exact so_mem (List.getElem_mem hl)
theorem so_sorted : ∀ i, (so L i).Pairwise (fun x y => bfr L x y = true)
  | 0 => List.Pairwise.nil
  | i + 1 => by
    have ih := so_sorted i
    have hle := spot_le (L := L) (so L i) i (so L i).length
    have haf := spot_after (L := L) (so L i) i (so L i).length
    have hbe := spot_before (L := L) (so L i) i (so L i).length
    unfold so
    generalize spot L (so L i) i (so L i).length = k at *
    have hgd : ∀ j (h : j < (so L i).length), (so L i).getD j 0 = (so L i)[j] := fun j h => by rw [List.getD, List.getElem?_eq_getElem h]; rfl
    have hp := List.pairwise_iff_getElem.1 ih
    -- before the place: longer, or as long
    have h1 : ∀ x ∈ (so L i).take k, bfr L x i = true := by
      intro x hx
      obtain ⟨j, hj, rfl⟩ := List.getElem_of_mem hx
      rw [List.length_take] at hj
      rw [List.getElem_take]
      have hj' : j < (so L i).length := by omega
      have hlt := so_mem (List.getElem_mem hj')
      have hb := hbe (by omega)
      rw [hgd _ (by omega)] at hb
      unfold bfr
      simp only [decide_eq_true_eq]
      by_cases e : j = k - 1
      · subst e; omega
      · have := hp j (k - 1) hj' (by omega) (by omega)
        unfold bfr at this
        simp only [decide_eq_true_eq] at this
        omega
    have h2 : ∀ x ∈ (so L i).drop k, bfr L i x = true := by
      intro x hx
      obtain ⟨j, hj, rfl⟩ := List.getElem_of_mem hx
      rw [List.length_drop] at hj
      rw [List.getElem_drop]
      have := haf (k + j) (by omega) (by omega)
      rw [hgd _ (by omega)] at this
      unfold bfr
      simp only [decide_eq_true_eq]
      exact .inl this
    rw [List.pairwise_append, List.pairwise_cons]
    refine ⟨ih.sublist (List.take_sublist _ _), ⟨h2, ih.sublist (List.drop_sublist _ _)⟩, ?_⟩
    intro x hx y hy
    rcases List.mem_cons.1 hy with rfl | hy
    · exact h1 x hx
    · exact bfr_trans (h1 x hx) (h2 y hy)
/-- there is one such order -/
theorem so_unique {n : Nat} {l : List Nat} (hp : l.Perm (List.range n)) (hs : l.Pairwise (fun x y => bfr L y x = false)) : l = so L n := by
  refine List.Perm.eq_of_pairwise (le := fun x y => bfr L y x = false) ?_ hs ?_ (hp.trans (so_perm n).symm)
  · intro a b _ _ h1 h2
    exact (bfr_total h1 h2).symm
  · exact (so_sorted n).imp fun h => bfr_asymm h
end

end Go.Proofs.Ytcpaenmhnoagdab.rod
