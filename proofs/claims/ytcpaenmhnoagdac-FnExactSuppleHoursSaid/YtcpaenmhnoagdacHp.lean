/-
  A heap of pairs in plain numbers: what sifting down does, what the top is; sums that a swap keeps. No function of the program lies here.
-/
import Derived.Lib.Hide
namespace Go.Proofs.Ytcpaenmhnoagdac.hp
set_option linter.unusedVariables false

abbrev Ev := Int × Int
/-- the sum of the first n -/
def sumF (g : Nat → Int) : Nat → Int
  | 0 => 0
  | n + 1 => sumF g n + g n
theorem sumF_congr {g h : Nat → Int} {n : Nat} (e : ∀ i, i < n → g i = h i) : sumF g n = sumF h n := by
  induction n with
  | zero => rfl
  | succ n ih => simp only [sumF]; rw [ih (fun i hi => e i (by omega)), e n (by omega)]
def upd {α : Type} (a : Nat → α) (p : Nat) (v : α) : Nat → α := fun i => if i = p then v else a i
theorem sumF_upd {g : Nat → Int} {p n : Nat} (v : Int) (h : p < n) : sumF (upd g p v) n = sumF g n - g p + v := by
  induction n with
  | zero => omega
  | succ n ih =>
    simp only [sumF]
    by_cases e : p = n
    · subst e
      rw [sumF_congr (g := upd g p v) (h := g) (fun i hi => by unfold upd; rw [if_neg (by omega)])]
      simp only [upd, if_true]
      omega
    · rw [ih (by omega)]
      have : upd g p v n = g n := by unfold upd; rw [if_neg (by omega)]
      omega
def swp {α : Type} (a : Nat → α) (p q : Nat) : Nat → α := fun i => if i = p then a q else if i = q then a p else a i
theorem swp_l {α : Type} {a : Nat → α} {p q : Nat} : swp a p q p = a q := by unfold swp; rw [if_pos rfl]
theorem swp_r {α : Type} {a : Nat → α} {p q : Nat} : swp a p q q = a p := by
  unfold swp
  by_cases e : q = p
  · rw [if_pos e, e]
  · rw [if_neg e, if_pos rfl]
theorem swp_o {α : Type} {a : Nat → α} {p q i : Nat} (h : i ≠ p) (k : i ≠ q) : swp a p q i = a i := by unfold swp; rw [if_neg h, if_neg k]
theorem sumF_swp {g : Nat → Int} {p q n : Nat} (hp : p < n) (hq : q < n) : sumF (swp g p q) n = sumF g n := by
  by_cases e : p = q
  · subst e
    exact sumF_congr fun i _ => by unfold swp; split <;> (first | (subst_vars; rfl) | (split <;> (first | (subst_vars; rfl) | rfl)))
  · have h : sumF (swp g p q) n = sumF (upd (upd g p (g q)) q (g p)) n := sumF_congr fun i _ => by
      unfold swp upd
      by_cases e1 : i = p
      · rw [if_pos e1, if_neg (by omega), if_pos e1]
      · rw [if_neg e1]
        by_cases e2 : i = q
        · rw [if_pos e2, if_pos e2]
        · rw [if_neg e2, if_neg e2, if_neg e1]
    rw [h, sumF_upd _ hq, sumF_upd _ hp]
    have : upd g p (g q) q = g q := by unfold upd; split <;> rfl
    omega

/-- the second list holds what the first one holds, in some order; from n on it is the same -/
structure Sim (n : Nat) (a b : Nat → Ev) : Prop where
  sum : ∀ f : Ev → Int, sumF (fun i => f (a i)) n = sumF (fun i => f (b i)) n
  all : ∀ Q : Ev → Prop, (∀ i, i < n → Q (a i)) → ∀ i, i < n → Q (b i)
  rest : ∀ i, n ≤ i → b i = a i
theorem Sim.refl (n : Nat) (a : Nat → Ev) : Sim n a a := ⟨fun _ => rfl, fun _ h => h, fun _ _ => rfl⟩
theorem Sim.trans {n : Nat} {a b c : Nat → Ev} (h : Sim n a b) (k : Sim n b c) : Sim n a c := ⟨fun f => (h.sum f).trans (k.sum f), fun Q q => k.all Q (h.all Q q), fun i hi => (k.rest i hi).trans (h.rest i hi)⟩
theorem sim_swp {n p q : Nat} (a : Nat → Ev) (h1 : p < n) (h2 : q < n) : Sim n a (swp a p q) := by
  refine ⟨fun f => ?_, fun Q h i hi => ?_, fun i hi => swp_o (by omega) (by omega)⟩
  · rw [← sumF_swp (g := fun i => f (a i)) h1 h2]
    exact sumF_congr fun i _ => by unfold swp; split <;> (first | rfl | (split <;> rfl))
  · unfold swp
    split
    · exact h q h2
    · split
      · exact h p h1
      · exact h i hi
theorem Sim.wide {n m : Nat} {a b : Nat → Ev} (h : Sim n a b) (hm : n ≤ m) : Sim m a b := by
  have ex : ∀ d : Nat, Sim (n + d) a b := fun d => by
    induction d with
    | zero => exact h
    | succ d ih =>
      refine ⟨fun f => ?_, fun Q q i hi => ?_, fun i hi => h.rest i (by omega)⟩
      · show sumF (fun i => f (a i)) (n + d) + f (a (n + d)) = sumF (fun i => f (b i)) (n + d) + f (b (n + d))
        rw [ih.sum f, h.rest (n + d) (by omega)]
      · by_cases e : i = n + d
        · subst e; rw [h.rest _ (by omega)]; exact q _ (by omega)
        · exact ih.all Q (fun j hj => q j (by omega)) i (by omega)
  have := ex (m - n)
  rwa [show n + (m - n) = m by omega] at this

/-- no parent from lo on is later than its child -/
def Heap (a : Nat → Ev) (lo n : Nat) : Prop := ∀ j, 0 < j → j < n → lo ≤ (j - 1) / 2 → (a ((j - 1) / 2)).1 ≤ (a j).1
/-- as Heap from i0 on, but for the children of i -/
structure Down (a : Nat → Ev) (i0 i n : Nat) : Prop where
  ge : i0 ≤ i
  pairs : ∀ j, 0 < j → j < n → i0 ≤ (j - 1) / 2 → (j - 1) / 2 ≠ i → (a ((j - 1) / 2)).1 ≤ (a j).1
  over : i = i0 ∨ (0 < i ∧ i0 ≤ (i - 1) / 2 ∧ ∀ c, 0 < c → c < n → (c - 1) / 2 = i → (a ((i - 1) / 2)).1 ≤ (a c).1)
theorem Down.start {a : Nat → Ev} {i n : Nat} (h : Heap a (i + 1) n) : Down a i i n := ⟨Nat.le_refl _, fun j h0 hj hp hne => h j h0 hj (by omega), .inl rfl⟩
theorem Down.stop {a : Nat → Ev} {i0 i n : Nat} (h : Down a i0 i n) (hc : ∀ c, 0 < c → c < n → (c - 1) / 2 = i → (a i).1 ≤ (a c).1) : Heap a i0 n := fun j h0 hj hp => by
  by_cases e : (j - 1) / 2 = i
  · rw [e]; exact hc j h0 hj e
  · exact h.pairs j h0 hj hp e
theorem Down.step {a : Nat → Ev} {i0 i j n : Nat} (h : Down a i0 i n) (h0 : 0 < j) (hj : j < n) (hp : (j - 1) / 2 = i) (hlt : (a j).1 < (a i).1) (hmin : ∀ c, 0 < c → c < n → (c - 1) / 2 = i → (a j).1 ≤ (a c).1) : Down (swp a i j) i0 j n := by
  have hij : i < j := by omega
  have hge := h.ge
  refine ⟨by omega, fun c c0 cn cp cne => ?_, .inr ⟨h0, by omega, fun c c0 cn cp => ?_⟩⟩
  · by_cases e1 : c = i
    · subst e1
      rcases h.over with e | ⟨_, h2, h3⟩
      · omega
      · rw [swp_l, swp_o (by omega) (by omega)]
        exact h3 j h0 hj hp
    · by_cases e2 : c = j
      · subst e2
        rw [hp, swp_l, swp_r]
        omega
      · by_cases e3 : (c - 1) / 2 = i
        · rw [e3, swp_l, swp_o e1 e2]
          exact hmin c c0 cn e3
        · rw [swp_o e3 cne, swp_o e1 e2]
          exact h.pairs c c0 cn cp e3
  · rw [hp, swp_l, swp_o (by omega) (by omega)]
    have := h.pairs c c0 cn (by omega) (by omega)
    rwa [cp] at this
theorem Heap.top {a : Nat → Ev} {n : Nat} (h : Heap a 0 n) : ∀ i, i < n → (a 0).1 ≤ (a i).1 := by
  intro i
  induction i using Nat.strongRecOn with
  | ind i ih =>
    intro hi
    by_cases e : i = 0
    · subst e; exact Int.le_refl _
    · exact Int.le_trans (ih ((i - 1) / 2) (by omega) (by omega)) (h i (by omega) hi (by omega))
theorem Heap.half {a : Nat → Ev} {n : Nat} : Heap a (n / 2) n := fun j h0 hj hp => by omega
/-- what is left when the last one has come to the top -/
theorem Heap.popped {a : Nat → Ev} {n : Nat} (h : Heap a 0 (n + 1)) : Down (swp a 0 n) 0 0 n := by
  refine ⟨Nat.le_refl _, fun j h0 hj hp hne => ?_, .inl rfl⟩
  rw [swp_o hne (by omega), swp_o (by omega) (by omega)]
  exact h j h0 (by omega) (by omega)

/-- what is popped off n + 1 events, and what is left -/
structure Popped (a b : Nat → Ev) (n : Nat) : Prop where
  sum : ∀ f : Ev → Int, sumF (fun i => f (a i)) (n + 1) = sumF (fun i => f (b i)) n + f (a 0)
  all : ∀ Q : Ev → Prop, (∀ i, i < n + 1 → Q (a i)) → ∀ i, i < n → Q (b i)
  top : ∀ i, i < n → (a 0).1 ≤ (b i).1
  heap : Heap b 0 n
  last : b n = a 0
theorem popped_of {a b : Nat → Ev} {n : Nat} (h : Heap a 0 (n + 1)) (k : Sim n (swp a 0 n) b) (hb : Heap b 0 n) : Popped a b n := by
  have hl : b n = a 0 := by rw [k.rest n (Nat.le_refl _), swp_r]
  have hs := (sim_swp (n := n + 1) a (p := 0) (q := n) (by omega) (by omega)).trans (k.wide (by omega))
  refine ⟨fun f => ?_, fun Q q i hi => hs.all Q q i (by omega), fun i hi => ?_, hb, hl⟩
  · rw [hs.sum f]
    show sumF _ n + f (b n) = _
    rw [hl]
  · exact hs.all (fun e => (a 0).1 ≤ e.1) (fun i hi => h.top i hi) i (by omega)
end Go.Proofs.Ytcpaenmhnoagdac.hp
