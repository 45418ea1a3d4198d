/-
  The first hour with too many bundles, the hours with enough, the hour with the most, in plain numbers. No function of the program lies here.
-/
import Derived.Test.YtcpaenmhnoagdacBatM
namespace Go.Proofs.Ytcpaenmhnoagdac.rod
open Go.Proofs.Ytcpaenmhnoagdac.mem
set_option linter.unusedVariables false

theorem load_mono {m n : Nat} {X : Nat → Int} {h h' : Int} (hv : allT X n = true) (hi : ∀ j, j < n → atT m X j h = true → atT m X j h' = true) : load m X n h ≤ load m X n h' := by
  induction n with
  | zero => exact Int.le_refl _
  | succ n ih =>
    have i1 := ih (allT_le (by omega) hv) (fun j hj => hi j (by omega))
    have hb := allT_bd hv (i := n) (by omega)
    simp only [load]
    cases e : atT m X n h
    · simp only [Bool.false_eq_true, if_false]
      split <;> omega
    · rw [hi n (by omega) e]
      simp only [if_true]
      omega
/-- of the stretches that hold an hour one begins last -/
theorem last_fst {m n : Nat} {X : Nat → Int} {h : Int} : (∀ j, j < n → atT m X j h = false) ∨ ∃ k, k < n ∧ atT m X k h = true ∧ ∀ j, j < n → atT m X j h = true → fstT m X j ≤ fstT m X k := by
  induction n with
  | zero => exact .inl fun j hj => absurd hj (by omega)
  | succ n ih =>
    cases e : atT m X n h
    · rcases ih with ih | ⟨k, hk, hak, hm⟩
      · refine .inl fun j hj => ?_
        by_cases ej : j = n
        · rw [ej]; exact e
        · exact ih j (by omega)
      · refine .inr ⟨k, by omega, hak, fun j hj ha => ?_⟩
        by_cases ej : j = n
        · rw [ej, e] at ha; cases ha
        · exact hm j (by omega) ha
    · rcases ih with ih | ⟨k, hk, hak, hm⟩
      · refine .inr ⟨n, by omega, e, fun j hj ha => ?_⟩
        by_cases ej : j = n
        · rw [ej]; exact Int.le_refl _
        · rw [ih j (by omega)] at ha; cases ha
      · by_cases hc : fstT m X k ≤ fstT m X n
        · refine .inr ⟨n, by omega, e, fun j hj ha => ?_⟩
          by_cases ej : j = n
          · rw [ej]; exact Int.le_refl _
          · exact Int.le_trans (hm j (by omega) ha) hc
        · refine .inr ⟨k, by omega, hak, fun j hj ha => ?_⟩
          by_cases ej : j = n
          · rw [ej]; omega
          · exact hm j (by omega) ha
theorem load_none {m n : Nat} {X : Nat → Int} {h : Int} (hi : ∀ j, j < n → atT m X j h = false) : load m X n h = 0 := by
  induction n with
  | zero => rfl
  | succ n ih => rw [load_no (hi n (by omega))]; exact ih fun j hj => hi j (by omega)
/-- there are never more bundles than where some stretch begins -/
theorem load_start {m n : Nat} {X : Nat → Int} {h : Int} (hv : allT X n = true) (hp : 0 < load m X n h) : ∃ k, k < n ∧ fstT m X k ≤ h ∧ load m X n h ≤ load m X n (fstT m X k) := by
  rcases last_fst (m := m) (n := n) (X := X) (h := h) with hn | ⟨k, hk, ha, hm⟩
  · rw [load_none hn] at hp; omega
  · have hak : fstT m X k ≤ h ∧ h < endT m X k := by unfold atT at ha; simpa using ha
    refine ⟨k, hk, hak.1, load_mono hv fun j hj haj => ?_⟩
    have := hm j hj haj
    unfold atT at haj ⊢
    simp only [decide_eq_true_eq] at haj ⊢
    omega
theorem fst_ge {m n k : Nat} {X : Nat → Int} (hv : allT X n = true) (hk : k < n) : 0 ≤ fstT m X k ∧ fstT m X k ≤ 5500 := by
  have := allT_bd hv hk
  unfold fstT
  split <;> omega

/-- v is the first hour with more than room bundles (code 0); or there is none (code 3) -/
def FT (X : Nat → Int) (n : Nat) (room v code : Int) : Prop :=
  (code = 0 ∧ 0 ≤ v ∧ room < load 0 X n v ∧ ∀ h, 0 ≤ h → h < v → load 0 X n h ≤ room) ∨ (code = 3 ∧ v = 0 ∧ ∀ h, 0 ≤ h → load 0 X n h ≤ room)
theorem FT.uniq {X : Nat → Int} {n : Nat} {room v code v' code' : Int} (h : FT X n room v code) (k : FT X n room v' code') : v = v' ∧ code = code' := by
  rcases h with ⟨rfl, a1, a2, a3⟩ | ⟨rfl, rfl, a1⟩ <;> rcases k with ⟨rfl, b1, b2, b3⟩ | ⟨rfl, rfl, b1'⟩
  · refine ⟨?_, rfl⟩
    rcases Int.lt_trichotomy v v' with h | h | h
    · have := b3 v a1 h; omega
    · exact h
    · have := a3 v' b1 h; omega
  · have := b1' v a1; omega
  · have := a1 v' b1; omega
  · exact ⟨rfl, rfl⟩

/-- what the model holds behind the first k batches: -1 or the least start with too many -/
def FTs (X : Nat → Int) (n k : Nat) (room f : Int) : Prop :=
  (f = -1 ∧ ∀ i, i < k → load 0 X n (X (i * 4)) ≤ room) ∨ (0 ≤ f ∧ room < load 0 X n f ∧ ∀ i, i < k → room < load 0 X n (X (i * 4)) → f ≤ X (i * 4))
theorem FTs.done {X : Nat → Int} {n : Nat} {room f : Int} (hv : allT X n = true) (hr : 0 ≤ room) (h : FTs X n n room f) : (f < 0 ∧ FT X n room 0 3) ∨ (0 ≤ f ∧ FT X n room f 0) := by
  rcases h with ⟨rfl, h⟩ | ⟨h0, h1, h2⟩
  · refine .inl ⟨by omega, .inr ⟨rfl, rfl, fun x hx => ?_⟩⟩
    by_cases c : load 0 X n x ≤ room
    · exact c
    · obtain ⟨k, hk, _, hl⟩ := load_start (m := 0) (h := x) hv (by omega)
      have := h k hk
      have e : fstT 0 X k = X (k * 4) := rfl
      rw [e] at hl
      omega
  · refine .inr ⟨h0, .inl ⟨rfl, h0, h1, fun x hx hlt => ?_⟩⟩
    by_cases c : load 0 X n x ≤ room
    · exact c
    · obtain ⟨k, hk, hf, hl⟩ := load_start (m := 0) (h := x) hv (by omega)
      have e : fstT 0 X k = X (k * 4) := rfl
      rw [e] at hl hf
      have := h2 k hk (by omega)
      omega
theorem FTs.ex {X : Nat → Int} {n : Nat} {room : Int} (hv : allT X n = true) : ∀ k, k ≤ n → ∃ f, FTs X n k room f
  | 0, _ => ⟨-1, .inl ⟨rfl, fun i hi => absurd hi (by omega)⟩⟩
  | k + 1, hk => by
    obtain ⟨f, hf⟩ := FTs.ex (room := room) hv k (by omega)
    have s0 := (fst_ge (m := 0) hv (k := k) (by omega)).1
    have e : fstT 0 X k = X (k * 4) := rfl
    rw [e] at s0
    by_cases c : room < load 0 X n (X (k * 4))
    · rcases hf with ⟨rfl, h⟩ | ⟨h0, h1, h2⟩
      · refine ⟨X (k * 4), .inr ⟨s0, c, fun i hi hl => ?_⟩⟩
        by_cases ei : i = k
        · rw [ei]; exact Int.le_refl _
        · have := h i (by omega); omega
      · by_cases d : X (k * 4) < f
        · refine ⟨X (k * 4), .inr ⟨s0, c, fun i hi hl => ?_⟩⟩
          by_cases ei : i = k
          · rw [ei]; exact Int.le_refl _
          · have := h2 i (by omega) hl; omega
        · refine ⟨f, .inr ⟨h0, h1, fun i hi hl => ?_⟩⟩
          by_cases ei : i = k
          · rw [ei]; omega
          · exact h2 i (by omega) hl
    · rcases hf with ⟨rfl, h⟩ | ⟨h0, h1, h2⟩
      · refine ⟨-1, .inl ⟨rfl, fun i hi => ?_⟩⟩
        by_cases ei : i = k
        · rw [ei]; omega
        · exact h i (by omega)
      · refine ⟨f, .inr ⟨h0, h1, fun i hi hl => ?_⟩⟩
        by_cases ei : i = k
        · rw [ei] at hl; omega
        · exact h2 i (by omega) hl
theorem FTs.no {X : Nat → Int} {n k : Nat} {room f : Int} (h : FTs X n k room f) (c : ¬ room < load 0 X n (X (k * 4))) : FTs X n (k + 1) room f := by
  rcases h with ⟨rfl, h⟩ | ⟨h0, h1, h2⟩
  · refine .inl ⟨rfl, fun i hi => ?_⟩
    by_cases ei : i = k
    · rw [ei]; omega
    · exact h i (by omega)
  · refine .inr ⟨h0, h1, fun i hi hl => ?_⟩
    by_cases ei : i = k
    · rw [ei] at hl; omega
    · exact h2 i (by omega) hl
theorem FTs.keep {X : Nat → Int} {n k : Nat} {room f : Int} (h : FTs X n k room f) (h0 : 0 ≤ f) (c : ¬ X (k * 4) < f) : FTs X n (k + 1) room f := by
  rcases h with ⟨rfl, h⟩ | ⟨h0, h1, h2⟩
  · omega
  · refine .inr ⟨h0, h1, fun i hi hl => ?_⟩
    by_cases ei : i = k
    · rw [ei]; omega
    · exact h2 i (by omega) hl
theorem FTs.take {X : Nat → Int} {n k : Nat} {room f : Int} (h : FTs X n k room f) (s0 : 0 ≤ X (k * 4)) (c : room < load 0 X n (X (k * 4))) (d : f < 0 ∨ X (k * 4) < f) : FTs X n (k + 1) room (X (k * 4)) := by
  refine .inr ⟨s0, c, fun i hi hl => ?_⟩
  by_cases ei : i = k
  · rw [ei]; exact Int.le_refl _
  · rcases h with ⟨rfl, h⟩ | ⟨h0, h1, h2⟩
    · have := h i (by omega); omega
    · have := h2 i (by omega) hl; omega
theorem FTs.ge {X : Nat → Int} {n k : Nat} {room f : Int} (h : FTs X n k room f) : -1 ≤ f := by
  rcases h with ⟨rfl, h⟩ | ⟨h0, h1, h2⟩ <;> omega

/-- at how many hours before N are at least b bundles supple -/
def hrs (X : Nat → Int) (n : Nat) (b : Int) : Nat → Int
  | 0 => 0
  | N + 1 => hrs X n b N + (if b ≤ load 1 X n N then 1 else 0)
theorem hrs_bd {X : Nat → Int} {n : Nat} {b : Int} : ∀ N, 0 ≤ hrs X n b N ∧ hrs X n b N ≤ N
  | 0 => by simp [hrs]
  | N + 1 => by
    have := hrs_bd (X := X) (n := n) (b := b) N
    simp only [hrs]
    split <;> omega
theorem hrs_add {X : Nat → Int} {n : Nat} {b c : Int} {N : Nat} : ∀ d : Nat, (∀ h : Int, N ≤ h → h < (N + d : Nat) → load 1 X n h = c) → hrs X n b (N + d) = hrs X n b N + (if b ≤ c then (d : Int) else 0)
  | 0, _ => by simp
  | d + 1, hc => by
    have ih := hrs_add (b := b) d (fun h h1 h2 => hc h h1 (by omega))
    rw [show N + (d + 1) = N + d + 1 by omega]
    simp only [hrs]
    rw [ih, hc ((N + d : Nat) : Int) (by omega) (by omega)]
    split <;> omega

/-- v is the first hour with the most bundles, s -/
def BH (X : Nat → Int) (n : Nat) (v s : Int) : Prop := 0 ≤ v ∧ 0 < s ∧ load 1 X n v = s ∧ (∀ h, 0 ≤ h → load 1 X n h ≤ s) ∧ ∀ h, 0 ≤ h → h < v → load 1 X n h < s
theorem BH.uniq {X : Nat → Int} {n : Nat} {v s v' s' : Int} (h : BH X n v s) (k : BH X n v' s') : v = v' ∧ s = s' := by
  obtain ⟨a1, a2, a3, a4, a5⟩ := h
  obtain ⟨b1, b2, b3, b4, b5⟩ := k
  have e : s = s' := by
    have := a4 v' b1
    have := b4 v a1
    omega
  subst e
  refine ⟨?_, rfl⟩
  rcases Int.lt_trichotomy v v' with h | h | h
  · have := b5 v a1 h; omega
  · exact h
  · have := a5 v' b1 h; omega
/-- what the model holds behind the first k batches -/
def BHs (X : Nat → Int) (n k : Nat) (v s : Int) : Prop :=
  (k = 0 ∧ v = -1 ∧ s = 0) ∨ (0 ≤ v ∧ v ≤ 5500 ∧ 0 < s ∧ load 1 X n v = s ∧ (∀ i, i < k → load 1 X n (fstT 1 X i) ≤ s) ∧ ∀ i, i < k → load 1 X n (fstT 1 X i) = s → v ≤ fstT 1 X i)
theorem BHs.done {X : Nat → Int} {n : Nat} {v s : Int} (hv : allT X n = true) (hn : 0 < n) (h : BHs X n n v s) : BH X n v s := by
  rcases h with ⟨rfl, _⟩ | ⟨h0, _, h1, h2, h3, h4⟩
  · omega
  · refine ⟨h0, h1, h2, fun x hx => ?_, fun x hx hlt => ?_⟩
    · by_cases c : load 1 X n x ≤ 0
      · omega
      · obtain ⟨k, hk, _, hl⟩ := load_start (m := 1) (h := x) hv (by omega)
        have := h3 k hk
        omega
    · by_cases c : load 1 X n x ≤ 0
      · omega
      · obtain ⟨k, hk, hf, hl⟩ := load_start (m := 1) (h := x) hv (by omega)
        have := h3 k hk
        by_cases e : load 1 X n (fstT 1 X k) = s
        · have := h4 k hk e; omega
        · omega
theorem load_at_fst {m n k : Nat} {X : Nat → Int} (hv : allT X n = true) (hk : k < n) : 0 < load m X n (fstT m X k) := by
  have hp : ∀ j, k < j → j ≤ n → 0 < load m X j (fstT m X k) := by
    intro j
    induction j with
    | zero => intro h; omega
    | succ j ih =>
      intro h1 h2
      have hb := allT_bd hv (i := j) (by omega)
      have l0 := (load_bd (m := m) (h := fstT m X k) (allT_le (m := j) (by omega) hv)).1
      by_cases e : k = j
      · subst e
        have : atT m X k (fstT m X k) = true := by
          have := at_fst (m := m) hv hk
          unfold atT
          simp
          exact this
        rw [load_yes this]
        omega
      · have := ih (by omega) (by omega)
        simp only [load]
        split <;> omega
  exact hp n hk (Nat.le_refl _)
theorem BHs.take {X : Nat → Int} {n k : Nat} {v s : Int} (hv : allT X n = true) (hk : k < n) (h : BHs X n k v s) (c : s < load 1 X n (fstT 1 X k) ∨ load 1 X n (fstT 1 X k) = s ∧ fstT 1 X k < v) : BHs X n (k + 1) (fstT 1 X k) (load 1 X n (fstT 1 X k)) := by
  have g := fst_ge (m := 1) hv hk
  refine .inr ⟨g.1, g.2, load_at_fst hv hk, rfl, fun i hi => ?_, fun i hi he => ?_⟩
  · by_cases e : i = k
    · rw [e]; exact Int.le_refl _
    · rcases h with ⟨rfl, _⟩ | ⟨h0, _, h1, h2, h3, h4⟩
      · omega
      · have := h3 i (by omega); omega
  · by_cases e : i = k
    · rw [e]; exact Int.le_refl _
    · rcases h with ⟨rfl, _⟩ | ⟨h0, _, h1, h2, h3, h4⟩
      · omega
      · have := h3 i (by omega)
        rcases c with c | ⟨c1, c2⟩
        · omega
        · have := h4 i (by omega) (by omega); omega
theorem BHs.keep {X : Nat → Int} {n k : Nat} {v s : Int} (hv : allT X n = true) (hk : k < n) (h : BHs X n k v s) (c : ¬ s < load 1 X n (fstT 1 X k)) (d : load 1 X n (fstT 1 X k) = s → ¬ fstT 1 X k < v) : BHs X n (k + 1) v s := by
  rcases h with ⟨rfl, rfl, rfl⟩ | ⟨h0, h00, h1, h2, h3, h4⟩
  · have := load_at_fst (m := 1) hv hk; omega
  · refine .inr ⟨h0, h00, h1, h2, fun i hi => ?_, fun i hi he => ?_⟩
    · by_cases e : i = k
      · rw [e]; omega
      · exact h3 i (by omega)
    · by_cases e : i = k
      · rw [e] at he ⊢; have := d he; omega
      · exact h4 i (by omega) he
theorem BHs.ex {X : Nat → Int} {n : Nat} (hv : allT X n = true) : ∀ k, k ≤ n → ∃ v s, BHs X n k v s
  | 0, _ => ⟨-1, 0, .inl ⟨rfl, rfl, rfl⟩⟩
  | k + 1, hk => by
    obtain ⟨v, s, h⟩ := BHs.ex hv k (by omega)
    by_cases c : s < load 1 X n (fstT 1 X k)
    · exact ⟨_, _, h.take hv (by omega) (.inl c)⟩
    · by_cases d : load 1 X n (fstT 1 X k) = s ∧ fstT 1 X k < v
      · exact ⟨_, _, h.take hv (by omega) (.inr d)⟩
      · exact ⟨_, _, h.keep hv (by omega) c (fun e f => d ⟨e, f⟩)⟩
end Go.Proofs.Ytcpaenmhnoagdac.rod
