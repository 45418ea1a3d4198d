/-
  The least hour from which on there is room for a batch, in plain numbers. No function of the program lies here.
-/
import Derived.Test.YtcpaenmhnoagdacFtm
namespace Go.Proofs.Ytcpaenmhnoagdac.rod
open Go.Proofs.Ytcpaenmhnoagdac.mem
set_option linter.unusedVariables false

/-- there is room for B bundles in front of the first n batches at all of K hours from S on -/
def Fit (Y : Nat → Int) (n : Nat) (S K B room : Int) : Prop := ∀ h, S ≤ h → h < S + K → load 0 Y n h + B ≤ room
/-- as the model tests it: at the start, and where others begin -/
theorem fit_of {Y : Nat → Int} {n : Nat} {S K B room : Int} (hv : allT Y n = true) (hB : B ≤ room) (h0 : load 0 Y n S + B ≤ room) (hj : ∀ j, j < n → S ≤ Y (j * 4) → Y (j * 4) ≤ S + K - 1 → load 0 Y n (Y (j * 4)) + B ≤ room) : Fit Y n S K B room := fun h a b => by
  rcases last_fst (m := 0) (n := n) (X := Y) (h := h) with hn | ⟨k, hk, ha, hm⟩
  · rw [load_none hn]; omega
  · have e : fstT 0 Y k = Y (k * 4) := rfl
    have hak : fstT 0 Y k ≤ h ∧ h < endT 0 Y k := by unfold atT at ha; simpa using ha
    by_cases c : fstT 0 Y k < S
    · have : load 0 Y n h ≤ load 0 Y n S := load_mono hv fun j hjn haj => by
        have := hm j hjn haj
        unfold atT at haj ⊢
        simp only [decide_eq_true_eq] at haj ⊢
        omega
      omega
    · have : load 0 Y n h ≤ load 0 Y n (fstT 0 Y k) := load_mono hv fun j hjn haj => by
        have := hm j hjn haj
        unfold atT at haj ⊢
        simp only [decide_eq_true_eq] at haj ⊢
        omega
      have := hj k hk (by omega) (by omega)
      rw [e] at *
      omega
/-- v is the least hour, not less than S, with room -/
def ES (Y : Nat → Int) (n : Nat) (S K B room v : Int) : Prop := S ≤ v ∧ Fit Y n v K B room ∧ ∀ t, S ≤ t → t < v → ¬ Fit Y n t K B room
theorem ES.uniq {Y : Nat → Int} {n : Nat} {S K B room v v' : Int} (h : ES Y n S K B room v) (k : ES Y n S K B room v') : v = v' := by
  rcases Int.lt_trichotomy v v' with c | c | c
  · exact absurd h.2.1 (k.2.2 v h.1 c)
  · exact c
  · exact absurd k.2.1 (h.2.2 v' k.1 c)
theorem load_late {Y : Nat → Int} {n : Nat} {h : Int} (hv : allT Y n = true) (hh : 5500 ≤ h) : load 0 Y n h = 0 := by
  induction n with
  | zero => rfl
  | succ n ih =>
    have hb := allT_bd hv (i := n) (by omega)
    have : atT 0 Y n h = false := by unfold atT fstT endT; simp; omega
    rw [load_no this]
    exact ih (allT_le (by omega) hv)
theorem fit_late {Y : Nat → Int} {n : Nat} {S K B room : Int} (hv : allT Y n = true) (hB : B ≤ room) (hS : 5500 ≤ S) : Fit Y n S K B room := fun h a b => by
  rw [load_late hv (by omega)]; omega
theorem ES.le {Y : Nat → Int} {n : Nat} {S K B room v : Int} (hv : allT Y n = true) (hB : B ≤ room) (h : ES Y n S K B room v) (hS : S ≤ 5500) : v ≤ 5500 := by
  by_cases c : v ≤ 5500
  · exact c
  · exact absurd (fit_late hv hB (Int.le_refl _)) (h.2.2 5500 hS (by omega))
theorem ES.ex {Y : Nat → Int} {n : Nat} {S K B room : Int} (hv : allT Y n = true) (hB : B ≤ room) : ∃ v, ES Y n S K B room v := by
  have key : ∀ d : Nat, (∀ t, S ≤ t → t < S + d → ¬ Fit Y n t K B room) ∨ ∃ v, ES Y n S K B room v := by
    intro d
    induction d with
    | zero => exact .inl fun t h0 h1 => absurd h1 (by omega)
    | succ d ih =>
      rcases ih with ih | ih
      · by_cases c : Fit Y n (S + d) K B room
        · exact .inr ⟨S + d, by omega, c, ih⟩
        · refine .inl fun t h0 h1 => ?_
          by_cases e : t = S + d
          · rw [e]; exact c
          · exact ih t h0 (by omega)
      · exact .inr ih
  rcases key (5501 - S).toNat.succ with h | h
  · by_cases c : S ≤ 5500
    · exact absurd (fit_late hv hB (Int.le_refl 5500)) (h 5500 c (by omega))
    · exact absurd (fit_late hv hB (by omega)) (h S (Int.le_refl _) (by omega))
  · exact h

/-- the starts of the plan: batch k of X at the start v k, all others as in X -/
def planY (X : Nat → Int) (v : Nat → Int) (j : Nat) : Int := if j % 4 = 0 then v (j / 4) else X j
theorem planY_0 (X v : Nat → Int) (k : Nat) : planY X v (k * 4) = v k := by unfold planY; rw [if_pos (by omega), show k * 4 / 4 = k by omega]
theorem planY_1 (X v : Nat → Int) (k : Nat) : planY X v (k * 4 + 1) = X (k * 4 + 1) := by unfold planY; rw [if_neg (by omega)]
theorem planY_2 (X v : Nat → Int) (k : Nat) : planY X v (k * 4 + 2) = X (k * 4 + 2) := by unfold planY; rw [if_neg (by omega)]
theorem planY_3 (X v : Nat → Int) (k : Nat) : planY X v (k * 4 + 3) = X (k * 4 + 3) := by unfold planY; rw [if_neg (by omega)]
/-- the first n batches stand at the least hours -/
def Plan (X : Nat → Int) (v : Nat → Int) (room : Int) (n : Nat) : Prop := ∀ k, k < n → ES (planY X v) k (X (k * 4)) (X (k * 4 + 1)) (X (k * 4 + 3)) room (v k) ∧ v k ≤ 5000
theorem plan_congr {X v v' : Nat → Int} {n : Nat} (h : ∀ k, k < n → v k = v' k) : ∀ j, j < n * 4 → planY X v j = planY X v' j := fun j hj => by
  unfold planY
  split
  · exact h _ (by omega)
  · rfl
theorem ES.congr {Y Z : Nat → Int} {n : Nat} {S K B room v : Int} (h : ES Y n S K B room v) (e : ∀ j, j < n * 4 → Y j = Z j) : ES Z n S K B room v := by
  have l : ∀ x, load 0 Y n x = load 0 Z n x := fun x => load_congr e
  obtain ⟨h0, h1, h2⟩ := h
  exact ⟨h0, fun x a b => by rw [← l]; exact h1 x a b, fun t a b q => h2 t a b fun x c d => by rw [l]; exact q x c d⟩
theorem Plan.all {X v : Nat → Int} {room : Int} {n : Nat} (hv : allT X n = true) (h : Plan X v room n) : ∀ m, m ≤ n → allT (planY X v) m = true := by
  intro m hm
  induction m with
  | zero => rfl
  | succ m ih =>
    have hb := allT_bd hv (i := m) (by omega)
    have hk := h m (by omega)
    simp only [allT, Bool.and_eq_true]
    refine ⟨ih (by omega), ?_⟩
    unfold batA batB
    rw [planY_0, planY_1, planY_2, planY_3]
    have := hk.1.1
    rw [inB_yes (by omega) (by omega), inB_yes (by omega) (by omega), inB_yes (by omega) (by omega), inB_yes (by omega) (by omega)]
    rfl
def put (v : Nat → Int) (i : Nat) (u : Int) (k : Nat) : Int := if k = i then u else v k
theorem put_i (v : Nat → Int) (i : Nat) (u : Int) : put v i u i = u := by unfold put; rw [if_pos rfl]
theorem put_o {v : Nat → Int} {i k : Nat} {u : Int} (h : k ≠ i) : put v i u k = v k := by unfold put; rw [if_neg h]
theorem Plan.add {X v : Nat → Int} {room u : Int} {n : Nat} (h : Plan X v room n) (hu : ES (planY X v) n (X (n * 4)) (X (n * 4 + 1)) (X (n * 4 + 3)) room u) (hl : u ≤ 5000) : Plan X (put v n u) room (n + 1) := fun k hk => by
  have c : ∀ j, j < k * 4 → planY X v j = planY X (put v n u) j := plan_congr fun i hi => (put_o (by omega)).symm
  by_cases e : k = n
  · subst e
    rw [put_i]
    exact ⟨hu.congr c, hl⟩
  · rw [put_o e]
    exact ⟨(h k (by omega)).1.congr c, (h k (by omega)).2⟩
/-- how a plan ends: code 0 and the starts, or code 6 at the first batch that would start too late -/
def PlanTo (X : Nat → Int) (n : Nat) (room : Int) (v : Nat → Int) (code : Int) : Prop :=
  (code = 0 ∧ Plan X v room n) ∨ (code = 6 ∧ ∃ k, k < n ∧ Plan X v room k ∧ ∃ u, 5000 < u ∧ ES (planY X v) k (X (k * 4)) (X (k * 4 + 1)) (X (k * 4 + 3)) room u)
theorem Plan.uniq {X v v' : Nat → Int} {room : Int} {n : Nat} (h : Plan X v room n) (k : Plan X v' room n) : ∀ i, i < n → v i = v' i := by
  induction n with
  | zero => intro i hi; omega
  | succ n ih =>
    have q := ih (fun i hi => h i (by omega)) (fun i hi => k i (by omega))
    intro i hi
    by_cases e : i = n
    · subst e
      exact ((h i (by omega)).1.congr (plan_congr q)).uniq (k i (by omega)).1
    · exact q i (by omega)
theorem Plan.le {X v : Nat → Int} {room : Int} {n m : Nat} (h : Plan X v room n) (hm : m ≤ n) : Plan X v room m := fun k hk => h k (by omega)
/-- a plan that has gone k batches far ends as told: it goes on in just one way -/
theorem PlanTo.step {X v v' : Nat → Int} {room code u : Int} {n k : Nat} (h : PlanTo X n room v code) (hk : k < n) (p : Plan X v' room k) (hu : ES (planY X v') k (X (k * 4)) (X (k * 4 + 1)) (X (k * 4 + 3)) room u) : (u ≤ 5000 ∧ Plan X (put v' k u) room (k + 1)) ∨ (5000 < u ∧ code = 6) := by
  by_cases c : u ≤ 5000
  · exact .inl ⟨c, p.add hu c⟩
  · refine .inr ⟨by omega, ?_⟩
    rcases h with ⟨rfl, h⟩ | ⟨rfl, _⟩
    · have q := (h.le (m := k) (by omega)).uniq p
      have e := ((h k hk).1.congr (plan_congr q)).uniq hu
      have := (h k hk).2
      omega
    · rfl
theorem PlanTo.over {X v v' : Nat → Int} {room code : Int} {n : Nat} (h : PlanTo X n room v code) (p : Plan X v' room n) : code = 0 ∧ ∀ i, i < n → v' i = v i := by
  rcases h with ⟨rfl, h⟩ | ⟨rfl, k, hk, h, u, hu, he⟩
  · exact ⟨rfl, p.uniq h⟩
  · exfalso
    have q := h.uniq (p.le (m := k) (by omega))
    have e := (he.congr (plan_congr q)).uniq (p k hk).1
    have := (p k hk).2
    omega
theorem PlanTo.ex {X : Nat → Int} {n : Nat} {room : Int} (hv : allT X n = true) (hB : ∀ k, k < n → X (k * 4 + 3) ≤ room) : ∃ v code, PlanTo X n room v code := by
  have key : ∀ m, m ≤ n → (∃ v, Plan X v room m) ∨ ∃ v, PlanTo X n room v 6 := by
    intro m
    induction m with
    | zero => intro _; exact .inl ⟨fun _ => 0, fun k hk => absurd hk (by omega)⟩
    | succ m ih =>
      intro hm
      rcases ih (by omega) with ⟨v, h⟩ | h
      · obtain ⟨u, hu⟩ := ES.ex (Y := planY X v) (n := m) (S := X (m * 4)) (K := X (m * 4 + 1)) (B := X (m * 4 + 3)) (room := room) (h.all (allT_le (by omega) hv) m (Nat.le_refl _)) (hB m (by omega))
        by_cases c : u ≤ 5000
        · exact .inl ⟨_, h.add hu c⟩
        · exact .inr ⟨v, .inr ⟨rfl, m, by omega, h, u, by omega, hu⟩⟩
      · exact .inr h
  rcases key n (Nat.le_refl _) with ⟨v, h⟩ | ⟨v, h⟩
  · exact ⟨v, 0, .inl ⟨rfl, h⟩⟩
  · exact ⟨v, 6, h⟩
end Go.Proofs.Ytcpaenmhnoagdac.rod
