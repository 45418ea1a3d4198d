/-
  Short batches: their plan ends well, there is room at all hours, and one hour earlier there is none. No function of the program lies here.
-/
import Derived.Test.YtcpaenmhnoagdacFnSupM
import Derived.Test.YtcpaenmhnoagdacEs
namespace Go.Proofs.Ytcpaenmhnoagdac.rod
open Go.Proofs.Ytcpaenmhnoagdac.mem Go.Proofs.Ytcpaenmhnoagdac.src
set_option linter.unusedVariables false
theorem atT0_no {Y : Nat → Int} {j : Nat} {h : Int} (c : Y (j * 4) + Y (j * 4 + 1) ≤ h) : atT 0 Y j h = false := by
  have e : atT 0 Y j h = decide (Y (j * 4) ≤ h ∧ h < Y (j * 4) + Y (j * 4 + 1)) := rfl
  rw [e]
  simp
  omega
theorem load0_zero {Y : Nat → Int} {n : Nat} {h : Int} (c : ∀ j, j < n → Y (j * 4) + Y (j * 4 + 1) ≤ h) : load 0 Y n h = 0 := load_none fun j hj => atT0_no (c j hj)
theorem es_le {Y : Nat → Int} {n : Nat} {S K B room u E : Int} (h : ES Y n S K B room u) (hB : B ≤ room) (hS : S ≤ E) (c : ∀ j, j < n → Y (j * 4) + Y (j * 4 + 1) ≤ E) : u ≤ E := by
  rcases Int.lt_or_le E u with q | q
  · exact absurd (fun t ht1 ht2 => by rw [load0_zero (fun j hj => by have := c j hj; omega)]; omega) (h.2.2 E hS q)
  · exact q
theorem plan_ends {X v : Nat → Int} {room : Int} {n : Nat} (hs : Small X n) (hr : 7 ≤ room) : ∀ m, m ≤ n → Plan X v room m → ∀ j, j < m → v j + X (j * 4 + 1) ≤ 19 + 14 * m
  | 0, _, _, j, hj => absurd hj (by omega)
  | m + 1, hm, hp, j, hj => by
    have ih := plan_ends hs hr m (by omega) (hp.le (by omega))
    have hb := hs m (by omega)
    by_cases e : j = m
    · subst e
      have := es_le (E := 19 + 14 * (j : Int)) (hp j (by omega)).1 (by omega) (by omega) (fun i hi => by rw [planY_0, planY_1]; exact ih i hi)
      omega
    · have := ih j (by omega)
      omega
theorem plan_small {X : Nat → Int} {n : Nat} {room : Int} (hs : Small X n) (hn : n ≤ 5) (hr : 7 ≤ room) : ∃ v, PlanTo X n room v 0 ∧ Plan X v room n := by
  obtain ⟨v, code, hp⟩ := PlanTo.ex (X := X) (n := n) (room := room) (small_all hs) (fun k hk => by have := hs k hk; omega)
  rcases hp with ⟨rfl, hp⟩ | ⟨rfl, k, hk, hp, u, hu, he⟩
  · exact ⟨v, .inl ⟨rfl, hp⟩, hp⟩
  · exfalso
    have hb := hs k hk
    have := es_le (E := 19 + 14 * (k : Int)) he (by omega) (by omega) (fun i hi => by rw [planY_0, planY_1]; exact plan_ends hs hr k (by omega) hp i hi)
    omega
theorem plan_room {X v : Nat → Int} {room : Int} {n : Nat} (hr : 0 ≤ room) (hp : Plan X v room n) (h : Int) : load 0 (planY X v) n h ≤ room := by
  induction n with
  | zero => exact hr
  | succ n ih =>
    have i1 := ih (hp.le (by omega))
    have ef := (hp n (by omega)).1.2.1
    cases e : atT 0 (planY X v) n h
    · rw [load_no e]; exact i1
    · rw [load_yes e, planY_3]
      have e' : atT 0 (planY X v) n h = decide (planY X v (n * 4) ≤ h ∧ h < planY X v (n * 4) + planY X v (n * 4 + 1)) := rfl
      rw [e', planY_0, planY_1, decide_eq_true_eq] at e
      exact ef h e.1 e.2
theorem plan_ft {X v : Nat → Int} {room : Int} {n : Nat} (hr : 0 ≤ room) (hp : Plan X v room n) : FT (planY X v) n room 0 3 := .inr ⟨rfl, rfl, fun h _ => plan_room hr hp h⟩
theorem FT.ex {X : Nat → Int} {n : Nat} {room : Int} (hv : allT X n = true) (hr : 0 ≤ room) : ∃ f code, FT X n room f code := by
  obtain ⟨f, hf⟩ := FTs.ex (room := room) hv n (Nat.le_refl _)
  rcases hf.done hv hr with ⟨_, h⟩ | ⟨_, h⟩
  · exact ⟨_, _, h⟩
  · exact ⟨_, _, h⟩
theorem planY_put_lt {X v : Nat → Int} {i : Nat} {u : Int} {j : Nat} (hj : j < i * 4) : planY X (rod.put v i u) j = planY X v j := by
  unfold planY
  split
  · rw [put_o (by omega)]
  · rfl
/-- the first batches of a plan, and the next one an hour earlier -/
theorem plan_early {X v : Nat → Int} {room : Int} {n i : Nat} (hs : Small X n) (hn : n ≤ 5) (hr : 7 ≤ room) (hp : Plan X v room n) (hi : i < n) (hc : X (i * 4) < v i) : listT (i + 1) (planY X (rod.put v i (v i - 1))) = true ∧ ∃ f, FT (planY X (rod.put v i (v i - 1))) (i + 1) room f 0 := by
  have hb := hs i hi
  have hpi := hp i hi
  have hva := hp.all (small_all hs) i (by omega)
  have hw : allT (planY X (rod.put v i (v i - 1))) (i + 1) = true := by
    have h1 : ∀ m, m ≤ i → allT (planY X (rod.put v i (v i - 1))) m = true := by
      intro m
      induction m with
      | zero => intro _; rfl
      | succ m ih =>
        intro hm
        have k := allT_le (m := m + 1) (by omega) hva
        simp only [allT, Bool.and_eq_true] at k ⊢
        refine ⟨ih (by omega), ?_⟩
        have k2 := k.2
        unfold batA at k2 ⊢
        rw [planY_put_lt (by omega), planY_put_lt (by omega), planY_put_lt (by omega), planY_put_lt (by omega)]
        exact k2
    simp only [allT, Bool.and_eq_true]
    refine ⟨h1 i (Nat.le_refl _), ?_⟩
    unfold batA batB
    rw [planY_0, planY_1, planY_2, planY_3, put_i, inB_yes (by omega) (by omega), inB_yes (by omega) (by omega), inB_yes (by omega) (by omega), inB_yes (by omega) (by omega)]
    rfl
  refine ⟨by unfold listT; rw [hw]; simp; omega, ?_⟩
  obtain ⟨f, code, hf⟩ := FT.ex (room := room) hw (by omega)
  rcases hf with ⟨rfl, hf⟩ | ⟨rfl, rfl, hf⟩
  · exact ⟨f, .inl ⟨rfl, hf⟩⟩
  · exfalso
    refine hpi.1.2.2 (v i - 1) (by omega) (by omega) fun h a b => ?_
    have h1 := hf h (by omega)
    have e : atT 0 (planY X (rod.put v i (v i - 1))) i h = true := by
      have e' : atT 0 (planY X (rod.put v i (v i - 1))) i h = decide (planY X (rod.put v i (v i - 1)) (i * 4) ≤ h ∧ h < planY X (rod.put v i (v i - 1)) (i * 4) + planY X (rod.put v i (v i - 1)) (i * 4 + 1)) := rfl
      rw [e', planY_0, planY_1, put_i, decide_eq_true_eq]
      omega
    rw [load_yes e, planY_3, load_congr (Y := planY X v) (fun j hj => planY_put_lt hj)] at h1
    exact h1
theorem plan_list {X v : Nat → Int} {room : Int} {n : Nat} (hs : Small X n) (hn : n ≤ 5) (hp : Plan X v room n) : listT n (planY X v) = true := by
  unfold listT
  rw [hp.all (small_all hs) n (Nat.le_refl _)]
  simp
  omega
/-- the first hour with too many is no late one -/
theorem ft_early {X : Nat → Int} {n : Nat} {room f : Int} (hv : allT X n = true) (hr : 0 ≤ room) (h : FT X n room f 0) : 0 ≤ f ∧ f ≤ 5500 ∧ room < load 0 X n f ∧ ∀ h, 0 ≤ h → h < f → load 0 X n h ≤ room := by
  rcases h with ⟨_, h0, h1, h2⟩ | ⟨h, _⟩
  · refine ⟨h0, ?_, h1, h2⟩
    rcases Int.lt_or_le 5500 f with q | q
    · exfalso
      rw [load_late hv (by omega)] at h1
      omega
    · exact q
  · exact absurd h (by decide)
end Go.Proofs.Ytcpaenmhnoagdac.rod
