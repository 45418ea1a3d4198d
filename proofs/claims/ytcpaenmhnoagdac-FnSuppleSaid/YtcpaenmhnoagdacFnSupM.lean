/-
  Short batches: how many hours are supple, and the best one, told hour by hour up to 60. No function of the program lies here.
-/
import Derived.Test.YtcpaenmhnoagdacSrcBat
import Derived.Test.YtcpaenmhnoagdacFtm
namespace Go.Proofs.Ytcpaenmhnoagdac.rod
open Go.Proofs.Ytcpaenmhnoagdac.mem Go.Proofs.Ytcpaenmhnoagdac.src
set_option linter.unusedVariables false
theorem small_all {Y : Nat → Int} {n : Nat} (h : Small Y n) : allT Y n = true := by
  induction n with
  | zero => rfl
  | succ n ih =>
    have hb := h n (by omega)
    simp only [allT, Bool.and_eq_true]
    refine ⟨ih (fun i hi => h i (by omega)), ?_⟩
    unfold batA batB
    rw [inB_yes (by omega) (by omega), inB_yes (by omega) (by omega), inB_yes (by omega) (by omega), inB_yes (by omega) (by omega)]
    rfl
theorem small_list {Y : Nat → Int} {n : Nat} (h : Small Y n) (hn : n ≤ 10) : listT n Y = true := by
  unfold listT
  rw [small_all h]
  simp [hn]
theorem small_far {Y : Nat → Int} {m n : Nat} {x : Int} (h : Small Y n) (hx : 43 ≤ x) : load m Y n x = 0 := by
  induction n with
  | zero => rfl
  | succ n ih =>
    have hb := h n (by omega)
    have : atT m Y n x = false := by
      unfold atT fstT endT
      split <;> (simp; omega)
    rw [load_no this]
    exact ih (fun i hi => h i (by omega))
theorem small_hrs {Y : Nat → Int} {n : Nat} {b : Int} (h : Small Y n) (hb : 1 ≤ b) : hrs Y n b 6001 = hrs Y n b 60 := by
  have := hrs_add (X := Y) (n := n) (b := b) (c := 0) (N := 60) 5941 (fun x h1 h2 => small_far h (by omega))
  rw [if_neg (by omega)] at this
  simpa using this
/-- of the hours before h, f is the first one with the most, g; -1 where there were none -/
def GF (Y : Nat → Int) (n : Nat) (h : Nat) (f g : Int) : Prop :=
  (g = 0 ∧ f = -1 ∧ ∀ x : Int, 0 ≤ x → x < h → load 1 Y n x ≤ 0) ∨ (0 ≤ f ∧ f < h ∧ 0 < g ∧ load 1 Y n f = g ∧ (∀ x : Int, 0 ≤ x → x < h → load 1 Y n x ≤ g) ∧ ∀ x : Int, 0 ≤ x → x < f → load 1 Y n x < g)
theorem GF.more {Y : Nat → Int} {n h : Nat} {f g : Int} (k : GF Y n h f g) (hc : g < load 1 Y n h) : GF Y n (h + 1) h (load 1 Y n h) := by
  refine .inr ⟨by omega, by omega, ?_, rfl, fun x x0 x1 => ?_, fun x x0 x1 => ?_⟩
  · rcases k with ⟨rfl, _⟩ | ⟨_, _, k, _⟩ <;> omega
  · by_cases e : x = h
    · rw [e]; exact Int.le_refl _
    · rcases k with ⟨rfl, _, k⟩ | ⟨_, _, _, _, k, _⟩
      · have := k x x0 (by omega); omega
      · have := k x x0 (by omega); omega
  · rcases k with ⟨rfl, _, k⟩ | ⟨_, _, _, _, k, _⟩
    · have := k x x0 (by omega); omega
    · have := k x x0 (by omega); omega
theorem GF.same {Y : Nat → Int} {n h : Nat} {f g : Int} (k : GF Y n h f g) (hc : ¬ g < load 1 Y n h) : GF Y n (h + 1) f g := by
  rcases k with ⟨rfl, rfl, k⟩ | ⟨a1, a2, a3, a4, k, a5⟩
  · refine .inl ⟨rfl, rfl, fun x x0 x1 => ?_⟩
    by_cases e : x = h
    · rw [e]; omega
    · exact k x x0 (by omega)
  · refine .inr ⟨a1, by omega, a3, a4, fun x x0 x1 => ?_, a5⟩
    by_cases e : x = h
    · rw [e]; omega
    · exact k x x0 (by omega)
theorem GF.ge {Y : Nat → Int} {n h : Nat} {f g : Int} (k : GF Y n h f g) : -1 ≤ f ∧ 0 ≤ g := by
  rcases k with ⟨rfl, rfl, k⟩ | ⟨a1, a2, a3, a4, k, a5⟩ <;> omega
theorem GF.done {Y : Nat → Int} {n : Nat} {f g : Int} (hs : Small Y n) (k : GF Y n 60 f g) : (f < 0 ∧ n = 0) ∨ (0 ≤ f ∧ 0 < n ∧ BH Y n f g) := by
  rcases k with ⟨rfl, rfl, k⟩ | ⟨a1, a2, a3, a4, k, a5⟩
  · refine .inl ⟨by omega, ?_⟩
    rcases Nat.eq_zero_or_pos n with h0 | h0
    · exact h0
    · have l := load_at_fst (m := 1) (small_all hs) h0
      have hb := hs 0 h0
      have e : fstT 1 Y 0 = Y (0 * 4) + Y (0 * 4 + 1) := rfl
      have := k (fstT 1 Y 0) (by omega) (by omega)
      omega
  · refine .inr ⟨a1, ?_, a1, a3, a4, fun x x0 => ?_, a5⟩
    · rcases Nat.eq_zero_or_pos n with h0 | h0
      · subst h0
        have : load 1 Y 0 f = 0 := rfl
        omega
      · exact h0
    · by_cases e : x < 60
      · exact k x x0 (by omega)
      · rw [small_far hs (by omega)]; omega
end Go.Proofs.Ytcpaenmhnoagdac.rod
