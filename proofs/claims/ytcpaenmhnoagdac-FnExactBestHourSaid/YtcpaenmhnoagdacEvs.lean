/-
  Batches as events in time: how many bundles there are at an hour is the sum of the changes up to it. No function of the program lies here.
-/
import Derived.Test.YtcpaenmhnoagdacBatM
import Derived.Test.YtcpaenmhnoagdacHp
namespace Go.Proofs.Ytcpaenmhnoagdac.ag
open Go.Proofs.Ytcpaenmhnoagdac.mem Go.Proofs.Ytcpaenmhnoagdac.hp Go.Proofs.Ytcpaenmhnoagdac.rod
set_option linter.unusedVariables false

/-- the events of batches, in the order of the batches -/
def evs (m : Nat) (X : Nat → Int) (i : Nat) : Ev := if i % 2 = 0 then (fstT m X (i / 2), X (i / 2 * 4 + 3)) else (endT m X (i / 2), - X (i / 2 * 4 + 3))
theorem evs_0 (m : Nat) (X : Nat → Int) (k : Nat) : evs m X (k * 2) = (fstT m X k, X (k * 4 + 3)) := by unfold evs; rw [if_pos (by omega), show k * 2 / 2 = k by omega]
theorem evs_1 (m : Nat) (X : Nat → Int) (k : Nat) : evs m X (k * 2 + 1) = (endT m X k, - X (k * 4 + 3)) := by unfold evs; rw [if_neg (by omega), show (k * 2 + 1) / 2 = k by omega]
/-- the change of an event as seen at an hour -/
def seen (h : Int) (e : Ev) : Int := if e.1 ≤ h then e.2 else 0
theorem load_evs {m n : Nat} {X : Nat → Int} {h : Int} (hv : allT X n = true) : rod.load m X n h = sumF (fun i => seen h (evs m X i)) (n * 2) := by
  induction n with
  | zero => rfl
  | succ n ih =>
    have hb := at_fst (m := m) hv (i := n) (by omega)
    rw [show (n + 1) * 2 = n * 2 + 1 + 1 by omega]
    simp only [sumF, rod.load]
    rw [ih (allT_le (by omega) hv), evs_0, evs_1]
    unfold seen atT
    simp only
    by_cases a : fstT m X n ≤ h
    · by_cases b : endT m X n ≤ h
      · rw [if_pos a, if_pos b, if_neg (by simp; omega)]; omega
      · rw [if_pos a, if_neg b, if_pos (by simp; omega)]; omega
    · rw [if_neg a, if_neg (show ¬ endT m X n ≤ h by omega), if_neg (by simp; omega)]; omega
theorem evs_bd {m n : Nat} {X : Nat → Int} (hv : allT X n = true) {i : Nat} (hi : i < n * 2) : 0 ≤ (evs m X i).1 ∧ (evs m X i).1 ≤ 6000 ∧ -100 ≤ (evs m X i).2 ∧ (evs m X i).2 ≤ 100 := by
  have hb := allT_bd hv (i := i / 2) (by omega)
  unfold evs fstT endT
  split <;> split <;> (simp only; omega)
theorem load_far {m n : Nat} {X : Nat → Int} {h : Int} (hv : allT X n = true) (hh : 6000 ≤ h) : rod.load m X n h = 0 := by
  induction n with
  | zero => rfl
  | succ n ih =>
    have hb := allT_bd hv (i := n) (by omega)
    have : atT m X n h = false := by
      unfold atT fstT endT
      split <;> (simp; omega)
    rw [load_no this]
    exact ih (allT_le (by omega) hv)
theorem sum_seen_0 {a : Nat → Ev} {n : Nat} {h : Int} (hb : ∀ i, i < n → h < (a i).1) : sumF (fun i => seen h (a i)) n = 0 := by
  induction n with
  | zero => rfl
  | succ n ih =>
    simp only [sumF]
    rw [ih (fun i hi => hb i (by omega))]
    have := hb n (by omega)
    unfold seen
    rw [if_neg (by omega)]
    rfl

/-- where the walk through the events stands: the hour, the bundles, what has not come yet -/
structure Stand (m n : Nat) (X : Nat → Int) (T c : Int) (k : Nat) (a : Nat → Ev) : Prop where
  t0 : 0 ≤ T
  t1 : T ≤ 6000
  le : k ≤ n * 2
  load : ∀ h, T ≤ h → rod.load m X n h = c + sumF (fun i => seen h (a i)) k
  late : ∀ i, i < k → T ≤ (a i).1
  bd : ∀ i, i < k → (a i).1 ≤ 6000 ∧ -100 ≤ (a i).2 ∧ (a i).2 ≤ 100
  c0 : -(100 * ((n * 2 - k : Nat) : Int)) ≤ c
  c1 : c ≤ 100 * ((n * 2 - k : Nat) : Int)
theorem Stand.start {m n : Nat} {X : Nat → Int} {a : Nat → Ev} (hv : allT X n = true) (hs : Sim (n * 2) (evs m X) a) : Stand m n X 0 0 (n * 2) a where
  t0 := by omega
  t1 := by omega
  le := Nat.le_refl _
  load := fun h _ => by rw [load_evs hv, hs.sum (seen h)]; omega
  late := hs.all (fun e => 0 ≤ e.1) (fun i hi => (evs_bd hv hi).1)
  bd := hs.all (fun e => e.1 ≤ 6000 ∧ -100 ≤ e.2 ∧ e.2 ≤ 100) (fun i hi => (evs_bd hv hi).2)
  c0 := by omega
  c1 := by omega
theorem Stand.next {m n k : Nat} {X : Nat → Int} {T c : Int} {a b : Nat → Ev} (h : Stand m n X T c (k + 1) a) (hp : Popped a b k) : Stand m n X (a 0).1 (c + (a 0).2) k b := by
  have q := h.bd 0 (by omega)
  have l := h.late 0 (by omega)
  have := h.t0
  have := h.le
  have := h.c0
  have := h.c1
  exact {
    t0 := by omega
    t1 := by omega
    le := by omega
    load := fun x hx => by
      rw [h.load x (by omega), hp.sum (seen x)]
      have : seen x (a 0) = (a 0).2 := by unfold seen; rw [if_pos hx]
      rw [this]
      omega
    late := fun i hi => hp.top i hi
    bd := hp.all (fun e => e.1 ≤ 6000 ∧ -100 ≤ e.2 ∧ e.2 ≤ 100) h.bd
    c0 := by omega
    c1 := by omega }
theorem Stand.level {m n k : Nat} {X : Nat → Int} {T c : Int} {a : Nat → Ev} (h : Stand m n X T c (k + 1) a) (ht : ∀ i, i < k + 1 → (a 0).1 ≤ (a i).1) : ∀ x, T ≤ x → x < (a 0).1 → rod.load m X n x = c := fun x h1 h2 => by
  rw [h.load x h1, sum_seen_0 (fun i hi => by have := ht i hi; omega)]
  omega
theorem Stand.over {m n : Nat} {X : Nat → Int} {T c : Int} {a : Nat → Ev} (hv : allT X n = true) (h : Stand m n X T c 0 a) : ∀ x, T ≤ x → rod.load m X n x = 0 := fun x hx => by
  have e1 := h.load x hx
  have e2 := h.load (if T ≤ 6000 then 6000 else T) (by split <;> omega)
  rw [load_far hv (by split <;> omega)] at e2
  simp only [sumF] at e1 e2
  omega

/-- one level: from the hour x.1 on and before x.2.1 there are x.2.2 bundles -/
def Lvl (m n : Nat) (X : Nat → Int) (s : Int) (x : Int × Int × Int) (s' : Int) : Prop := x.1 = s ∧ x.2.1 = s' ∧ 0 ≤ s ∧ s < s' ∧ s' ≤ 6000 ∧ ∀ h, s ≤ h → h < s' → rod.load m X n h = x.2.2
def Fin (m n : Nat) (X : Nat → Int) (s : Int) : Prop := 0 ≤ s ∧ s ≤ 6000 ∧ ∀ h, s ≤ h → rod.load m X n h = 0
def lvlV (x : Int × Int × Int) : Array Value := #[.agg #[.int .i64 x.1, .int .i64 x.2.1, .int .i64 x.2.2]]
end Go.Proofs.Ytcpaenmhnoagdac.ag
