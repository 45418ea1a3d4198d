/-
  Weaves in plain numbers: after how many rounds a weave begins again, runs of equal sides, loose stakes, sound weaves. No function of the program lies here.
-/
import Derived.Lib.Hide
namespace Go.Proofs.YtopiecbldnhihaaDoor.wv
set_option linter.unusedVariables false

/-! ### runs in a row of values -/
/-- how many equal values end at i -/
def re (f : Nat → Int) : Nat → Nat
  | 0 => 1
  | i + 1 => if f (i + 1) = f i then re f i + 1 else 1
/-- how many equal values end ahead of i, if i goes on with them -/
def rs (f : Nat → Int) : Nat → Nat
  | 0 => 0
  | i + 1 => if f (i + 1) = f i then re f i else 0
theorem re_rs (f : Nat → Int) (i : Nat) : re f i = rs f i + 1 := by
  cases i with
  | zero => rfl
  | succ i => simp only [re, rs]; split <;> rfl
/-- the longest run that ends ahead of k -/
def mx (f : Nat → Int) : Nat → Nat
  | 0 => 0
  | k + 1 => max (mx f k) (re f k)
/-- the longest one that is broken off there -/
def mb (f : Nat → Int) : Nat → Nat
  | 0 => 0
  | k + 1 => if f (k + 1) = f k then mb f k else max (mb f k) (re f k)
theorem re_le (f : Nat → Int) (i : Nat) : re f i ≤ i + 1 := by
  induction i with
  | zero => exact Nat.le_refl _
  | succ i ih => simp only [re]; split <;> omega
theorem re_pos (f : Nat → Int) (i : Nat) : 1 ≤ re f i := by rw [re_rs]; omega
theorem mx_le (f : Nat → Int) (k : Nat) : mx f k ≤ k := by
  induction k with
  | zero => exact Nat.le_refl _
  | succ k ih => have := re_le f k; simp only [mx]; omega
theorem mb_le_mx (f : Nat → Int) (k : Nat) : mb f k ≤ mx f k := by
  induction k with
  | zero => exact Nat.le_refl _
  | succ k ih => simp only [mx, mb]; split <;> omega
theorem mb_le (f : Nat → Int) (k : Nat) : mb f k ≤ k := Nat.le_trans (mb_le_mx f k) (mx_le f k)
theorem mx_at {f : Nat → Int} {k i : Nat} (h : i < k) : re f i ≤ mx f k := by
  induction k with
  | zero => omega
  | succ k ih =>
    simp only [mx]
    by_cases e : i = k
    · subst e; omega
    · have := ih (by omega); omega
theorem mb_at {f : Nat → Int} {k i : Nat} (h : i < k) (hb : f (i + 1) ≠ f i) : re f i ≤ mb f k := by
  induction k with
  | zero => omega
  | succ k ih =>
    simp only [mb]
    by_cases e : i = k
    · subst e; rw [if_neg hb]; omega
    · have := ih (by omega); split <;> omega
theorem mx_get (f : Nat → Int) (k c : Nat) (h : ∀ i, i < k → re f i ≤ c) : mx f k ≤ c := by
  induction k with
  | zero => exact Nat.zero_le _
  | succ k ih => have := ih (fun i hi => h i (by omega)); have := h k (by omega); simp only [mx]; omega
theorem mb_get (f : Nat → Int) (k c : Nat) (h : ∀ i, i < k → f (i + 1) ≠ f i → re f i ≤ c) : mb f k ≤ c := by
  induction k with
  | zero => exact Nat.zero_le _
  | succ k ih =>
    have := ih (fun i hi => h i (by omega))
    simp only [mb]
    split
    · exact this
    · rename_i e
      have := h k (by omega) e
      omega
/-- the values of the run are equal -/
theorem re_same (f : Nat → Int) (i : Nat) : ∀ j, i + 1 - re f i ≤ j → j ≤ i → f j = f i := by
  induction i with
  | zero => intro j _ h; obtain rfl : j = 0 := by omega
            rfl
  | succ i ih =>
    intro j h1 h2
    simp only [re] at h1
    split at h1
    · rename_i e
      by_cases hj : j = i + 1
      · rw [hj]
      · rw [e]; exact ih j (by omega) (by omega)
    · obtain rfl : j = i + 1 := by omega
      rfl
theorem re_long {f : Nat → Int} {a e : Nat} (h : a ≤ e) (hs : ∀ j, a ≤ j → j < e → f (j + 1) = f j) : e - a + 1 ≤ re f e := by
  induction e with
  | zero => have := re_pos f 0; omega
  | succ e ih =>
    by_cases hae : a = e + 1
    · have := re_pos f (e + 1); omega
    · have := ih (by omega) (fun j h1 h2 => hs j h1 (by omega))
      simp only [re]
      rw [if_pos (hs e (by omega) (by omega))]
      omega
/-- there is a next break -/
theorem next_break {f : Nat → Int} {d : Nat} : ∀ {i : Nat}, f (i + d + 1) ≠ f (i + d) → ∃ e, i ≤ e ∧ e ≤ i + d ∧ f (e + 1) ≠ f e ∧ ∀ j, i ≤ j → j < e → f (j + 1) = f j := by
  induction d with
  | zero => intro i h; exact ⟨i, Nat.le_refl _, Nat.le_refl _, h, fun j _ _ => by omega⟩
  | succ d ih =>
    intro i h
    by_cases hb : f (i + 1) = f i
    · obtain ⟨e, h1, h2, h3, h4⟩ := ih (i := i + 1) (by rw [show i + 1 + d = i + (d + 1) by omega]; exact h)
      refine ⟨e, by omega, by omega, h3, fun j j1 j2 => ?_⟩
      by_cases hj : j = i
      · subst hj; exact hb
      · exact h4 j (by omega) j2
    · exact ⟨i, Nat.le_refl _, by omega, hb, fun j _ _ => by omega⟩
theorem re_on {f : Nat → Int} {i e : Nat} (h : i ≤ e) (hs : ∀ j, i ≤ j → j < e → f (j + 1) = f j) : re f i ≤ re f e := by
  induction e with
  | zero => obtain rfl : i = 0 := by omega
            exact Nat.le_refl _
  | succ e ih =>
    by_cases hie : i = e + 1
    · subst hie; exact Nat.le_refl _
    · have := ih (by omega) (fun j h1 h2 => hs j h1 (by omega))
      simp only [re]
      rw [if_pos (hs e (by omega) (by omega))]
      omega
section
variable {f : Nat → Int} {m : Nat} (hp : ∀ i, f (i + m) = f i) (hm : 0 < m)
include hp hm
omit hm in
theorem per_break {i : Nat} (h : f (i + 1) ≠ f i) : f (i + m + 1) ≠ f (i + m) := by
  rw [show i + m + 1 = i + 1 + m by omega, hp, hp]; exact h
theorem break_from {b : Nat} (hb : f (b + 1) ≠ f b) (i : Nat) : ∃ d, d < m + b ∧ f (i + d + 1) ≠ f (i + d) := by
  -- b + k m, the first that is not before i
  induction i with
  | zero => exact ⟨b, by omega, by rw [Nat.zero_add]; exact hb⟩
  | succ i ih =>
    obtain ⟨d, h1, h2⟩ := ih
    cases d with
    | zero => exact ⟨m - 1, by omega, by have := per_break hp h2; rw [show i + 1 + (m - 1) = i + 0 + m by omega]; exact this⟩
    | succ d => exact ⟨d, by omega, by rw [show i + 1 + d = i + (d + 1) by omega]; exact h2⟩
theorem break_near {b : Nat} (hb : f (b + 1) ≠ f b) (i : Nat) : ∃ d, d < m ∧ f (i + d + 1) ≠ f (i + d) := by
  obtain ⟨d, _, h⟩ := break_from hp hm hb i
  induction d using Nat.strongRecOn with
  | _ d ih =>
    by_cases hd : d < m
    · exact ⟨d, hd, h⟩
    · refine ih (d - m) (by omega) (by omega) ?_
      have e1 := hp (i + (d - m) + 1)
      have e2 := hp (i + (d - m))
      rw [show i + (d - m) + 1 + m = i + d + 1 by omega] at e1
      rw [show i + (d - m) + m = i + d by omega] at e2
      rw [← e1, ← e2]
      exact h
/-- where the values are not all equal, the longest run is one that is broken off within two rounds -/
theorem mx_mb {b : Nat} (hb : f (b + 1) ≠ f b) : mx f (2 * m) = mb f (2 * m) := by
  refine Nat.le_antisymm (mx_get _ _ _ fun i hi => ?_) (mb_le_mx _ _)
  obtain ⟨d, hd, hbd⟩ := break_near hp hm hb i
  obtain ⟨e, h1, h2, h3, h4⟩ := next_break hbd
  have h5 := re_on h1 h4
  by_cases he : e < 2 * m
  · exact Nat.le_trans h5 (mb_at he h3)
  · have hs := re_same f i
    have hr := re_le f i
    have hr1 := re_pos f i
    -- all equal from the run's start to e
    have heq : ∀ j, i + 1 - re f i ≤ j → j ≤ e → f j = f i := by
      intro j j1 j2
      by_cases hj : j ≤ i
      · exact hs j j1 hj
      · clear h5 hs
        obtain ⟨c, rfl⟩ : ∃ c, j = i + c := ⟨j - i, by omega⟩
        clear hj j1
        induction c with
        | zero => rfl
        | succ c ih => rw [← ih (by omega)]; exact h4 (i + c) (by omega) (by omega)
    by_cases ha : i + 1 - re f i < m
    · -- a whole round is equal
      exfalso
      obtain ⟨d2, hd2, hb2⟩ := break_near hp hm hb (i + 1 - re f i)
      exact hb2 ((heq _ (by omega) (by omega)).trans (heq _ (by omega) (by omega)).symm)
    · have h6 : f (e - m + 1) ≠ f (e - m) := by
        have e1 := hp (e - m + 1)
        have e2 := hp (e - m)
        rw [show e - m + 1 + m = e + 1 by omega] at e1
        rw [show e - m + m = e by omega] at e2
        rw [← e1, ← e2]; exact h3
      have h7 : (e - m) - (i + 1 - re f i - m) + 1 ≤ re f (e - m) := re_long (by omega) fun j j1 j2 => by
        rw [← hp (j + 1), ← hp j, show j + 1 + m = j + m + 1 by omega]
        exact (heq _ (by omega) (by omega)).trans (heq _ (by omega) (by omega)).symm
      have h8 := mb_at (k := 2 * m) (by omega) h6
      omega
theorem re_le_m {b : Nat} (hb : f (b + 1) ≠ f b) (i : Nat) : re f i ≤ m := by
  have hs := re_same f i
  have hr := re_le f i
  by_cases h : re f i ≤ m
  · exact h
  · exfalso
    obtain ⟨d, hd, hbd⟩ := break_near hp hm hb (i + 1 - re f i)
    exact hbd ((hs _ (by omega) (by omega)).trans (hs _ (by omega) (by omega)).symm)
theorem mb_le_m {b : Nat} (hb : f (b + 1) ≠ f b) : mb f (2 * m) ≤ m := mb_get _ _ _ fun i _ _ => re_le_m hp hm hb i
theorem mb_pos {b : Nat} (hb : f (b + 1) ≠ f b) : 1 ≤ mb f (2 * m) := by
  obtain ⟨d, hd, hbd⟩ := break_near hp hm hb 0
  rw [Nat.zero_add] at hbd
  exact Nat.le_trans (re_pos f d) (mb_at (by omega) hbd)
end
theorem mb_zero {f : Nat → Int} {k : Nat} (h : ∀ i, i < k → f (i + 1) = f i) : mb f k = 0 := by
  induction k with
  | zero => rfl
  | succ k ih => simp only [mb]; rw [if_pos (h k (by omega))]; exact ih fun i hi => h i (by omega)
theorem mx_all {f : Nat → Int} {k : Nat} (h : ∀ i, i < k → f (i + 1) = f i) : mx f k = k := by
  have : ∀ k, (∀ i, i < k → f (i + 1) = f i) → re f k = k + 1 := by
    intro k
    induction k with
    | zero => intro _; rfl
    | succ k ih => intro h; simp only [re]; rw [if_pos (h k (by omega)), ih fun i hi => h i (by omega)]
  cases k with
  | zero => rfl
  | succ k =>
    have h1 := this k fun i hi => h i (by omega)
    have h2 := mx_le f (k + 1)
    have h3 := mx_at (f := f) (k := k + 1) (i := k) (by omega)
    omega
theorem mx_congr {f g : Nat → Int} {k : Nat} (h : ∀ i, i < k → f i = g i) : mx f k = mx g k := by
  have hre : ∀ i, i < k → re f i = re g i := fun i hi => by
    induction i with
    | zero => rfl
    | succ i ih => simp only [re]; rw [h (i + 1) hi, h i (by omega), ih (by omega)]
  induction k with
  | zero => rfl
  | succ k ih => simp only [mx]; rw [ih (fun i hi => h i (by omega)) (fun i hi => hre i (by omega)), hre k (by omega)]

/-! ### a text that begins again behind its end -/
def cyc (f : Nat → Int) (m : Nat) : Nat → Int := fun i => f (i % m)
theorem cyc_per (f : Nat → Int) (m : Nat) (i : Nat) : cyc f m (i + m) = cyc f m i := by unfold cyc; rw [Nat.add_mod_right]
theorem cyc_lt {f : Nat → Int} {m i : Nat} (h : i < m) : cyc f m i = f i := by unfold cyc; rw [Nat.mod_eq_of_lt h]
theorem cyc_two {f : Nat → Int} {m i : Nat} (h1 : m ≤ i) (h2 : i < 2 * m) : cyc f m i = f (i - m) := by
  unfold cyc; rw [Nat.mod_eq_sub_mod h1, Nat.mod_eq_of_lt (by omega)]
/-- the longest run of a text that is repeated, all of it where it is of one kind -/
def lrun (f : Nat → Int) (m : Nat) : Nat := min (mx (cyc f m) (2 * m)) m
/-- the longest one that is broken off; 0 where it is of one kind -/
def frun (f : Nat → Int) (m : Nat) : Nat := mb (cyc f m) (2 * m)
/-- of one kind -/
def oneK (f : Nat → Int) (m : Nat) : Prop := ∀ i, i < m → f i = f 0
instance (f : Nat → Int) (m : Nat) : Decidable (oneK f m) := inferInstanceAs (Decidable (∀ i, i < m → f i = f 0))
theorem one_cyc {f : Nat → Int} {m : Nat} (hm : 0 < m) (h : oneK f m) (i : Nat) : cyc f m i = f 0 := h _ (Nat.mod_lt _ hm)
theorem one_break {f : Nat → Int} {m : Nat} (hm : 0 < m) (h : ¬ oneK f m) : ∃ b, cyc f m (b + 1) ≠ cyc f m b := by
  by_cases hh : ∃ b, cyc f m (b + 1) ≠ cyc f m b
  · exact hh
  · exfalso
    refine h fun i hi => ?_
    have : ∀ j, cyc f m j = cyc f m 0 := fun j => by
      induction j with
      | zero => rfl
      | succ j ih =>
        rw [← ih]
        by_cases e : cyc f m (j + 1) = cyc f m j
        · exact e
        · exact absurd ⟨j, e⟩ hh
    have h1 := this i
    rw [cyc_lt hi, cyc_lt hm] at h1
    exact h1
theorem frun_one {f : Nat → Int} {m : Nat} (hm : 0 < m) (h : oneK f m) : frun f m = 0 := mb_zero fun i _ => by rw [one_cyc hm h, one_cyc hm h]
theorem lrun_one {f : Nat → Int} {m : Nat} (hm : 0 < m) (h : oneK f m) : lrun f m = m := by
  unfold lrun; rw [mx_all fun i _ => by rw [one_cyc hm h, one_cyc hm h]]; omega
theorem lrun_two {f : Nat → Int} {m : Nat} (hm : 0 < m) (h : ¬ oneK f m) : lrun f m = frun f m ∧ 1 ≤ frun f m ∧ frun f m ≤ m := by
  obtain ⟨b, hb⟩ := one_break hm h
  have h1 := mx_mb (cyc_per f m) hm hb
  have h2 := mb_le_m (cyc_per f m) hm hb
  have h3 := mb_pos (cyc_per f m) hm hb
  refine ⟨?_, h3, h2⟩
  unfold lrun frun
  rw [h1]; omega
theorem frun_pos {f : Nat → Int} {m : Nat} (hm : 0 < m) : 0 < frun f m ↔ ¬ oneK f m := by
  constructor
  · intro h h1; rw [frun_one hm h1] at h; omega
  · intro h; exact (lrun_two hm h).2.1
theorem frun_le {f : Nat → Int} {m : Nat} (hm : 0 < m) : frun f m ≤ m := by
  by_cases h : oneK f m
  · rw [frun_one hm h]; omega
  · exact (lrun_two hm h).2.2
theorem lrun_le (f : Nat → Int) (m : Nat) : lrun f m ≤ m := by unfold lrun; omega
theorem oneK_congr {f g : Nat → Int} {m : Nat} (h : ∀ i, i < m → f i = g i) (h0 : 0 < m) : oneK f m ↔ oneK g m :=
  ⟨fun q i hi => by rw [← h i hi, ← h 0 h0]; exact q i hi, fun q i hi => by rw [h i hi, h 0 h0]; exact q i hi⟩

/-! ### rounds -/
/-- after how many rounds the weaver stands at the same place again -/
def rnd (n s : Nat) : Nat := n / Nat.gcd n s
theorem rnd_pos {n : Nat} (s : Nat) (hn : 0 < n) : 1 ≤ rnd n s := Nat.div_pos (Nat.le_of_dvd hn (Nat.gcd_dvd_left _ _)) (Nat.gcd_pos_of_pos_left _ hn)
theorem rnd_le (n s : Nat) : rnd n s ≤ n := Nat.div_le_self _ _
theorem rnd_zero {n : Nat} (s : Nat) (hn : 0 < n) : (rnd n s * s) % n = 0 := by
  obtain ⟨c, hc⟩ := Nat.gcd_dvd_right n s
  obtain ⟨d, hd⟩ := Nat.gcd_dvd_left n s
  have hg := Nat.gcd_pos_of_pos_left s hn
  have e : rnd n s = d := Nat.div_eq_of_eq_mul_right hg hd
  rw [e]
  refine Nat.mod_eq_zero_of_dvd ⟨c, ?_⟩
  conv => lhs; rw [hc]
  conv => rhs; rw [hd]
  rw [← Nat.mul_assoc, Nat.mul_comm d]
theorem rnd_least {n s r : Nat} (hn : 0 < n) (hr : 0 < r) (h : (r * s) % n = 0) : rnd n s ≤ r := by
  have hg := Nat.gcd_pos_of_pos_left s hn
  have h1 : n ∣ r * s := Nat.dvd_of_mod_eq_zero h
  have h2 : rnd n s ∣ r * (s / Nat.gcd n s) := by
    obtain ⟨c, hc⟩ := h1
    refine ⟨c, ?_⟩
    unfold rnd
    obtain ⟨a, ha⟩ := Nat.gcd_dvd_left n s
    obtain ⟨b, hb⟩ := Nat.gcd_dvd_right n s
    have e1 : n / Nat.gcd n s = a := Nat.div_eq_of_eq_mul_right hg ha
    have e2 : s / Nat.gcd n s = b := Nat.div_eq_of_eq_mul_right hg hb
    rw [e1, e2]
    refine Nat.eq_of_mul_eq_mul_left hg ?_
    calc Nat.gcd n s * (r * b) = r * (Nat.gcd n s * b) := by rw [Nat.mul_left_comm]
      _ = r * s := by rw [← hb]
      _ = n * c := hc
      _ = Nat.gcd n s * a * c := by rw [← ha]
      _ = Nat.gcd n s * (a * c) := Nat.mul_assoc _ _ _
  have h3 : Nat.Coprime (rnd n s) (s / Nat.gcd n s) := Nat.coprime_div_gcd_div_gcd hg
  exact Nat.le_of_dvd hr (h3.dvd_of_dvd_mul_right h2)
theorem rnd_step {n s r : Nat} (hn : 0 < n) (hr : r ≤ rnd n s) (h : ¬ (r * s) % n = 0) : r + 1 ≤ rnd n s := by
  by_cases e : r = rnd n s
  · subst e; exact absurd (rnd_zero s hn) h
  · omega
theorem rnd_end {n s r : Nat} (hn : 0 < n) (h0 : 1 ≤ r) (hr : r ≤ rnd n s) (h : (r * s) % n = 0) : r = rnd n s := Nat.le_antisymm hr (rnd_least hn h0 h)

/-! ### sides, loose stakes, sound weaves -/
/-- how the weaver lies at stake k of round r -/
def side (f : Nat → Int) (n s r k : Nat) : Int := f ((r * s + k) % n)
/-- how it lies at stake k in the rounds -/
def stk (f : Nat → Int) (n s k : Nat) : Nat → Int := fun r => side f n s r k
def looseB (f : Nat → Int) (n s k : Nat) : Bool := decide (oneK (stk f n s k) (rnd n s))
def loose (f : Nat → Int) (n s : Nat) : List Nat := (List.range s).filter (looseB f n s)
/-- the loose ones below k -/
def looseTo (f : Nat → Int) (n s k : Nat) : List Nat := (List.range k).filter (looseB f n s)
theorem looseTo_succ (f : Nat → Int) (n s k : Nat) : looseTo f n s (k + 1) = looseTo f n s k ++ if looseB f n s k = true then [k] else [] := by
  unfold looseTo
  rw [List.range_succ, List.filter_append]
  cases h : looseB f n s k <;> simp [h]
theorem looseTo_len (f : Nat → Int) (n s k : Nat) : (looseTo f n s k).length ≤ k := by
  unfold looseTo; exact Nat.le_trans (List.length_filter_le _ _) (by simp)
theorem loose_lt {f : Nat → Int} {n s k : Nat} (h : k ∈ loose f n s) : k < s := by unfold loose at h; simpa using (List.mem_filter.1 h).1
def soundB (f : Nat → Int) (n s fl : Nat) : Bool := decide (0 < frun f n) && decide (frun f n ≤ fl) && decide (loose f n s = [])
def soundTo (f : Nat → Int) (n fl lo k : Nat) : List Nat := ((List.range k).map (lo + ·)).filter fun s => soundB f n s fl
theorem soundTo_succ (f : Nat → Int) (n fl lo k : Nat) : soundTo f n fl lo (k + 1) = soundTo f n fl lo k ++ if soundB f n (lo + k) fl = true then [lo + k] else [] := by
  unfold soundTo
  rw [List.range_succ, List.map_append, List.filter_append]
  cases h : soundB f n (lo + k) fl <;> simp [h]
theorem soundTo_len (f : Nat → Int) (n fl lo k : Nat) : (soundTo f n fl lo k).length ≤ k := by
  unfold soundTo; exact Nat.le_trans (List.length_filter_le _ _) (by simp)
/-- a weaver of one kind holds every stake on one side -/
theorem loose_one {f : Nat → Int} {n s : Nat} (hn : 0 < n) (h : oneK f n) : ∀ k, looseB f n s k = true := fun k => by
  unfold looseB
  refine decide_eq_true fun r _ => ?_
  unfold stk side
  rw [h _ (Nat.mod_lt _ hn), h _ (Nat.mod_lt _ hn)]
theorem loose_ne {f : Nat → Int} {n s : Nat} (hn : 0 < n) (hs : 0 < s) (h : oneK f n) : loose f n s ≠ [] := by
  intro e
  have : (0 : Nat) ∈ loose f n s := List.mem_filter.2 ⟨by simpa using hs, loose_one hn h 0⟩
  rw [e] at this
  cases this
/-- what the program asks is what soundness is -/
theorem sound_i {f : Nat → Int} {n s : Nat} (fl : Nat) (hn : 0 < n) (hs : 0 < s) : soundB f n s fl = (decide (lrun f n ≤ fl) && decide (loose f n s = [])) := by
  unfold soundB
  by_cases h : oneK f n
  · rw [frun_one hn h, decide_eq_false (loose_ne hn hs h)]; simp
  · obtain ⟨h1, h2, h3⟩ := lrun_two hn h
    rw [h1, decide_eq_true (show 0 < frun f n by omega)]; simp
/-- both sides are met -/
theorem two_kinds {f : Nat → Int} {m : Nat} (hm : 0 < m) (hk : ∀ i, i < m → f i = 70 ∨ f i = 66) : ¬ oneK f m ↔ (∃ i, i < m ∧ f i = 70) ∧ (∃ i, i < m ∧ f i = 66) := by
  constructor
  · intro h
    have h0 := hk 0 hm
    have : ∃ i, i < m ∧ f i ≠ f 0 := by
      by_cases hh : ∃ i, i < m ∧ f i ≠ f 0
      · exact hh
      · exact absurd (fun i hi => Decidable.byContradiction fun e => hh ⟨i, hi, e⟩) h
    obtain ⟨i, hi, hne⟩ := this
    have hi0 := hk i hi
    rcases h0 with h0 | h0
    · exact ⟨⟨0, hm, h0⟩, ⟨i, hi, by rcases hi0 with h | h; (exact absurd (h.trans h0.symm) hne); exact h⟩⟩
    · exact ⟨⟨i, hi, by rcases hi0 with h | h; exact h; exact absurd (h.trans h0.symm) hne⟩, ⟨0, hm, h0⟩⟩
  · rintro ⟨⟨i, hi, h1⟩, ⟨j, hj, h2⟩⟩ h
    have a := h i hi
    have b := h j hj
    rw [h1] at a
    rw [h2] at b
    omega

/-- the longest stack of the stakes below k -/
def stackTo (f : Nat → Int) (n s : Nat) : Nat → Nat
  | 0 => 0
  | k + 1 => max (stackTo f n s k) (frun (stk f n s k) (rnd n s))
theorem stackTo_le (f : Nat → Int) {n : Nat} (s : Nat) (hn : 0 < n) (k : Nat) : stackTo f n s k ≤ n := by
  induction k with
  | zero => exact Nat.zero_le _
  | succ k ih => have := frun_le (f := stk f n s k) (rnd_pos s hn); have := rnd_le n s; simp only [stackTo]; omega
/-- where no stake is loose the runs are those that are broken off -/
theorem stk_two {f : Nat → Int} {n s k : Nat} (hn : 0 < n) (h : loose f n s = []) (hk : k < s) : lrun (stk f n s k) (rnd n s) = frun (stk f n s k) (rnd n s) := by
  refine (lrun_two (rnd_pos s hn) fun h1 => ?_).1
  have : k ∈ loose f n s := List.mem_filter.2 ⟨by simpa using hk, decide_eq_true h1⟩
  rw [h] at this
  cases this
theorem stk_frun {f : Nat → Int} {n s k : Nat} (hn : 0 < n) : (frun (stk f n s k) (rnd n s) == 0) = looseB f n s k := by
  unfold looseB
  have h := frun_pos (f := stk f n s k) (rnd_pos s hn)
  by_cases h1 : oneK (stk f n s k) (rnd n s)
  · rw [frun_one (rnd_pos s hn) h1, decide_eq_true h1]; rfl
  · have h2 := h.2 h1
    rw [decide_eq_false h1]
    simp; omega
end Go.Proofs.YtopiecbldnhihaaDoor.wv
