/-
  Plans of stakes, as plain lists: which plan is the best one. No function of the program lies here.
-/
import Derived.Test.YtldeeilgmogjjaaHg
namespace Go.Proofs.Ytldeeilgmogjjaa.shp
open Go.ChangeShapes Go.WideShapes Go.ChangeAt Go.RowKit Go.Proofs.Ytldeeilgmogjjaa.mem Go.Proofs.Ytldeeilgmogjjaa.rod Go.Proofs.Ytldeeilgmogjjaa.nums
set_option linter.unusedVariables false

/-- a comparison of two numbers -/
def ordI (a b : Int) : Int := if a < b then -1 else if b < a then 1 else 0
theorem ordI_lt {a b : Int} (h : a < b) : ordI a b = -1 := if_pos h
theorem ordI_gt {a b : Int} (h : b < a) : ordI a b = 1 := by unfold ordI; rw [if_neg (by omega), if_pos h]
theorem ordI_eq (a : Int) : ordI a a = 0 := by unfold ordI; rw [if_neg (by omega), if_neg (by omega)]
theorem ordI_zero {a b : Int} (h : ordI a b = 0) : a = b := by
  rcases Int.lt_trichotomy a b with c | c | c
  · rw [ordI_lt c] at h; cases h
  · exact c
  · rw [ordI_gt c] at h; cases h
/-- a comparison of two lists, number by number -/
def cmpL : List Int → List Int → Int
  | [], [] => 0
  | [], _ :: _ => -1
  | _ :: _, [] => 1
  | a :: l, b :: m => if ordI a b = 0 then cmpL l m else ordI a b
theorem cmpL_eq {a b : Int} {l m : List Int} (h : ordI a b = 0) : cmpL (a :: l) (b :: m) = cmpL l m := if_pos h
theorem cmpL_ne {a b : Int} {l m : List Int} (h : ordI a b ≠ 0) : cmpL (a :: l) (b :: m) = ordI a b := if_neg h
theorem cmpL_self : ∀ l : List Int, cmpL l l = 0
  | [] => rfl
  | a :: l => by rw [cmpL_eq (ordI_eq a)]; exact cmpL_self l
/-- the sum of the differences of a list's numbers -/
def chg (l : List Int) : Int := chs (fun j => l.getD j 0) (l.length - 1)
theorem chs_front (X : Nat → Int) : ∀ n, chs X (n + 1) = dst (X 0) (X 1) + chs (fun j => X (j + 1)) n
  | 0 => by show 0 + dst (X 0) (X 1) = dst (X 0) (X 1) + 0; omega
  | n + 1 => by
    have ih := chs_front X n
    show chs X (n + 1) + dst (X (n + 1)) (X (n + 1 + 1)) = dst (X 0) (X 1) + (chs (fun j => X (j + 1)) n + dst (X (n + 1)) (X (n + 1 + 1)))
    rw [ih]
    omega
theorem chg_one (s : Int) : chg [s] = 0 := rfl
theorem chg_cons (s t : Int) (l : List Int) : chg (s :: t :: l) = dst s t + chg (t :: l) := by
  unfold chg
  have h := chs_front (fun j => (s :: t :: l).getD j 0) l.length
  exact h
/-- a plan is better than another one: fewer changes, or, with as many, the first one -/
def cmpP (p q : List Int) : Int := if ordI (chg p) (chg q) = 0 then cmpL p q else ordI (chg p) (chg q)
theorem cmpP_eq {p q : List Int} (h : ordI (chg p) (chg q) = 0) : cmpP p q = cmpL p q := if_pos h
theorem cmpP_ne {p q : List Int} (h : ordI (chg p) (chg q) ≠ 0) : cmpP p q = ordI (chg p) (chg q) := if_neg h
/-- the better one of two -/
def btr (m q : List Int) : List Int := if cmpP q m < 0 then q else m
theorem btr_yes {m q : List Int} (h : cmpP q m < 0) : btr m q = q := if_pos h
theorem btr_no {m q : List Int} (h : ¬ cmpP q m < 0) : btr m q = m := if_neg h
/-- the best one of some plans -/
def bestL : List (List Int) → Option (List Int)
  | [] => none
  | p :: ps => some (ps.foldl btr p)
theorem fold_mem : ∀ (ps : List (List Int)) (p : List Int), ps.foldl btr p = p ∨ ps.foldl btr p ∈ ps
  | [], _ => .inl rfl
  | q :: ps, p => by
    show ps.foldl btr (btr p q) = p ∨ ps.foldl btr (btr p q) ∈ q :: ps
    rcases fold_mem ps (btr p q) with h | h
    · rw [h]
      unfold btr
      split
      · exact .inr (List.mem_cons_self ..)
      · exact .inl rfl
    · exact .inr (List.mem_cons_of_mem _ h)
theorem bestL_mem {ps : List (List Int)} {p : List Int} (h : bestL ps = some p) : p ∈ ps := by
  cases ps with
  | nil => cases h
  | cons q ps =>
    injection h with h
    subst h
    rcases fold_mem ps q with h | h
    · rw [h]; exact List.mem_cons_self ..
    · exact List.mem_cons_of_mem _ h
theorem bestL_none {ps : List (List Int)} (h : bestL ps = none) : ps = [] := by
  cases ps with
  | nil => rfl
  | cons q ps => cases h
theorem bestL_some {ps : List (List Int)} (h : 0 < ps.length) : ∃ p, bestL ps = some p := by
  cases ps with
  | nil => simp at h
  | cons q ps => exact ⟨_, rfl⟩
theorem take_fold (p : List Int) (ps : List (List Int)) (k : Nat) (h : k < ps.length) : (ps.take (k + 1)).foldl btr p = btr ((ps.take k).foldl btr p) (ps.getD k []) := by
  rw [List.take_succ_eq_append_getElem h, List.foldl_append]
  simp [List.getD, List.getElem?_eq_getElem h]

/-- what numbers pass as well: a rule of one number, and that of a level -/
def nearP (m : Int) (s : Int) : Bool := decide (dst m s ≤ 6)
/-- the best plan from level i upwards, with r levels above it, that begins with s stakes -/
def pl (X : Nat → Int) (lo hi : Int) : Nat → Nat → Int → Option (List Int)
  | 0, _, s => some [s]
  | r + 1, i, s => bestL (((stk (fun t => nearP s t && goodB (X (i + 1)) lo hi t) 58).filterMap (pl X lo hi r (i + 1))).map (s :: ·))
/-- the best plans from level i upwards of the numbers that pass a test -/
def plans (X : Nat → Int) (lo hi : Int) (r i : Nat) (p : Int → Bool) : List (List Int) := (stk (fun t => p t && goodB (X i) lo hi t) 58).filterMap (pl X lo hi r i)
theorem pl_zero (X : Nat → Int) (lo hi : Int) (i : Nat) (s : Int) : pl X lo hi 0 i s = some [s] := by unfold pl; rfl
theorem pl_succ (X : Nat → Int) (lo hi : Int) (r i : Nat) (s : Int) : pl X lo hi (r + 1) i s = bestL ((plans X lo hi r (i + 1) (nearP s)).map (s :: ·)) := by unfold plans; rw [pl]
theorem stk_mem {p : Int → Bool} {x : Int} : ∀ {k : Nat}, x ∈ stk p k → 3 ≤ x ∧ x < 3 + (k : Int) ∧ p x = true
  | 0, h => absurd h (by simp [stk])
  | k + 1, h => by
    cases e : p (3 + (k : Int))
    · rw [stk_no e] at h
      have := stk_mem h
      exact ⟨this.1, by omega, this.2.2⟩
    · rw [stk_yes e, List.mem_append, List.mem_singleton] at h
      rcases h with h | rfl
      · have := stk_mem h
        exact ⟨this.1, by omega, this.2.2⟩
      · exact ⟨by omega, by omega, e⟩
theorem mem_stk {p : Int → Bool} {x : Int} : ∀ {k : Nat}, 3 ≤ x → x < 3 + (k : Int) → p x = true → x ∈ stk p k
  | 0, h1, h2, _ => absurd h2 (by omega)
  | k + 1, h1, h2, h3 => by
    by_cases c : x = 3 + (k : Int)
    · subst c
      rw [stk_yes h3]; simp
    · have := mem_stk (k := k) h1 (by omega) h3
      cases e : p (3 + (k : Int))
      · rw [stk_no e]; exact this
      · rw [stk_yes e]; exact List.mem_append_left _ this
/-- what a plan is, as far as its numbers go -/
def PlanB (r : Nat) (s : Int) (l : List Int) : Prop := l.length = r + 1 ∧ l.getD 0 0 = s ∧ ∀ j, j < l.length → 3 ≤ l.getD j 0 ∧ l.getD j 0 ≤ 60
theorem planB_one {s : Int} (h0 : 3 ≤ s) (h1 : s ≤ 60) : PlanB 0 s [s] := by
  refine ⟨rfl, rfl, fun j hj => ?_⟩
  have hj' : j < 1 := hj
  obtain rfl : j = 0 := by omega
  exact ⟨h0, h1⟩
theorem planB_cons {r : Nat} {s t : Int} {m : List Int} (h0 : 3 ≤ s) (h1 : s ≤ 60) (h : PlanB r t m) : PlanB (r + 1) s (s :: m) := by
  obtain ⟨e1, e2, e3⟩ := h
  refine ⟨by rw [List.length_cons, e1], rfl, fun j hj => ?_⟩
  cases j with
  | zero => exact ⟨h0, h1⟩
  | succ j =>
    have := e3 j (by rw [List.length_cons] at hj; omega)
    simpa using this
theorem pl_bd {X : Nat → Int} {lo hi : Int} (r : Nat) : ∀ {i : Nat} {s : Int} {l : List Int}, 3 ≤ s → s ≤ 60 → pl X lo hi r i s = some l → PlanB r s l := by
  induction r with
  | zero =>
    intro i s l h0 h1 h
    rw [pl_zero] at h
    obtain rfl : [s] = l := Option.some.inj h
    exact planB_one h0 h1
  | succ r ih =>
    intro i s l h0 h1 h
    rw [pl_succ] at h
    have hm := bestL_mem h
    rw [List.mem_map] at hm
    obtain ⟨m, hm, rfl⟩ := hm
    unfold plans at hm
    rw [List.mem_filterMap] at hm
    obtain ⟨t, ht, hp⟩ := hm
    have ht' := stk_mem ht
    exact planB_cons h0 h1 (ih ht'.1 (by have := ht'.2.1; omega) hp)
theorem plans_bd {X : Nat → Int} {lo hi : Int} {r i : Nat} {p : Int → Bool} {l : List Int} (h : l ∈ plans X lo hi r i p) : ∃ s, 3 ≤ s ∧ s ≤ 60 ∧ PlanB r s l := by
  unfold plans at h
  rw [List.mem_filterMap] at h
  obtain ⟨t, ht, hp⟩ := h
  obtain ⟨t0, t1, _⟩ := stk_mem ht
  exact ⟨t, t0, by omega, pl_bd r t0 (by omega) hp⟩
theorem plans_len (X : Nat → Int) (lo hi : Int) (r i : Nat) (p : Int → Bool) : (plans X lo hi r i p).length ≤ 58 :=
  Nat.le_trans (List.length_filterMap_le _ _) (stk_len _ _)
end Go.Proofs.Ytldeeilgmogjjaa.shp
