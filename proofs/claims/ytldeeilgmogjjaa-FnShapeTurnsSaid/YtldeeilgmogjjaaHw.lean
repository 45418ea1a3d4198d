/-
  The best plans, as plain mathematics: the least sums of changes by a table, and the first plan that has the least one. No function of the program lies here.
-/
import Derived.Test.YtldeeilgmogjjaaHv
import Derived.Test.YtldeeilgmogjjaaHi
namespace Go.Proofs.Ytldeeilgmogjjaa.shp
open Go.ChangeShapes Go.WideShapes Go.ChangeAt Go.RowKit Go.Proofs.Ytldeeilgmogjjaa.mem Go.Proofs.Ytldeeilgmogjjaa.rod Go.Proofs.Ytldeeilgmogjjaa.nums
set_option linter.unusedVariables false

/-- of the numbers from 3 on, below 3 + K, that pass and have a plan, t is the first one with the fewest changes -/
def FB (p : Int → Bool) (f : Int → Option (List Int)) (K : Nat) (t : Int) (l : List Int) : Prop :=
  3 ≤ t ∧ t < 3 + (K : Int) ∧ p t = true ∧ f t = some l ∧ ∀ u m, 3 ≤ u → u < 3 + (K : Int) → p u = true → f u = some m → chg l ≤ chg m ∧ (u < t → chg l < chg m)
theorem best_stk (p : Int → Bool) (f : Int → Option (List Int)) (hord : ∀ t u l m, 3 ≤ t → t < u → u ≤ 60 → f t = some l → f u = some m → cmpL m l = 1) : ∀ K : Nat, K ≤ 58 →
    (bestL ((stk p K).filterMap f) = none ∧ ∀ u, 3 ≤ u → u < 3 + (K : Int) → p u = true → f u = none) ∨ ∃ t l, bestL ((stk p K).filterMap f) = some l ∧ FB p f K t l
  | 0, _ => .inl ⟨rfl, fun u h1 h2 => absurd h2 (by omega)⟩
  | K + 1, hK => by
    have ih := best_stk p f hord K (by omega)
    cases hp : p (3 + (K : Int)) with
    | false =>
      rw [stk_no hp]
      rcases ih with ⟨h1, h2⟩ | ⟨t, l, h1, a, b, c, d, e⟩
      · refine .inl ⟨h1, fun u u1 u2 u3 => ?_⟩
        by_cases q : u = 3 + (K : Int)
        · subst q; rw [hp] at u3; cases u3
        · exact h2 u u1 (by omega) u3
      · refine .inr ⟨t, l, h1, a, by omega, c, d, fun u m u1 u2 u3 u4 => ?_⟩
        by_cases q : u = 3 + (K : Int)
        · subst q; rw [hp] at u3; cases u3
        · exact e u m u1 (by omega) u3 u4
    | true =>
      rw [stk_yes hp, List.filterMap_append]
      cases hf : f (3 + (K : Int)) with
      | none =>
        have e0 : [3 + (K : Int)].filterMap f = [] := by simp [hf]
        rw [e0, List.append_nil]
        rcases ih with ⟨h1, h2⟩ | ⟨t, l, h1, a, b, c, d, e⟩
        · refine .inl ⟨h1, fun u u1 u2 u3 => ?_⟩
          by_cases q : u = 3 + (K : Int)
          · subst q; exact hf
          · exact h2 u u1 (by omega) u3
        · refine .inr ⟨t, l, h1, a, by omega, c, d, fun u m u1 u2 u3 u4 => ?_⟩
          by_cases q : u = 3 + (K : Int)
          · subst q; rw [hf] at u4; cases u4
          · exact e u m u1 (by omega) u3 u4
      | some q0 =>
        have e0 : [3 + (K : Int)].filterMap f = [q0] := by simp [hf]
        rw [e0]
        right
        rcases ih with ⟨h1, h2⟩ | ⟨t, l, h1, a, b, c, d, e⟩
        · rw [bestL_none h1, List.nil_append]
          refine ⟨3 + (K : Int), q0, rfl, by omega, by omega, hp, hf, fun u m u1 u2 u3 u4 => ?_⟩
          by_cases q : u = 3 + (K : Int)
          · subst q
            rw [hf] at u4
            obtain rfl := Option.some.inj u4
            exact ⟨Int.le_refl _, fun h => absurd h (by omega)⟩
          · have := h2 u u1 (by omega) u3
            rw [this] at u4; cases u4
        · rw [bestL_snoc h1]
          rcases Int.lt_trichotomy (chg q0) (chg l) with h | h | h
          · have hlt : cmpP q0 l < 0 := by
              have : ordI (chg q0) (chg l) ≠ 0 := by rw [ordI_lt h]; decide
              rw [cmpP_ne this, ordI_lt h]; decide
            rw [btr_yes hlt]
            refine ⟨3 + (K : Int), q0, rfl, by omega, by omega, hp, hf, fun u m u1 u2 u3 u4 => ?_⟩
            by_cases q : u = 3 + (K : Int)
            · subst q
              rw [hf] at u4
              obtain rfl := Option.some.inj u4
              exact ⟨Int.le_refl _, fun h => absurd h (by omega)⟩
            · have := (e u m u1 (by omega) u3 u4).1
              exact ⟨by omega, fun _ => by omega⟩
          · have hnl : ¬ cmpP q0 l < 0 := by
              have h0 : ordI (chg q0) (chg l) = 0 := by rw [h]; exact ordI_eq _
              rw [cmpP_eq h0, hord t (3 + (K : Int)) l q0 a (by omega) (by omega) d hf]; decide
            rw [btr_no hnl]
            refine ⟨t, l, rfl, a, by omega, c, d, fun u m u1 u2 u3 u4 => ?_⟩
            by_cases q : u = 3 + (K : Int)
            · subst q
              rw [hf] at u4
              obtain rfl := Option.some.inj u4
              exact ⟨by omega, fun h => absurd h (by omega)⟩
            · exact e u m u1 (by omega) u3 u4
          · have hnl : ¬ cmpP q0 l < 0 := by
              have : ordI (chg q0) (chg l) ≠ 0 := by rw [ordI_gt h]; decide
              rw [cmpP_ne this, ordI_gt h]; decide
            rw [btr_no hnl]
            refine ⟨t, l, rfl, a, by omega, c, d, fun u m u1 u2 u3 u4 => ?_⟩
            by_cases q : u = 3 + (K : Int)
            · subst q
              rw [hf] at u4
              obtain rfl := Option.some.inj u4
              exact ⟨by omega, fun h => absurd h (by omega)⟩
            · exact e u m u1 (by omega) u3 u4
theorem planB_head {r : Nat} {s : Int} {l : List Int} (h : PlanB r s l) : ∃ m, l = s :: m := by
  cases l with
  | nil => have := h.1; simp at this
  | cons a m => have := h.2.1; simp at this; subst this; exact ⟨m, rfl⟩
theorem chg_planB {r : Nat} {s : Int} {l : List Int} (h : PlanB r s l) (hr : r ≤ 11) : 0 ≤ chg l ∧ chg l ≤ 627 := by
  have := chs_bd (X := fun j => l.getD j 0) (l := 3) (h := 60) (n := l.length - 1) (fun k hk => h.2.2 k (by have := h.1; omega))
  unfold chg
  have h1 := h.1
  refine ⟨this.1, Int.le_trans this.2 ?_⟩
  have : ((l.length - 1 : Nat) : Int) ≤ 11 := by omega
  omega
theorem pl_succ' (X : Nat → Int) (lo hi : Int) (r i : Nat) (s : Int) : pl X lo hi (r + 1) i s = bestL ((stk (fun t => nearP s t && goodB (X (i + 1)) lo hi t) 58).filterMap (fun t => (pl X lo hi r (i + 1) t).map (s :: ·))) := by
  rw [pl_succ]
  unfold plans
  rw [List.map_filterMap]
theorem cons_ord {X : Nat → Int} {lo hi : Int} {r i : Nat} {s : Int} : ∀ t u l m, 3 ≤ t → t < u → u ≤ 60 → (pl X lo hi r i t).map (s :: ·) = some l → (pl X lo hi r i u).map (s :: ·) = some m → cmpL m l = 1 := fun t u l m h1 h2 h3 hl hm => by
  rw [Option.map_eq_some_iff] at hl hm
  obtain ⟨a, ha, rfl⟩ := hl
  obtain ⟨b, hb, rfl⟩ := hm
  obtain ⟨a', rfl⟩ := planB_head (pl_bd r h1 (by omega) ha)
  obtain ⟨b', rfl⟩ := planB_head (pl_bd r (by omega) h3 hb)
  rw [cmpL_eq (ordI_eq s), cmpL_ne (by rw [ordI_gt h2]; decide), ordI_gt h2]
theorem top_ord {X : Nat → Int} {lo hi : Int} {r i : Nat} : ∀ t u l m, 3 ≤ t → t < u → u ≤ 60 → pl X lo hi r i t = some l → pl X lo hi r i u = some m → cmpL m l = 1 := fun t u l m h1 h2 h3 ha hb => by
  obtain ⟨a', rfl⟩ := planB_head (pl_bd r h1 (by omega) ha)
  obtain ⟨b', rfl⟩ := planB_head (pl_bd r (by omega) h3 hb)
  rw [cmpL_ne (by rw [ordI_gt h2]; decide), ordI_gt h2]
/-- t stakes with plan m are the first best ones behind s -/
def Nx (X : Nat → Int) (lo hi : Int) (r i : Nat) (s : Int) (l : List Int) (t : Int) (m : List Int) : Prop :=
  l = s :: m ∧ 3 ≤ t ∧ t ≤ 60 ∧ nearP s t = true ∧ goodB (X (i + 1)) lo hi t = true ∧ pl X lo hi r (i + 1) t = some m ∧ chg l = dst s t + chg m ∧
    ∀ u q, 3 ≤ u → u ≤ 60 → nearP s u = true → goodB (X (i + 1)) lo hi u = true → pl X lo hi r (i + 1) u = some q → chg l ≤ dst s u + chg q ∧ (u < t → chg l < dst s u + chg q)
theorem chg_head {r : Nat} {s t : Int} {m : List Int} (h : PlanB r t m) : chg (s :: m) = dst s t + chg m := by
  obtain ⟨m', rfl⟩ := planB_head h
  exact chg_cons s t m'
theorem pl_step {X : Nat → Int} {lo hi : Int} {r i : Nat} {s : Int} :
    (pl X lo hi (r + 1) i s = none ∧ ∀ u, 3 ≤ u → u ≤ 60 → nearP s u = true → goodB (X (i + 1)) lo hi u = true → pl X lo hi r (i + 1) u = none) ∨ ∃ l t m, pl X lo hi (r + 1) i s = some l ∧ Nx X lo hi r i s l t m := by
  rw [pl_succ']
  rcases best_stk (fun t => nearP s t && goodB (X (i + 1)) lo hi t) (fun t => (pl X lo hi r (i + 1) t).map (s :: ·)) cons_ord 58 (Nat.le_refl _) with ⟨h1, h2⟩ | ⟨t, l, h1, a, b, c, d, e⟩
  · refine .inl ⟨h1, fun u u1 u2 u3 u4 => ?_⟩
    have := h2 u u1 (by omega) (by simp [u3, u4])
    simpa using this
  · obtain ⟨m, hm, hl⟩ := Option.map_eq_some_iff.1 d
    subst hl
    rw [Bool.and_eq_true] at c
    refine .inr ⟨s :: m, t, m, h1, rfl, a, by omega, c.1, c.2, hm, chg_head (pl_bd r a (by omega) hm), fun u q u1 u2 u3 u4 u5 => ?_⟩
    have := e u (s :: q) u1 (by omega) (by simp [u3, u4]) (by simp [u5])
    rw [chg_head (s := s) (pl_bd r u1 u2 u5)] at this
    exact this
/-- the least sum of changes from a place upwards, -1 if there is no plan -/
def cst (X : Nat → Int) (lo hi : Int) (r i : Nat) (s : Int) : Int := if 3 ≤ s ∧ goodB (X i) lo hi s = true then (match pl X lo hi r i s with | some l => chg l | none => -1) else -1
theorem cst_some {X : Nat → Int} {lo hi : Int} {r i : Nat} {s : Int} {l : List Int} (h3 : 3 ≤ s) (hg : goodB (X i) lo hi s = true) (h : pl X lo hi r i s = some l) : cst X lo hi r i s = chg l := by unfold cst; rw [if_pos ⟨h3, hg⟩, h]
theorem cst_none {X : Nat → Int} {lo hi : Int} {r i : Nat} {s : Int} (h : pl X lo hi r i s = none) : cst X lo hi r i s = -1 := by unfold cst; rw [h]; split <;> rfl
theorem cst_low {X : Nat → Int} {lo hi : Int} {r i : Nat} {s : Int} (h : ¬ 3 ≤ s) : cst X lo hi r i s = -1 := by unfold cst; rw [if_neg (fun k => h k.1)]
theorem cst_bad {X : Nat → Int} {lo hi : Int} {r i : Nat} {s : Int} (h : goodB (X i) lo hi s = false) : cst X lo hi r i s = -1 := by unfold cst; rw [if_neg (fun k => by rw [h] at k; cases k.2)]
theorem cst_zero {X : Nat → Int} {lo hi : Int} {i : Nat} {s : Int} (h3 : 3 ≤ s) (hg : goodB (X i) lo hi s = true) : cst X lo hi 0 i s = 0 := by rw [cst_some h3 hg (pl_zero X lo hi i s)]; rfl
theorem cst_cases {X : Nat → Int} {lo hi : Int} {r i : Nat} {s : Int} (hr : r ≤ 11) (h60 : s ≤ 60) : cst X lo hi r i s = -1 ∨ ∃ l, 3 ≤ s ∧ goodB (X i) lo hi s = true ∧ pl X lo hi r i s = some l ∧ cst X lo hi r i s = chg l ∧ 0 ≤ chg l ∧ chg l ≤ 627 := by
  by_cases h3 : 3 ≤ s
  · cases hg : goodB (X i) lo hi s with
    | false => exact .inl (cst_bad hg)
    | true =>
      cases h : pl X lo hi r i s with
      | none => exact .inl (cst_none h)
      | some l =>
        have := chg_planB (pl_bd r h3 h60 h) hr
        exact .inr ⟨l, h3, rfl, rfl, cst_some h3 hg h, this.1, this.2⟩
  · exact .inl (cst_low h3)
theorem cst_bd {X : Nat → Int} {lo hi : Int} {r i : Nat} {s : Int} (hr : r ≤ 11) (h60 : s ≤ 60) : -1 ≤ cst X lo hi r i s ∧ cst X lo hi r i s ≤ 627 := by
  rcases cst_cases (X := X) (lo := lo) (hi := hi) (i := i) hr h60 with h | ⟨l, _, _, _, e, h1, h2⟩ <;> omega
/-- the least sum over some numbers of stakes above -/
def rn (f : Int → Int) (s m0 : Int) : Nat → Int
  | 0 => -1
  | k + 1 => if 0 ≤ f (m0 + (k : Int)) ∧ (rn f s m0 k < 0 ∨ f (m0 + (k : Int)) + dst s (m0 + (k : Int)) < rn f s m0 k) then f (m0 + (k : Int)) + dst s (m0 + (k : Int)) else rn f s m0 k
theorem rn_yes {f : Int → Int} {s m0 : Int} {k : Nat} (h : 0 ≤ f (m0 + (k : Int)) ∧ (rn f s m0 k < 0 ∨ f (m0 + (k : Int)) + dst s (m0 + (k : Int)) < rn f s m0 k)) : rn f s m0 (k + 1) = f (m0 + (k : Int)) + dst s (m0 + (k : Int)) := if_pos h
theorem rn_no {f : Int → Int} {s m0 : Int} {k : Nat} (h : ¬ (0 ≤ f (m0 + (k : Int)) ∧ (rn f s m0 k < 0 ∨ f (m0 + (k : Int)) + dst s (m0 + (k : Int)) < rn f s m0 k))) : rn f s m0 (k + 1) = rn f s m0 k := if_neg h
theorem dst_nn (a b : Int) : 0 ≤ dst a b := by unfold dst; split <;> omega
theorem rn_spec {f : Int → Int} {s m0 : Int} : ∀ K : Nat, (rn f s m0 K = -1 ∧ ∀ j : Nat, j < K → f (m0 + (j : Int)) < 0) ∨ (0 ≤ rn f s m0 K ∧ (∃ j : Nat, j < K ∧ 0 ≤ f (m0 + (j : Int)) ∧ rn f s m0 K = f (m0 + (j : Int)) + dst s (m0 + (j : Int))) ∧ ∀ j : Nat, j < K → 0 ≤ f (m0 + (j : Int)) → rn f s m0 K ≤ f (m0 + (j : Int)) + dst s (m0 + (j : Int)))
  | 0 => .inl ⟨rfl, fun j hj => absurd hj (by omega)⟩
  | K + 1 => by
    have ih := rn_spec (f := f) (s := s) (m0 := m0) K
    have hd := dst_nn s (m0 + (K : Int))
    by_cases h : 0 ≤ f (m0 + (K : Int)) ∧ (rn f s m0 K < 0 ∨ f (m0 + (K : Int)) + dst s (m0 + (K : Int)) < rn f s m0 K)
    · rw [rn_yes h]
      refine .inr ⟨by omega, ⟨K, by omega, h.1, rfl⟩, fun j hj h0 => ?_⟩
      by_cases e : j = K
      · subst e; exact Int.le_refl _
      · rcases ih with ⟨_, h2⟩ | ⟨h1, _, h3⟩
        · have := h2 j (by omega); omega
        · have := h3 j (by omega) h0
          rcases h.2 with q | q <;> omega
    · rw [rn_no h]
      rcases ih with ⟨h1, h2⟩ | ⟨h1, ⟨j0, a, b, c⟩, h3⟩
      · refine .inl ⟨h1, fun j hj => ?_⟩
        by_cases e : j = K
        · subst e
          apply Int.not_le.1
          intro q
          exact h ⟨q, .inl (by omega)⟩
        · exact h2 j (by omega)
      · refine .inr ⟨h1, ⟨j0, by omega, b, c⟩, fun j hj h0 => ?_⟩
        by_cases e : j = K
        · subst e
          apply Int.not_lt.1
          intro q
          exact h ⟨h0, .inr q⟩
        · exact h3 j (by omega) h0
theorem near_iff {s t : Int} : nearP s t = true ↔ s - 6 ≤ t ∧ t ≤ s + 6 := by
  unfold nearP dst
  rw [decide_eq_true_eq]
  split <;> constructor <;> intro h <;> omega
theorem cst_rn {X : Nat → Int} {lo hi : Int} {r i : Nat} {s : Int} (hr : r ≤ 11) (h3 : 3 ≤ s) (h60 : s ≤ 60) (hg : goodB (X i) lo hi s = true) {m0 : Int} {K : Nat} (hm : m0 = mxI 0 (s - 6)) (hK : m0 + (K : Int) = mnI 60 (s + 6) + 1) :
    rn (cst X lo hi r (i + 1)) s m0 K = cst X lo hi (r + 1) i s := by
  have hx : mxI 0 (s - 6) = if s - 6 < 0 then 0 else s - 6 := rfl
  have hy : mnI 60 (s + 6) = if 60 < s + 6 then 60 else s + 6 := rfl
  have hwin : ∀ t : Int, 3 ≤ t → t ≤ 60 → nearP s t = true → ∃ j : Nat, j < K ∧ m0 + (j : Int) = t := fun t t1 t2 t3 => by
    have := near_iff.1 t3
    refine ⟨(t - m0).toNat, ?_, ?_⟩
    · rw [hy] at hK; rw [hx] at hm; split at hK <;> split at hm <;> omega
    · rw [hx] at hm; split at hm <;> omega
  have hin : ∀ j : Nat, j < K → nearP s (m0 + (j : Int)) = true ∧ m0 + (j : Int) ≤ 60 := fun j hj => by
    rw [near_iff]
    rw [hy] at hK; rw [hx] at hm; split at hK <;> split at hm <;> omega
  rcases pl_step (X := X) (lo := lo) (hi := hi) (r := r) (i := i) (s := s) with ⟨h1, h2⟩ | ⟨l, t, m, h1, e1, t3, t60, tn, tg, tp, tc, tmin⟩
  · rw [cst_none h1]
    rcases rn_spec (f := cst X lo hi r (i + 1)) (s := s) (m0 := m0) K with ⟨q, _⟩ | ⟨_, ⟨j, a, b, _⟩, _⟩
    · exact q
    · obtain ⟨n1, n2⟩ := hin j a
      rcases cst_cases (X := X) (lo := lo) (hi := hi) (i := i + 1) hr n2 with q | ⟨q, q1, q2, q3, _⟩
      · rw [q] at b; omega
      · rw [h2 _ q1 n2 n1 q2] at q3; cases q3
  · rw [cst_some h3 hg h1]
    obtain ⟨jt, jt1, jt2⟩ := hwin t t3 t60 tn
    have ct := cst_some (lo := lo) (hi := hi) t3 tg tp
    have cb := (chg_planB (pl_bd r t3 t60 tp) hr).1
    rcases rn_spec (f := cst X lo hi r (i + 1)) (s := s) (m0 := m0) K with ⟨_, q2⟩ | ⟨q0, ⟨j, a, b, c⟩, q3⟩
    · have := q2 jt jt1
      rw [jt2, ct] at this
      omega
    · have u1 := q3 jt jt1 (by rw [jt2, ct]; exact cb)
      rw [jt2, ct] at u1
      obtain ⟨n1, n2⟩ := hin j a
      rcases cst_cases (X := X) (lo := lo) (hi := hi) (i := i + 1) hr n2 with q | ⟨m', q1, q2, q4, q5, _⟩
      · rw [q] at b; omega
      · have := (tmin _ m' q1 n2 n1 q2 q4).1
        rw [c, q5] at u1 ⊢
        omega
/-- the first number with the least sum -/
def tb (f : Int → Int) : Nat → Int
  | 0 => -1
  | k + 1 => if 0 ≤ f (k : Int) ∧ (tb f k < 0 ∨ f (k : Int) < f (tb f k)) then (k : Int) else tb f k
theorem tb_yes {f : Int → Int} {k : Nat} (h : 0 ≤ f (k : Int) ∧ (tb f k < 0 ∨ f (k : Int) < f (tb f k))) : tb f (k + 1) = k := if_pos h
theorem tb_no {f : Int → Int} {k : Nat} (h : ¬ (0 ≤ f (k : Int) ∧ (tb f k < 0 ∨ f (k : Int) < f (tb f k)))) : tb f (k + 1) = tb f k := if_neg h
theorem tb_spec {f : Int → Int} : ∀ K : Nat, (tb f K = -1 ∧ ∀ j : Nat, j < K → f (j : Int) < 0) ∨ (0 ≤ tb f K ∧ tb f K < K ∧ 0 ≤ f (tb f K) ∧ ∀ j : Nat, j < K → 0 ≤ f (j : Int) → f (tb f K) ≤ f (j : Int) ∧ ((j : Int) < tb f K → f (tb f K) < f (j : Int)))
  | 0 => .inl ⟨rfl, fun j hj => absurd hj (by omega)⟩
  | K + 1 => by
    have ih := tb_spec (f := f) K
    by_cases h : 0 ≤ f (K : Int) ∧ (tb f K < 0 ∨ f (K : Int) < f (tb f K))
    · rw [tb_yes h]
      refine .inr ⟨by omega, by omega, h.1, fun j hj h0 => ?_⟩
      by_cases e : j = K
      · subst e; exact ⟨Int.le_refl _, fun q => absurd q (by omega)⟩
      · rcases ih with ⟨_, h2⟩ | ⟨h1, _, _, h3⟩
        · have := h2 j (by omega); omega
        · have := h3 j (by omega) h0
          rcases h.2 with q | q
          · omega
          · exact ⟨by omega, fun _ => by omega⟩
    · rw [tb_no h]
      rcases ih with ⟨h1, h2⟩ | ⟨h1, h2, h3, h4⟩
      · refine .inl ⟨h1, fun j hj => ?_⟩
        by_cases e : j = K
        · subst e
          apply Int.not_le.1
          intro q
          exact h ⟨q, .inl (by omega)⟩
        · exact h2 j (by omega)
      · refine .inr ⟨h1, by omega, h3, fun j hj h0 => ?_⟩
        by_cases e : j = K
        · subst e
          refine ⟨?_, fun q => absurd q (by omega)⟩
          apply Int.not_lt.1
          intro q
          exact h ⟨h0, .inr q⟩
        · exact h4 j (by omega) h0
theorem top_step {n : Nat} {X : Nat → Int} {lo hi : Int} (hn : n ≤ 12) :
    (topPlan n X lo hi = none ∧ tb (cst X lo hi (n - 1) 0) 61 = -1) ∨ ∃ l t, topPlan n X lo hi = some l ∧ tb (cst X lo hi (n - 1) 0) 61 = t ∧ 3 ≤ t ∧ t ≤ 60 ∧ goodB (X 0) lo hi t = true ∧ pl X lo hi (n - 1) 0 t = some l := by
  have hb := best_stk (fun t => (fun _ => true) t && goodB (X 0) lo hi t) (pl X lo hi (n - 1) 0) top_ord 58 (Nat.le_refl _)
  have ht : topPlan n X lo hi = bestL ((stk (fun t => (fun _ => true) t && goodB (X 0) lo hi t) 58).filterMap (pl X lo hi (n - 1) 0)) := rfl
  rcases hb with ⟨h1, h2⟩ | ⟨t, l, h1, a, b, c, d, e⟩
  · refine .inl ⟨by rw [ht]; exact h1, ?_⟩
    rcases tb_spec (f := cst X lo hi (n - 1) 0) 61 with ⟨q, _⟩ | ⟨q0, q1, q2, _⟩
    · exact q
    · rcases cst_cases (X := X) (lo := lo) (hi := hi) (r := n - 1) (i := 0) (s := tb (cst X lo hi (n - 1) 0) 61) (by omega) (by omega) with q | ⟨m, g1, g2, g3, _⟩
      · rw [q] at q2; omega
      · rw [h2 _ g1 (by omega) (by simp [g2])] at g3; cases g3
  · have hg : goodB (X 0) lo hi t = true := by simpa using c
    refine .inr ⟨l, t, by rw [ht]; exact h1, ?_, a, by omega, hg, d⟩
    have ct := cst_some (lo := lo) (hi := hi) a hg d
    have cb := (chg_planB (pl_bd (n - 1) a (by omega) d) (by omega)).1
    obtain ⟨t', rfl⟩ : ∃ t' : Nat, t = t' := ⟨t.toNat, by omega⟩
    rcases tb_spec (f := cst X lo hi (n - 1) 0) 61 with ⟨_, q⟩ | ⟨q0, q1, q2, q3⟩
    · have := q t' (by omega); rw [ct] at this; omega
    · have k1 := q3 t' (by omega) (by rw [ct]; exact cb)
      rcases cst_cases (X := X) (lo := lo) (hi := hi) (r := n - 1) (i := 0) (s := tb (cst X lo hi (n - 1) 0) 61) (by omega) (by omega) with q | ⟨m, g1, g2, g3, g4, _⟩
      · rw [q] at q2; omega
      · have k2 := e _ m g1 (by omega) (by simp [g2]) g3
        rw [g4, ct] at k1
        rcases Int.lt_trichotomy (tb (cst X lo hi (n - 1) 0) 61) (t' : Int) with c1 | c1 | c1
        · have := k2.2 c1; omega
        · exact c1
        · have := k1.2 c1; omega
end Go.Proofs.Ytldeeilgmogjjaa.shp
