/-
  The rules of a shape; StakesRange and OneNumber of the program. No condition of a statement lies here.
-/
import Derived.Test.YtldeeilgmogjjaaHg
import Derived.Test.YtldeeilgmogjjaaOpen
import Derived.Test.YtldeeilgmogjjaaNums
import Derived.Test.YtldeeilgmogjjaaIn
namespace Go.Proofs.Ytldeeilgmogjjaa.shp
open Go.ChangeShapes Go.WideShapes Go.ChangeAt Go.RowKit Go.Proofs.Ytldeeilgmogjjaa.mem Go.Proofs.Ytldeeilgmogjjaa.rod Go.Proofs.Ytldeeilgmogjjaa.nums
set_option linter.unusedVariables false
set_option maxRecDepth 100000

/-- the rules of a shape -/
def rsp (X : Nat → Int) (lo hi : Int) (j : Nat) : Ru := .sp (X j) lo hi
theorem rsp_wf {X : Nat → Int} {n : Nat} {lo hi : Int} (hv : shpB n X = true) (ha : aptB lo hi = true) : ∀ j, j < n → (rsp X lo hi j).wf := fun j hj => by
  obtain ⟨_, _, h⟩ := shpB_of hv
  obtain ⟨a, b, c⟩ := aptB_of ha
  have := h j hj
  exact ⟨this.1, this.2, a, b, c⟩
theorem info_rule : (Try.prog.info? 69).map (fun i => (i.zero, i.size, i.bytes)) = some (some .nilIface, 1, 16) := by kernel_rfl
/-- the answer is a new slice of n values, and a code -/
def NewV (w : World) (E : TypeId) (n : Nat) (V : Nat → Value) (code : Int) (e : Ending) (w' : World) : Prop :=
  ∃ A c, e = .returned (.tuple #[.slice A n c, .int .i64 code]) ∧ n ≤ c ∧ c ≤ maxLen ∧ (0 < n → ∃ g, A = some ⟨g, 0, none⟩ ∧ w.heap.size ≤ g ∧ g < w'.heap.size ∧ OwnV w' g E n V) ∧ Below w.heap.size w w'
theorem slV_of_own {w : World} {A : Option Addr} {n B K : Nat} {E : TypeId} {V : Nat → Value} (h : 0 < n → ∃ g, A = some ⟨g, 0, none⟩ ∧ B ≤ g ∧ g < K ∧ OwnV w g E n V) : SlV w A n V := fun hn => by
  obtain ⟨g, e, h1, h2, ho⟩ := h hn
  exact ⟨g, 0, e, ho.lt, fun j hj => by rw [Nat.zero_add]; exact ho.cell hj⟩

set_option maxHeartbeats 1000000 in
theorem rulesOf_no (A : Option Addr) (n c : Nat) (X : Nat → Int) (lo hi code : Int) (w : World) (hn : n ≤ maxLen) (hr : Sl w A n 1 X) (hv : shpB n X = false ∧ code = 1 ∨ shpB n X = true ∧ aptB lo hi = false ∧ code = 2) :
    Calls Try.prog 20 #[.slice A n c, .int .i64 lo, .int .i64 hi] w fun e w' => e = .returned (.tuple #[.slice none 0 0, .int .i64 code]) ∧ w = w' := by
  have HR := Lib.hid hr
  clear hr
  rcases hv with ⟨hv, rfl⟩ | ⟨hv, ha, rfl⟩
  all_goals
    go_enter Try.func20, Try.ntmps20
    go_wp2_with (first | (go_at_call 15; refine (ok_i A n c X _ hn (Sl.below HR.out (K := w.heap.size) (by go_grown) (Nat.le_refl _))).mono ?_; rintro e w' ⟨rfl, rfl⟩) | (go_at_call 29; refine (apart_i _ _ _).mono ?_; rintro e w' ⟨rfl, rfl⟩))
    go_returns
    exact ⟨rfl, rfl⟩

set_option maxHeartbeats 4000000 in
set_option maxRecDepth 100000 in
theorem rulesOf_i (A : Option Addr) (n c : Nat) (X : Nat → Int) (lo hi : Int) (w : World) (hn : n ≤ maxLen) (hr : Sl w A n 1 X) (hv : shpB n X = true) (ha : aptB lo hi = true) :
    Calls Try.prog 20 #[.slice A n c, .int .i64 lo, .int .i64 hi] w (NewV w 69 n (fun j => (rsp X lo hi j).v) 0) := by
  obtain ⟨n0, n12, hX⟩ := shpB_of hv
  have HR := Lib.hid hr
  obtain ⟨b, o, rfl, hb, hI⟩ := hr (by omega)
  have HI := Lib.hid hI
  clear hr hX hI
  obtain ⟨i0, hi0, hz0, hz1, hz2⟩ := info_parts info_rule
  go_enter Try.func20, Try.ntmps20
  go_wp2_with (first | (go_at_call 15; refine (ok_i _ n c X _ hn (Sl.below HR.out (K := w.heap.size) (by go_grown) (Nat.le_refl _))).mono ?_; rintro e w' ⟨rfl, rfl⟩) | (go_at_call 29; refine (apart_i _ _ _).mono ?_; rintro e w' ⟨rfl, rfl⟩))
  go_loopw [20, 8] (fun t v wr => ∃ k : Nat, k ≤ n ∧ t = .int .i64 k ∧ Hid (wr.ownsRow w.heap.size 69 1 v k ((List.range k).map fun j => (rsp X lo hi j).v)) ∧ Below w.heap.size w wr) (fun t _ _ => n - (intOf t).toNat)
  case atStart => exact ⟨0, by omega, rfl, ⟨rfl, .inl ⟨rfl, rfl⟩⟩, by go_grown⟩
  case round =>
    obtain ⟨k, hk, rfl, hown, hbl⟩ := hrel
    have HB := Lib.hid hbl
    have hzz := hbl.size
    clear hbl
    by_cases hlt : k < n
    · have hlt' : (k : Int) < (n : Int) := by omega
      have hk0 : (0 : Int) ≤ (k : Int) := by omega
      have h0 := (HI.out.below HB.out hb) k (by omega)
      have hl1 : k + 1 ≤ maxLen := by unfold maxLen; omega
      have hl2 : (k + 1) * 16 ≤ 140737488355328 := by omega
      go_wp2_with (at_builtin; refine wpList_append_own _ rfl _ _ 43 rfl w.heap.size 69 i0 .nilIface 1 16 Try.underlying43 hi0 hz0 hz1 hz2 rfl (by decide) _ _ _ rfl (hown.out.alloc _) ⟨wr.heap.size, 0, none⟩ 1 1 [(rsp X lo hi k).v] rfl rfl ?c1 ?c2 hl1 hl2 ?c5 ?_)
      case c1 => intro j u hj; rcases j with _ | j <;> simp at hj; subst hj; unfold rsp Ru.v; go_simp
      case c2 => intro u hu; simp at hu; subst hu; rfl
      case c5 => simp <;> omega
      intro v' w1 hown1 hgrow1 _
      have g1 : Below w.heap.size w w1 := Below.grown (HB.out.alloc hzz _) hgrow1 (by simp; omega) (owns_block hown.out)
      have HO := Lib.hid (show w1.ownsRow w.heap.size 69 1 v' (k + 1) ((List.range (k + 1)).map fun j => (rsp X lo hi j).v) by rw [range_snoc]; exact hown1)
      clear hown1 hgrow1
      go_wp2
      go_roundw
      case rel => exact ⟨k + 1, by omega, by go_num, HO.out, g1⟩
      case measure => simp [intOf]; omega
    · obtain rfl : n = k := by omega
      obtain ⟨A', c', rfl, hc1, hc2, hrow⟩ := ownV_of_owns (size := 1) (V := fun j => (rsp X lo hi j).v) (by rw [Nat.mul_one]; exact hown.out)
      rw [Nat.mul_one] at hrow
      have HW := Lib.hid hrow
      clear hrow
      go_wp2
      go_ret2
      exact ⟨_, _, rfl, hc1, hc2, HW.out, HB.out⟩

/-- the first number of stakes from 3 on, below 3 + k, that passes a test -/
theorem stk_none {p : Int → Bool} : ∀ {k : Nat}, (∀ i : Nat, i < k → p (3 + (i : Int)) = false) → stk p k = []
  | 0, _ => rfl
  | k + 1, h => by rw [stk_no (h k (by omega)), stk_none (fun i hi => h i (by omega))]
theorem stk_first {p : Int → Bool} : ∀ {k j : Nat}, j < k → p (3 + (j : Int)) = true → (∀ i : Nat, i < j → p (3 + (i : Int)) = false) → 0 < (stk p k).length ∧ (stk p k).getD 0 0 = 3 + (j : Int)
  | 0, j, h, _, _ => absurd h (by omega)
  | k + 1, j, h, h1, h2 => by
    by_cases e : j = k
    · subst e
      rw [stk_yes h1, stk_none h2]
      exact ⟨by simp, rfl⟩
    · have ih := stk_first (k := k) (j := j) (by omega) h1 h2
      cases hp : p (3 + (k : Int))
      · rw [stk_no hp]; exact ih
      · rw [stk_yes hp]
        refine ⟨by simp, ?_⟩
        rw [← ih.2]
        simp only [List.getD, List.getElem?_append_left ih.1]
theorem stk_last {p : Int → Bool} : ∀ {k j : Nat}, j < k → p (3 + (j : Int)) = true → (∀ i : Nat, j < i → i < k → p (3 + (i : Int)) = false) → 0 < (stk p k).length ∧ (stk p k).getD ((stk p k).length - 1) 0 = 3 + (j : Int)
  | 0, j, h, _, _ => absurd h (by omega)
  | k + 1, j, h, h1, h2 => by
    by_cases e : j = k
    · subst e
      rw [stk_yes h1]
      refine ⟨by simp, ?_⟩
      simp [List.getD]
    · have ih := stk_last (k := k) (j := j) (by omega) h1 (fun i a b => h2 i a (by omega))
      rw [stk_no (h2 k (by omega) (by omega))]
      exact ih
/-- the least and the greatest number that pass a test, with a code -/
def Ends (p : Int → Bool) (a b code : Int) : Prop :=
  (∃ i j : Nat, i ≤ j ∧ j < 58 ∧ a = 3 + (i : Int) ∧ b = 3 + (j : Int) ∧ code = 0 ∧ p (3 + (i : Int)) = true ∧ p (3 + (j : Int)) = true ∧ (∀ m : Nat, m < i → p (3 + (m : Int)) = false) ∧ ∀ m : Nat, j < m → m < 58 → p (3 + (m : Int)) = false)
  ∨ (a = 0 ∧ b = 0 ∧ code = 3 ∧ ∀ m : Nat, m < 58 → p (3 + (m : Int)) = false)
theorem low_ex (p : Int → Bool) : ∀ k : Nat, (∀ m : Nat, m < k → p (3 + (m : Int)) = false) ∨ ∃ i : Nat, i < k ∧ p (3 + (i : Int)) = true ∧ ∀ m : Nat, m < i → p (3 + (m : Int)) = false
  | 0 => .inl fun m h => absurd h (by omega)
  | k + 1 => by
    rcases low_ex p k with h | ⟨i, a, b, c⟩
    · cases e : p (3 + (k : Int))
      · exact .inl fun m hm => by
          by_cases e2 : m = k
          · subst e2; exact e
          · exact h m (by omega)
      · exact .inr ⟨k, by omega, e, h⟩
    · exact .inr ⟨i, by omega, b, c⟩
theorem high_ex (p : Int → Bool) : ∀ k i : Nat, i < k → p (3 + (i : Int)) = true → ∃ j : Nat, i ≤ j ∧ j < k ∧ p (3 + (j : Int)) = true ∧ ∀ m : Nat, j < m → m < k → p (3 + (m : Int)) = false
  | 0, i, h, _ => absurd h (by omega)
  | k + 1, i, h, hi => by
    cases e : p (3 + (k : Int))
    · have hik : i < k := by
        by_cases e2 : i = k
        · subst e2; rw [e] at hi; cases hi
        · omega
      obtain ⟨j, a, b, c, d⟩ := high_ex p k i hik hi
      exact ⟨j, a, by omega, c, fun m m1 m2 => by
        by_cases e2 : m = k
        · subst e2; exact e
        · exact d m m1 (by omega)⟩
    · exact ⟨k, by omega, by omega, e, fun m m1 m2 => absurd m1 (by omega)⟩
theorem Ends.ex (p : Int → Bool) : ∃ a b code, Ends p a b code := by
  rcases low_ex p 58 with h | ⟨i, a, b, c⟩
  · exact ⟨0, 0, 3, .inr ⟨rfl, rfl, rfl, h⟩⟩
  · obtain ⟨j, d, e, g, k⟩ := high_ex p 58 i a b
    exact ⟨_, _, 0, .inl ⟨i, j, d, e, rfl, rfl, rfl, b, g, c, k⟩⟩

theorem okAll1 (R : Nat → Ru) (s : Int) : okAll R s 1 = (R 0).ok s := by show (true && (R 0).ok s) = _; rw [Bool.true_and]

end Go.Proofs.Ytldeeilgmogjjaa.shp
