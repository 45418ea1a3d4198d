/-
  What the law on rhythms asks of the pairs of answers: of a rhythm, of beds a year later, of a steady need.
-/
import Derived.Test.YtcpaenmhnoagdacPackB
import Derived.Test.YtcpaenmhnoagdacAfterI
import Derived.Test.YtcpaenmhnoagdacSteadyW
import Derived.Test.YtcpaenmhnoagdacRhythm
import Derived.Test.YtcpaenmhnoagdacSame
namespace Go.Proofs.Ytcpaenmhnoagdac.rod
open Go.ChangeShapes Go.WideShapes Go.ChangeAt Go.RowKit Go.Proofs.Ytcpaenmhnoagdac.mem Go.Proofs.Ytcpaenmhnoagdac.nums
set_option linter.unusedVariables false

-- no other rhythm is better
theorem le_trans_mul {x y z a b c : Int} (hb : 1 ≤ b) (hc : 0 ≤ c) (ha : 0 ≤ a) (h1 : x * b ≤ y * a) (h2 : y * c ≤ z * b) : x * c ≤ z * a := by
  have h3 : x * b * c ≤ y * a * c := Int.mul_le_mul_of_nonneg_right h1 hc
  have h4 : y * c * a ≤ z * b * a := Int.mul_le_mul_of_nonneg_right h2 ha
  have h5 : x * c * b ≤ z * a * b := by
    have e1 : x * b * c = x * c * b := Int.mul_right_comm _ _ _
    have e2 : y * a * c = y * c * a := Int.mul_right_comm _ _ _
    have e3 : z * b * a = z * a * b := Int.mul_right_comm _ _ _
    omega
  exact Int.le_of_mul_le_mul_right h5 (by omega)
theorem br_best {Y : Nat → Int} : ∀ n j : Nat, j < n → Y j * (br Y n : Int) ≤ Y (br Y n - 1) * ((j : Int) + 1)
  | 0, j, h => absurd h (by omega)
  | n + 1, j, h => by
    have hb := br_bd Y n
    by_cases hn : n = 0
    · subst hn
      obtain rfl : j = 0 := by omega
      rw [br_one]
      simp
    · by_cases hc : Y (br Y n - 1) * (n + 1 : Int) < Y n * (br Y n : Int)
      · rw [br_yes (by omega) hc]
        by_cases e : j = n
        · subst e; simp
        · have ih := br_best (Y := Y) n j (by omega)
          have := le_trans_mul (x := Y j) (y := Y (br Y n - 1)) (z := Y n) (a := (j : Int) + 1) (b := (br Y n : Int)) (c := (n : Int) + 1) (by omega) (by omega) (by omega) ih (by omega)
          simpa using this
      · rw [br_no hc]
        by_cases e : j = n
        · subst e; omega
        · exact br_best n j (by omega)
theorem gcd_split {x y : Int} (hy : 1 ≤ y) : x = x / gcdI x y * gcdI x y ∧ y = y / gcdI x y * gcdI x y :=
  ⟨(Int.ediv_mul_cancel (by unfold gcdI; exact Int.gcd_dvd_left ..)).symm, (Int.ediv_mul_cancel (by unfold gcdI; exact Int.gcd_dvd_right ..)).symm⟩
theorem low_best {y p q k : Int} (hq : 1 ≤ q) (h : y * q ≤ p * k) : y * (q / gcdI p q) ≤ p / gcdI p q * k := by
  obtain ⟨e1, e2⟩ := gcd_split (x := p) hq
  have hg := gcdI_pos (x := p) hq
  generalize gcdI p q = g at *
  generalize p / g = P at *
  generalize q / g = Q at *
  subst e1 e2
  have h1 : y * Q * g ≤ P * k * g := by
    have a1 : y * (Q * g) = y * Q * g := (Int.mul_assoc _ _ _).symm
    have a2 : P * g * k = P * k * g := Int.mul_right_comm _ _ _
    omega
  exact Int.le_of_mul_le_mul_right h1 (by omega)
/-- the two answers on a rhythm -/
theorem rhythm_any (A : Option Addr) (m c : Nat) (Y : Nat → Int) (a : Int) (hm : m ≤ 6) : ∃ k p q code : Int,
    (code ≠ 0 ∨ code = 0 ∧ bedB m Y a = true ∧ 0 ≤ p ∧ p ≤ 10000 ∧ 0 ≤ q ∧ q ≤ 5 ∧ ∀ j, j < m → Y j * q ≤ p * ((j : Int) + 1)) ∧
    (∀ W, Sl W A m 1 Y → Calls Try.prog 15 #[.agg #[.slice A m c, .int .i64 a]] W fun e w' => e = .returned (.tuple #[.int .i64 k, .agg #[.int .i64 p, .int .i64 q], .int .i64 code]) ∧ Below W.heap.size W w') ∧
    (∀ W, Sl W A m 1 Y → Calls Try.prog 16 #[.agg #[.slice A m c, .int .i64 a]] W fun e w' => e = .returned (.tuple #[.int .i64 k, .agg #[.int .i64 p, .int .i64 q], .int .i64 code]) ∧ Below W.heap.size W w') := by
  have hmm : m ≤ maxLen := by unfold maxLen; omega
  cases hb : bedB m Y a
  · exact ⟨0, 0, 0, 1, .inl (by decide), fun W hW => rhythm_i_no A m c Y a W hmm hb hW, fun W hW => rhythm_s_no A m c Y a W hmm hb hW⟩
  · obtain ⟨⟨m1, m5⟩, _, hy⟩ := bedB_of hb
    have h1 := br_bd Y m
    have y1 := hy (br Y m - 1) (by omega)
    have hg := gcdI_pos (x := Y (br Y m - 1)) (y := (br Y m : Int)) (by omega)
    refine ⟨_, _, _, 0, .inr ⟨rfl, rfl, Int.ediv_nonneg y1.1 (by omega), Int.le_trans (Int.ediv_le_self _ y1.1) y1.2, Int.ediv_nonneg (by omega) (by omega), Int.le_trans (Int.ediv_le_self _ (by omega)) (by omega), fun j hj => low_best (by omega) (br_best m j hj)⟩, fun W hW => rhythm_i A m c Y a W hmm hb hW, fun W hW => rhythm_s A m c Y a W hmm hb hW⟩

-- beds a year later
theorem eqL_refl (Y : Nat → Int) : ∀ n, eqL Y Y n = true
  | 0 => rfl
  | n + 1 => by simp [eqL, eqL_refl Y n]
theorem bedSame_refl {m : Nat} {Y : Nat → Int} {g : Int} : bedSame m m Y Y g g = true := by rw [bedSame_yes, sameL_eq]; exact eqL_refl Y m
theorem sameU_refl {M : Nat → Nat} {Y : Nat → Nat → Int} {G : Nat → Int} : ∀ n, sameU M M Y Y G G n = true
  | 0 => rfl
  | n + 1 => by simp [sameU, sameU_refl n, bedSame_refl]
theorem bedsSame_refl {n : Nat} {M : Nat → Nat} {Y : Nat → Nat → Int} {G : Nat → Int} : bedsSame n n M M Y Y G G = true := by rw [bedsSame_eq]; exact sameU_refl n
/-- the ages of beds a year later -/
def Aged (n : Nat) (M : Nat → Nat) (G H : Nat → Int) (k : Nat) (C : Nat → Int) : Prop :=
  ∀ j : Nat, j < n → (hasC C j k = true → H j = 1) ∧ (hasC C j k = false → G j ≤ H j)
theorem aged_later {n : Nat} {M : Nat → Nat} {Y : Nat → Nat → Int} {G : Nat → Int} {k : Nat} {C : Nat → Int} (h : bedsB n M Y G = true) : Aged n M G (later M G fun j => hasC C j k) k C := fun j hj => by
  obtain ⟨_, ⟨a0, a1⟩, _⟩ := bedB_of ((bedsB_of h).2 j hj)
  show (_ → (if hasC C j k then (1 : Int) else if G j + 1 ≤ M j then G j + 1 else M j) = 1) ∧ (_ → G j ≤ (if hasC C j k then (1 : Int) else if G j + 1 ≤ M j then G j + 1 else M j))
  refine ⟨fun e => by rw [if_pos e], fun e => ?_⟩
  rw [if_neg (by rw [e]; decide)]
  split <;> omega
/-- the two answers on beds a year later -/
theorem after_any (A : Option Addr) (n c : Nat) (M : Nat → Nat) (Y : Nat → Nat → Int) (G : Nat → Int) (A2 : Option Addr) (k c2 : Nat) (C : Nat → Int) (hn : n ≤ 9) (hM : ∀ j, j < n → M j ≤ 6) (hk : k ≤ 15) : ∃ (l : Nat) (H : Nat → Int) (code : Int), l ≤ 9 ∧ (l = 0 ∨ l = n) ∧
    (code ≠ 0 ∨ code = 0 ∧ l = n ∧ Aged n M G H k C) ∧
    (∀ W, Beds W A n M Y G → Sl W A2 k 1 C → Calls Try.prog 18 #[.slice A n c, .slice A2 k c2] W (BedsCode W l M Y H code)) ∧
    (∀ W, Beds W A n M Y G → Sl W A2 k 1 C → Calls Try.prog 19 #[.slice A n c, .slice A2 k c2] W (BedsCode W l M Y H code)) := by
  have hnn : n ≤ maxLen := by unfold maxLen; omega
  have hkk : k ≤ maxLen := by unfold maxLen; omega
  have hMM : ∀ j, j < n → M j ≤ maxLen := fun j hj => by have := hM j hj; unfold maxLen; omega
  cases hb : bedsB n M Y G
  · exact ⟨0, G, 1, by omega, .inl rfl, .inl (by decide), fun W h1 h2 => afterYear_i_no A n c M Y G A2 k c2 C 1 W hnn hMM hkk h1 h2 (.inl ⟨hb, rfl⟩), fun W h1 h2 => afterYear_s_no A n c M Y G A2 k c2 C 1 W hnn hMM hkk h1 h2 (.inl ⟨hb, rfl⟩)⟩
  · cases hr : risL 0 ((n : Int) - 1) C k
    · exact ⟨0, G, 2, by omega, .inl rfl, .inl (by decide), fun W h1 h2 => afterYear_i_no A n c M Y G A2 k c2 C 2 W hnn hMM hkk h1 h2 (.inr ⟨hb, hr, rfl⟩), fun W h1 h2 => afterYear_s_no A n c M Y G A2 k c2 C 2 W hnn hMM hkk h1 h2 (.inr ⟨hb, hr, rfl⟩)⟩
    · exact ⟨n, _, 0, hn, .inr rfl, .inr ⟨rfl, rfl, aged_later hb⟩, fun W h1 h2 => afterYear_i A n c M Y G A2 k c2 C W hkk h1 h2 hb hr, fun W h1 h2 => afterYear_s A n c M Y G A2 k c2 C W hkk h1 h2 hb hr⟩

-- a steady need is met in the first year
theorem pick_some {n : Nat} {P : Nat → Bool} : ∀ {b x : Nat}, x < b → P x = true → pick n P b ≠ none
  | 0, x, h, _ => absurd h (by omega)
  | b + 1, x, h, hp => by
    unfold pick
    by_cases e : x = b
    · subst e
      cases hq : pick n P x <;> simp [hp]
      split <;> simp
    · have ih := pick_some (n := n) (P := P) (b := b) (x := x) (by omega) hp
      cases hq : pick n P b
      · exact absurd hq ih
      · simp
        split <;> simp
theorem stead_met {n : Nat} {M : Nat → Nat} {Y : Nat → Nat → Int} {G : Nat → Int} (y : Nat) (hy : ∀ b, 0 ≤ ysum M Y G b n) : ∃ b, b < 2 ^ n ∧ stead n M Y (y + 1) G ≤ ysum M Y G b n := by
  rw [stead_succ]
  rcases maxB_some (worth n M Y y G) (2 ^ n) with h | ⟨b, hb, h⟩
  · exact ⟨0, Nat.two_pow_pos n, by rw [h]; exact hy 0⟩
  · refine ⟨b, hb, ?_⟩
    rw [h]
    unfold worth
    split <;> omega
theorem cut_found {A : Option Addr} {n c : Nat} {M : Nat → Nat} {Y : Nat → Nat → Int} {G : Nat → Int} {d : Int} {b : Nat} (hv : bedsB n M Y G = true) (hd : inB d 0 100000 = true) (hb : b < 2 ^ n) (hm : d ≤ ysum M Y G b n) :
    ∃ l : List Int, l.length ≤ 9 ∧ ∀ W, Beds W A n M Y G → Calls Try.prog 26 #[.slice A n c, .int .i64 d] W (NumsCode W 2 l 0) := by
  have n8 := (bedsB_of hv).1
  have hl := cutL_len n (enough n M Y G d)
  refine ⟨cutL n (enough n M Y G d), by omega, fun W hW => ?_⟩
  have := cutFor_i A n c M Y G d W hv hd hW
  have hc : cutC n (enough n M Y G d) = 0 := by
    unfold cutC found
    have hp := pick_some (n := n) (P := enough n M Y G d) hb (decide_eq_true hm)
    cases hq : pick n (enough n M Y G d) (2 ^ n)
    · exact absurd hq hp
    · simp
  rw [hc] at this
  exact this
/-- the two answers on a steady need -/
theorem steady_any (A : Option Addr) (n c : Nat) (M : Nat → Nat) (Y : Nat → Nat → Int) (G : Nat → Int) (y : Int) (hn : n ≤ 9) (hM : ∀ j, j < n → M j ≤ 6) : ∃ v code : Int,
    (code ≠ 0 ∨ code = 0 ∧ 0 ≤ v ∧ v ≤ 100000 ∧ ∃ l : List Int, l.length ≤ 9 ∧ ∀ W, Beds W A n M Y G → Calls Try.prog 26 #[.slice A n c, .int .i64 v] W (NumsCode W 2 l 0)) ∧
    (∀ W, Beds W A n M Y G → Calls Try.prog 21 #[.slice A n c, .int .i64 y] W fun e w' => e = .returned (.tuple #[.int .i64 v, .int .i64 code]) ∧ Below W.heap.size W w') ∧
    (∀ W, Beds W A n M Y G → Calls Try.prog 22 #[.slice A n c, .int .i64 y] W fun e w' => e = .returned (.tuple #[.int .i64 v, .int .i64 code]) ∧ Below W.heap.size W w') := by
  have hnn : n ≤ maxLen := by unfold maxLen; omega
  have hMM : ∀ j, j < n → M j ≤ maxLen := fun j hj => by have := hM j hj; unfold maxLen; omega
  have key : ∀ code : Int, code ≠ 0 → SteadyNo n M Y G y code → _ := fun code hc h => (⟨0, code, .inl hc, fun W hW => need_i_no A n c M Y G y code W hnn hMM hW h, fun W hW => need_s_no A n c M Y G y code W hnn hMM hW h⟩ :
    ∃ v code : Int, (code ≠ 0 ∨ code = 0 ∧ 0 ≤ v ∧ v ≤ 100000 ∧ ∃ l : List Int, l.length ≤ 9 ∧ ∀ W, Beds W A n M Y G → Calls Try.prog 26 #[.slice A n c, .int .i64 v] W (NumsCode W 2 l 0)) ∧
    (∀ W, Beds W A n M Y G → Calls Try.prog 21 #[.slice A n c, .int .i64 y] W fun e w' => e = .returned (.tuple #[.int .i64 v, .int .i64 code]) ∧ Below W.heap.size W w') ∧
    (∀ W, Beds W A n M Y G → Calls Try.prog 22 #[.slice A n c, .int .i64 y] W fun e w' => e = .returned (.tuple #[.int .i64 v, .int .i64 code]) ∧ Below W.heap.size W w'))
  cases hb : bedsB n M Y G
  · exact key 1 (by decide) (.inl ⟨hb, rfl⟩)
  · cases hy : inB y 1 3
    · exact key 2 (by decide) (.inr (.inl ⟨hb, hy, rfl⟩))
    · by_cases h4 : 4 < n
      · exact key 5 (by decide) (.inr (.inr ⟨hb, hy, h4, rfl⟩))
      · obtain ⟨y1, y3⟩ := inB_of hy
        obtain ⟨z, hz⟩ : ∃ z : Nat, y = z + 1 := ⟨(y - 1).toNat, by omega⟩
        have hbd := stead_bd (n := n) (M := M) (Y := Y) (z + 1) G hb
        obtain ⟨b, hb2, hm⟩ := stead_met (n := n) (M := M) (Y := Y) (G := G) z (fun b => (ysum_bd (B := b) (bedsB_of hb).2 n (Nat.le_refl _)).1)
        obtain ⟨l, hl, hcut⟩ := cut_found (A := A) (c := c) hb (inB_yes hbd.1 (by omega)) hb2 hm
        exact ⟨_, 0, .inr ⟨rfl, hbd.1, by omega, l, hl, hcut⟩, fun W hW => need_i A n c M Y G z y W hb hz (by omega) (by omega) hW, fun W hW => need_s A n c M Y G z y W hb hz (by omega) (by omega) hW⟩
end Go.Proofs.Ytcpaenmhnoagdac.rod
