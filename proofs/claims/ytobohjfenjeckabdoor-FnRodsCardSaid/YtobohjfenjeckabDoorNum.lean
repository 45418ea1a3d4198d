/-
  Numerals: the text of a number below 10 ^ 18, read back digit by digit, and as the library's ParseInt reads it. No memory here.
-/
import Derived.Test.YtobohjfenjeckabDoorRows
import Derived.Lib.ItoaNum
import Derived.Lib.ParseIntBCases
namespace Go.Proofs.YtobohjfenjeckabDoor.num
open Go.Lib
set_option linter.unusedVariables false

def val (a : Nat) : List UInt8 → Nat
  | [] => a
  | c :: r => val (a * 10 + (c.toNat - 48)) r
def dig (c : UInt8) : Prop := 48 ≤ c.toNat ∧ c.toNat ≤ 57
theorem val_append (l m : List UInt8) : ∀ a, val a (l ++ m) = val (val a l) m := by
  induction l with
  | nil => intro a; rfl
  | cons c r ih => intro a; exact ih _
theorem val_le (l : List UInt8) : ∀ a, a ≤ val a l := by
  induction l with
  | nil => intro a; exact Nat.le_refl _
  | cons c r ih =>
    intro a
    have h := ih (a * 10 + (c.toNat - 48))
    show a ≤ val (a * 10 + (c.toNat - 48)) r
    omega
theorem step_lt {a d p v q : Nat} (h2 : v < (a * 10 + d + 1) * p) (hd : d ≤ 9) (hq : q = p * 10) : v < (a + 1) * q := by
  subst hq
  have h3 : (a * 10 + d + 1) * p ≤ ((a + 1) * 10) * p := Nat.mul_le_mul_right _ (by omega)
  have h4 : ((a + 1) * 10) * p = (a + 1) * (p * 10) := by rw [Nat.mul_assoc, Nat.mul_comm 10 p]
  rw [← h4]
  exact Nat.lt_of_lt_of_le h2 h3
theorem val_lt (l : List UInt8) : ∀ a, (∀ c ∈ l, dig c) → val a l < (a + 1) * 10 ^ l.length := by
  induction l with
  | nil =>
    intro a h
    rw [List.length_nil, Nat.pow_zero, Nat.mul_one]
    exact Nat.lt_succ_self a
  | cons c r ih =>
    intro a h
    have h0 : dig c := h c (List.mem_cons_self ..)
    have h1 : c.toNat - 48 ≤ 9 := by
      have h9 : c.toNat ≤ 57 := h0.2
      clear h h0 ih
      omega
    rw [show val a (c :: r) = val (a * 10 + (c.toNat - 48)) r from rfl]
    have h2 := ih (a * 10 + (c.toNat - 48)) (fun d hd => h d (List.mem_cons_of_mem _ hd))
    have h3 : 10 ^ (c :: r).length = 10 ^ r.length * 10 := by rw [List.length_cons, Nat.pow_succ]
    rw [h3]
    generalize 10 ^ r.length = p at h2 ⊢
    exact step_lt h2 h1 rfl
theorem digit_nat {r : Nat} (h : r ≤ 9) : (UInt8.ofNat (48 + r)).toNat = 48 + r := by simp; omega

theorem dec_facts (k : Nat) : ∀ m, m < k → val 0 (decDigits m) = m ∧ (∀ c ∈ decDigits m, dig c) ∧ decDigits m ≠ [] := by
  induction k with
  | zero => intro m h; omega
  | succ k ih =>
    intro m h
    rw [decDigits]
    by_cases h1 : m < 10
    · rw [dif_pos h1]
      refine ⟨?_, fun c hc => ?_, by simp⟩
      · show 0 * 10 + ((UInt8.ofNat (48 + m)).toNat - 48) = m
        rw [digit_nat (by omega)]; omega
      · rw [List.mem_singleton.1 hc]
        unfold dig; rw [digit_nat (by omega)]; omega
    · rw [dif_neg h1]
      obtain ⟨e1, e2, e3⟩ := ih (m / 10) (by omega)
      refine ⟨?_, fun c hc => ?_, by simp⟩
      · rw [val_append, e1]
        show m / 10 * 10 + ((UInt8.ofNat (48 + m % 10)).toNat - 48) = m
        rw [digit_nat (by omega)]; omega
      · rcases List.mem_append.1 hc with hc | hc
        · exact e2 c hc
        · rw [List.mem_singleton.1 hc]
          unfold dig; rw [digit_nat (by omega)]; omega
theorem val_dec (m : Nat) : val 0 (decDigits m) = m := (dec_facts (m + 1) m (by omega)).1
theorem dig_dec (m : Nat) : ∀ c ∈ decDigits m, dig c := (dec_facts (m + 1) m (by omega)).2.1
theorem dec_ne (m : Nat) : decDigits m ≠ [] := (dec_facts (m + 1) m (by omega)).2.2
theorem dec_len (k : Nat) : ∀ m, m < 10 ^ (k + 1) → (decDigits m).length ≤ k + 1 := by
  induction k with
  | zero => intro m h; rw [decDigits, dif_pos (by omega)]; simp
  | succ k ih =>
    intro m h
    rw [decDigits]
    by_cases h1 : m < 10
    · rw [dif_pos h1]; simp
    · rw [dif_neg h1]
      have h2 : m / 10 < 10 ^ (k + 1) := by
        rw [Nat.pow_succ] at h
        omega
      have := ih (m / 10) h2
      simp only [List.length_append, List.length_cons, List.length_nil]
      omega

/-- the numbers that have a text here -/
def small (n : Int) : Prop := -1000000000000000000 < n ∧ n < 1000000000000000000
/-- what a text is cut to: the '-' away -/
def body (l : List UInt8) : List UInt8 := if l.head? = some 45 then l.tail else l
theorem body_itoa (n : Int) : body (itoa n) = decDigits n.natAbs := by
  unfold itoa
  by_cases h : n < 0
  · rw [if_pos h]; rfl
  · rw [if_neg h]
    have e : n.toNat = n.natAbs := by omega
    rw [e]
    have hd := dig_dec n.natAbs
    unfold body
    rw [if_neg]
    intro hh
    cases hl : decDigits n.natAbs with
    | nil => exact dec_ne _ hl
    | cons c r =>
      rw [hl] at hh hd
      have h1 := hd c (.head _)
      simp at hh
      subst hh
      exact absurd h1.1 (by decide)
theorem small_len {n : Int} (h : small n) : 1 ≤ (body (itoa n)).length ∧ (body (itoa n)).length ≤ 18 := by
  rw [body_itoa]
  refine ⟨?_, dec_len 17 _ (by have := h.1; have := h.2; show n.natAbs < 1000000000000000000; omega)⟩
  have := dec_ne n.natAbs
  cases hl : decDigits n.natAbs with
  | nil => exact absurd hl this
  | cons c r => simp
theorem itoa_dig (n : Int) : ∀ c ∈ body (itoa n), dig c := by rw [body_itoa]; exact dig_dec _
theorem itoa_val (n : Int) : val 0 (body (itoa n)) = n.natAbs := by rw [body_itoa]; exact val_dec _
theorem itoa_neg_iff (n : Int) : (body (itoa n)).length < (itoa n).length ↔ n < 0 := by
  rw [body_itoa]
  unfold itoa
  by_cases h : n < 0
  · rw [if_pos h]; simp [h]
  · rw [if_neg h]
    have e : n.toNat = n.natAbs := by omega
    rw [e]
    simp; omega
/-- the number of a text: its digits' value, with the sign -/
def numOf (l : List UInt8) : Int := if (body l).length < l.length then -(val 0 (body l) : Int) else (val 0 (body l) : Int)
theorem numOf_itoa (n : Int) : numOf (itoa n) = n := by
  unfold numOf
  rw [itoa_val]
  by_cases h : n < 0
  · rw [if_pos ((itoa_neg_iff n).2 h)]; omega
  · rw [if_neg (fun hh => h ((itoa_neg_iff n).1 hh))]; omega
/-- the text is one of such a number -/
def IsNum (l : List UInt8) : Prop := small (numOf l) ∧ itoa (numOf l) = l
theorem isNum_of {l : List UInt8} {n : Int} (h : small n) (e : itoa n = l) : IsNum l ∧ numOf l = n := by
  have e1 : numOf l = n := by rw [← e]; exact numOf_itoa n
  exact ⟨⟨by rw [e1]; exact h, by rw [e1]; exact e⟩, e1⟩
theorem IsNum.len {l : List UInt8} (h : IsNum l) : 1 ≤ (body l).length ∧ (body l).length ≤ 18 := by
  have := small_len h.1
  rw [h.2] at this
  exact this
theorem IsNum.dig {l : List UInt8} (h : IsNum l) : ∀ c ∈ body l, dig c := by
  have := itoa_dig (numOf l)
  rw [h.2] at this
  exact this
theorem numOf_small {l : List UInt8} (h : (body l).length ≤ 18) (hd : ∀ c ∈ body l, dig c) : small (numOf l) := by
  have h1 := val_lt (body l) 0 hd
  have h2 : (10 : Nat) ^ (body l).length ≤ 10 ^ 18 := Nat.pow_le_pow_right (by omega) h
  have h3 : (10 : Nat) ^ 18 = 1000000000000000000 := rfl
  unfold numOf small
  split <;> omega

theorem parse_val (M : Nat) (hM : 1000000000000000000 ≤ M) (l : List UInt8) : ∀ a, (∀ c ∈ l, dig c) → val a l < 1000000000000000000 → parseUintM M a l = .ok (val a l) := by
  induction l with
  | nil => intro a _ _; rfl
  | cons c r ih =>
    intro a h hb
    have h1 := h c (.head _)
    have h2 : a * 10 + (c.toNat - 48) ≤ val a (c :: r) := val_le r _
    rw [parseUintM, if_pos (show 48 ≤ c.toNat ∧ c.toNat ≤ 57 from h1), if_neg (by omega), if_neg (by omega)]
    exact ih _ (fun d hd => h d (.tail _ hd)) hb
theorem parse_dec (m : Nat) (h : m < 1000000000000000000) : parseUintB 64 (decDigits m) = .ok m := by
  unfold parseUintB
  rw [if_neg (dec_ne m), parse_val _ (by decide) _ _ (dig_dec m) (by rw [val_dec]; exact h), val_dec]
theorem parse_itoa {n : Int} (h : small n) : parseIntB 64 (itoa n) = .ok n := by
  have hs := h.1
  have hs2 := h.2
  unfold itoa
  by_cases hn : n < 0
  · rw [if_pos hn, parseIntB_minus, parse_dec _ (by omega)]
    show (if 2 ^ (64 - 1) < n.natAbs then NumEnd.range else .ok (-(n.natAbs : Int))) = .ok n
    rw [if_neg (by have e : (2 : Nat) ^ (64 - 1) = 9223372036854775808 := rfl; omega), show -(n.natAbs : Int) = n by omega]
  · rw [if_neg hn]
    cases hl : decDigits n.toNat with
    | nil => exact absurd hl (dec_ne _)
    | cons c r =>
      have hd := dig_dec n.toNat c (by rw [hl]; exact .head _)
      unfold dig at hd
      rw [parseIntB_plain _ _ _ (by omega) (by omega), ← hl, parse_dec _ (by omega)]
      show (if 2 ^ (64 - 1) ≤ n.toNat then NumEnd.range else .ok (n.toNat : Int)) = .ok n
      rw [if_neg (by have e : (2 : Nat) ^ (64 - 1) = 9223372036854775808 := rfl; omega), show (n.toNat : Int) = n by omega]
/-- the answer of both sides -/
noncomputable def ans (l : List UInt8) : Int × Bool := open Classical in if IsNum l then (numOf l, true) else (0, false)
theorem ans_yes {l : List UInt8} {n : Int} (h : small n) (e : itoa n = l) : ans l = (n, true) := by
  obtain ⟨h1, h2⟩ := isNum_of h e
  unfold ans
  rw [if_pos h1, h2]
theorem ans_no {l : List UInt8} (h : ¬ IsNum l) : ans l = (0, false) := by unfold ans; rw [if_neg h]
theorem no_of_ne {l : List UInt8} (h : itoa (numOf l) ≠ l) : ¬ IsNum l := fun k => h k.2
/-- what ParseInt does not read so is no such text -/
theorem isNum_parse {l : List UInt8} (h : IsNum l) : parseIntB 64 l = .ok (numOf l) := by
  have := parse_itoa h.1
  rw [h.2] at this
  exact this

end Go.Proofs.YtobohjfenjeckabDoor.num
