/-
  Words of bends: what makes one, the rods that lie over a rod, turned words. Mathematics. No condition of a statement lies here.
-/
import Derived.Test.YtgfnagkelhbplaaIn
namespace Go.Proofs.Ytgfnagkelhbplaa.brd
open Go.ChangeShapes Go.WideShapes Go.ChangeAt Go.RowKit Go.Proofs.Ytgfnagkelhbplaa.mem Go.Proofs.Ytgfnagkelhbplaa.rod
set_option linter.unusedVariables false

/-- the byte at place i, as a number; 0 behind the end -/
def byteAt (s : ByteArray) (i : Nat) : Int := if h : i < s.size then ((s[i]'h).toNat : Int) else 0
theorem byteAt_eq {s : ByteArray} {i : Nat} (h : i < s.size) : byteAt s i = ((s[i]'h).toNat : Int) := dif_pos h
def fb (c : Int) : Bool := decide (c = 98) || decide (c = 102)
def okTo (s : ByteArray) : Nat → Bool
  | 0 => true
  | k + 1 => okTo s k && fb (byteAt s k)
theorem okTo_iff (s : ByteArray) (k : Nat) : okTo s k = true ↔ ∀ i, i < k → fb (byteAt s i) = true := by
  induction k with
  | zero => exact ⟨fun _ i h => absurd h (by omega), fun _ => rfl⟩
  | succ k ih =>
    simp only [okTo, Bool.and_eq_true, ih]
    constructor
    · rintro ⟨h1, h2⟩ i hi
      by_cases e : i = k
      · rw [e]; exact h2
      · exact h1 i (by omega)
    · exact fun h => ⟨fun i hi => h i (by omega), h k (by omega)⟩
theorem okTo_no {s : ByteArray} {k i : Nat} (hi : i < k) (h : fb (byteAt s i) = false) : okTo s k = false := by
  cases e : okTo s k
  · rfl
  · rw [(okTo_iff s k).1 e i hi] at h; cases h
/-- a word of bends -/
def bendB (s : ByteArray) : Bool := okTo s s.size && inB s.size 1 8
theorem bend_of {s : ByteArray} (h : bendB s = true) : 0 < s.size ∧ s.size ≤ 8 ∧ ∀ i, i < s.size → byteAt s i = 98 ∨ byteAt s i = 102 := by
  unfold bendB at h
  simp only [Bool.and_eq_true] at h
  have h2 := inB_of h.2
  refine ⟨by omega, by omega, fun i hi => ?_⟩
  have := (okTo_iff s s.size).1 h.1 i hi
  unfold fb at this
  simpa using this

/-- the code of a word and a number of stakes -/
def codeW (s : ByteArray) (a : Int) : Int := if bendB s = true then (if inB a ((s.size : Int) + 2) 40 = true then 0 else 2) else 7
theorem codeW_0 {s : ByteArray} {a : Int} : codeW s a = 0 ↔ bendB s = true ∧ inB a ((s.size : Int) + 2) 40 = true := by
  unfold codeW
  split
  · rename_i h
    split
    · rename_i h2; exact ⟨fun _ => ⟨h, h2⟩, fun _ => rfl⟩
    · rename_i h2; exact ⟨fun e => (by cases e), fun e => absurd e.2 h2⟩
  · rename_i h; exact ⟨fun e => (by cases e), fun e => absurd e.1 h⟩
theorem codeW_no {s : ByteArray} {a : Int} (h : bendB s = false) : codeW s a = 7 := by unfold codeW; rw [if_neg (by rw [h]; decide)]
theorem codeW_far {s : ByteArray} {a : Int} (h : bendB s = true) (h2 : inB a ((s.size : Int) + 2) 40 = false) : codeW s a = 2 := by unfold codeW; rw [if_pos h, if_neg (by rw [h2]; decide)]
theorem codeW_yes {s : ByteArray} {a : Int} (h : bendB s = true) (h2 : inB a ((s.size : Int) + 2) 40 = true) : codeW s a = 0 := codeW_0.2 ⟨h, h2⟩
/-- the code of a word, a number of stakes and a stake -/
def codeK (s : ByteArray) (a k : Int) : Int := if codeW s a = 0 then (if inB k 0 (a - 1) = true then 0 else 2) else codeW s a
theorem codeK_0 {s : ByteArray} {a k : Int} : codeK s a k = 0 ↔ codeW s a = 0 ∧ inB k 0 (a - 1) = true := by
  unfold codeK
  split
  · rename_i h
    split
    · rename_i h2; exact ⟨fun _ => ⟨h, h2⟩, fun _ => rfl⟩
    · rename_i h2; exact ⟨fun e => (by cases e), fun e => absurd e.2 h2⟩
  · rename_i h; exact ⟨fun e => absurd e h, fun e => absurd e.1 h⟩
theorem codeK_no {s : ByteArray} {a k : Int} (h : codeW s a ≠ 0) : codeK s a k = codeW s a := if_neg h
theorem codeK_far {s : ByteArray} {a k : Int} (h : codeW s a = 0) (h2 : inB k 0 (a - 1) = false) : codeK s a k = 2 := by unfold codeK; rw [if_pos h, if_neg (by rw [h2]; decide)]

/-- is the rod behind the stake that it passes at this letter? -/
def isB (s : ByteArray) (i : Nat) : Bool := decide (byteAt s i = 98)
/-- the stakes k + 1, .. of which those are told where the rod passes behind; n letters -/
def ovL (s : ByteArray) (st k : Nat) : Nat → List Int
  | 0 => []
  | n + 1 => ovL s st k n ++ (if isB s n then [(((k + n + 1) % st : Nat) : Int)] else [])
/-- likewise back around the border -/
def unL (s : ByteArray) (st k : Nat) : Nat → List Int
  | 0 => []
  | n + 1 => unL s st k n ++ (if isB s n then [(((k + st - (n + 1)) % st : Nat) : Int)] else [])
/-- how many letters are behind -/
def cntB (s : ByteArray) : Nat → Nat
  | 0 => 0
  | n + 1 => cntB s n + (if isB s n then 1 else 0)
theorem ovL_len (s : ByteArray) (st k : Nat) : ∀ n, (ovL s st k n).length = cntB s n
  | 0 => rfl
  | n + 1 => by unfold ovL cntB; rw [List.length_append, ovL_len s st k n]; cases isB s n <;> rfl
theorem unL_len (s : ByteArray) (st k : Nat) : ∀ n, (unL s st k n).length = cntB s n
  | 0 => rfl
  | n + 1 => by unfold unL cntB; rw [List.length_append, unL_len s st k n]; cases isB s n <;> rfl
theorem cntB_le (s : ByteArray) : ∀ n, cntB s n ≤ n
  | 0 => Nat.le_refl _
  | n + 1 => by have := cntB_le s n; unfold cntB; split <;> omega
theorem ovL_yes {s : ByteArray} {st k n : Nat} (h : isB s n = true) : ovL s st k (n + 1) = ovL s st k n ++ [(((k + n + 1) % st : Nat) : Int)] := by show _ ++ _ = _; rw [if_pos h]
theorem ovL_no {s : ByteArray} {st k n : Nat} (h : isB s n = false) : ovL s st k (n + 1) = ovL s st k n := by show _ ++ _ = _; rw [h]; simp
theorem unL_yes {s : ByteArray} {st k n : Nat} (h : isB s n = true) : unL s st k (n + 1) = unL s st k n ++ [(((k + st - (n + 1)) % st : Nat) : Int)] := by show _ ++ _ = _; rw [if_pos h]
theorem unL_no {s : ByteArray} {st k n : Nat} (h : isB s n = false) : unL s st k (n + 1) = unL s st k n := by show _ ++ _ = _; rw [h]; simp
theorem mem_ovL {s : ByteArray} {st k : Nat} {x : Int} : ∀ {n : Nat}, x ∈ ovL s st k n ↔ ∃ i, i < n ∧ isB s i = true ∧ x = (((k + i + 1) % st : Nat) : Int)
  | 0 => ⟨fun h => (by cases h), fun ⟨i, h, _⟩ => absurd h (by omega)⟩
  | n + 1 => by
    unfold ovL
    rw [List.mem_append, mem_ovL]
    constructor
    · rintro (⟨i, h1, h2, h3⟩ | h)
      · exact ⟨i, by omega, h2, h3⟩
      · cases hb : isB s n
        · rw [hb] at h; simp at h
        · rw [hb] at h; simp at h; exact ⟨n, by omega, hb, by rw [h]; simp⟩
    · rintro ⟨i, h1, h2, h3⟩
      by_cases e : i = n
      · subst e; right; rw [if_pos h2, h3]; exact List.mem_cons_self
      · left; exact ⟨i, by omega, h2, h3⟩
theorem mem_unL {s : ByteArray} {st k : Nat} {x : Int} : ∀ {n : Nat}, x ∈ unL s st k n ↔ ∃ i, i < n ∧ isB s i = true ∧ x = (((k + st - (i + 1)) % st : Nat) : Int)
  | 0 => ⟨fun h => (by cases h), fun ⟨i, h, _⟩ => absurd h (by omega)⟩
  | n + 1 => by
    unfold unL
    rw [List.mem_append, mem_unL]
    constructor
    · rintro (⟨i, h1, h2, h3⟩ | h)
      · exact ⟨i, by omega, h2, h3⟩
      · cases hb : isB s n
        · rw [hb] at h; simp at h
        · rw [hb] at h; simp at h; exact ⟨n, by omega, hb, by rw [h]; simp⟩
    · rintro ⟨i, h1, h2, h3⟩
      by_cases e : i = n
      · subst e; right; rw [if_pos h2, h3]; exact List.mem_cons_self
      · left; exact ⟨i, by omega, h2, h3⟩

/-! ### rods that come out -/
/-- a set of stakes, as a test on numbers, is closed: the cut rod is in it, and each rod over which only its rods lie -/
def Closed (s : ByteArray) (st : Nat) (S : Nat → Bool) : Prop := S 0 = true ∧ ∀ k, k < st → (∀ i, i < s.size → isB s i = true → S ((k + i + 1) % st) = true) → S k = true
/-- the rods that come out -/
inductive Out (s : ByteArray) (st : Nat) : Nat → Prop
  | cut : Out s st 0
  | free {k : Nat} : k < st → (∀ i, i < s.size → isB s i = true → Out s st ((k + i + 1) % st)) → Out s st k
theorem Out.of_closed {s : ByteArray} {st : Nat} {S : Nat → Bool} (h : Closed s st S) {k : Nat} (o : Out s st k) : S k = true := by
  induction o with
  | cut => exact h.1
  | free hk _ ih => exact h.2 _ hk ih
/-- how many numbers below n are in the set -/
def cntS (S : Nat → Bool) : Nat → Nat
  | 0 => 0
  | n + 1 => cntS S n + (if S n then 1 else 0)
theorem cntS_congr {S T : Nat → Bool} : ∀ {n : Nat}, (∀ k, k < n → S k = T k) → cntS S n = cntS T n
  | 0, _ => rfl
  | n + 1, h => by unfold cntS; rw [cntS_congr (fun k hk => h k (by omega)), h n (by omega)]
theorem cntS_le (S : Nat → Bool) : ∀ n, cntS S n ≤ n
  | 0 => Nat.le_refl _
  | n + 1 => by have := cntS_le S n; unfold cntS; split <;> omega
theorem cntS_put {S : Nat → Bool} {m : Nat} (hm : S m = false) : ∀ n, cntS (fun j => if j = m then true else S j) n = cntS S n + (if m < n then 1 else 0)
  | 0 => by simp [cntS]
  | n + 1 => by
    unfold cntS
    rw [cntS_put hm n]
    by_cases e : n = m
    · subst e; simp [hm]
    · simp only [e, if_false]
      by_cases h : m < n
      · have h1 : m < n + 1 := by omega
        simp only [h, h1, if_true]; omega
      · have h1 : ¬ m < n + 1 := by omega
        simp only [h, h1, if_false]; omega
theorem cntS_all {S : Nat → Bool} : ∀ {n : Nat}, (∀ k, k < n → S k = true) → cntS S n = n
  | 0, _ => rfl
  | n + 1, h => by unfold cntS; rw [cntS_all (fun k hk => h k (by omega)), if_pos (h n (by omega))]
theorem cntS_pos {S : Nat → Bool} {k : Nat} (h : S k = true) : ∀ {n : Nat}, k < n → 1 ≤ cntS S n
  | 0, hk => absurd hk (by omega)
  | n + 1, hk => by
    unfold cntS
    by_cases e : k = n
    · subst e; rw [if_pos h]; omega
    · have := cntS_pos h (n := n) (by omega); omega
open Classical in
/-- how many rods come out -/
noncomputable def outN (s : ByteArray) (st : Nat) : Nat := cntS (fun k => decide (Out s st k)) st
open Classical in
/-- a closed set whose members all come out has as many -/
theorem outN_of {s : ByteArray} {st : Nat} {S : Nat → Bool} (h : Closed s st S) (ho : ∀ k, k < st → S k = true → Out s st k) : cntS S st = outN s st := by
  unfold outN
  refine cntS_congr fun k hk => ?_
  rw [Bool.eq_iff_iff, decide_eq_true_iff]
  exact ⟨ho k hk, fun o => o.of_closed h⟩
open Classical in
theorem outN_pos {s : ByteArray} {st : Nat} (h : 0 < st) : 1 ≤ outN s st := cntS_pos (k := 0) (decide_eq_true Out.cut) h
theorem outN_le {s : ByteArray} {st : Nat} : outN s st ≤ st := cntS_le _ _
open Classical in
theorem outN_all {s : ByteArray} {st : Nat} (h : cntB s s.size = 0) : outN s st = st := by
  have hb : ∀ n, cntB s n = 0 → ∀ i, i < n → isB s i = false := by
    intro n
    induction n with
    | zero => intro _ i h; omega
    | succ n ih =>
      intro h0 i hi
      unfold cntB at h0
      cases e : isB s n
      · by_cases e2 : i = n
        · rw [e2]; exact e
        · exact ih (by rw [e] at h0; simpa using h0) i (by omega)
      · rw [e] at h0; simp at h0
  exact cntS_all fun k hk => decide_eq_true (Out.free hk fun i hi h2 => by rw [hb _ h i hi] at h2; cases h2)

/-- the length of a rod -/
theorem cntB_pos {s : ByteArray} : ∀ {n i : Nat}, i < n → isB s i = true → 0 < cntB s n
  | 0, i, h, _ => by omega
  | n + 1, i, h, hb => by
    unfold cntB
    by_cases e : i = n
    · subst e; rw [if_pos hb]; omega
    · have := cntB_pos (s := s) (n := n) (i := i) (by omega) hb; omega
end Go.Proofs.Ytgfnagkelhbplaa.brd
