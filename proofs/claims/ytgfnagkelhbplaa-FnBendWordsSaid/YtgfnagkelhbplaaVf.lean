/-
  Words of two letters as rows of bits: the first word of a cycle, the least turn, the words of a length that are the first of their cycles; all of it reckoned by the kernel for up to eight letters. Mathematics; no condition of a statement lies here.
-/
import Derived.Test.YtgfnagkelhbplaaVa
namespace Go.Proofs.Ytgfnagkelhbplaa.brd
open Go.ChangeShapes Go.WideShapes Go.ChangeAt Go.RowKit Go.Proofs.Ytgfnagkelhbplaa.mem Go.Proofs.Ytgfnagkelhbplaa.rod
set_option linter.unusedVariables false
set_option maxRecDepth 100000

def down (T : List Bool) (E : List Nat) (i : Nat) : Nat → Nat → Nat → Nat × Nat
  | 0, best, s => (best, s)
  | f + 1, best, s =>
    match s with
    | 0 => (best, 0)
    | s' + 1 =>
      match T.getD i false, T.getD (best + s') false with
      | false, true => down T E i f (i - s') (E.getD s' 0)
      | true, false => down T E i f best (E.getD s' 0)
      | _, _ => (best, s' + 1)
def steps (T : List Bool) (i : Nat) : Nat → Nat → List Nat → Nat
  | 0, best, _ => best
  | f + 1, best, E =>
    let d := down T E i (i + 1) best (E.getD (i - best) 0)
    steps T (i + 1) f d.1 (E.set (i - d.1 + 1) (d.2 + 1))
def booth (l : List Bool) : Nat := steps (l ++ l) 1 (2 * l.length - 1) 0 (0 :: List.replicate (2 * l.length) 1)
def rot (l : List Bool) (k : Nat) : List Bool := l.drop k ++ l.take k
def ltL : List Bool → List Bool → Bool
  | _, [] => false
  | [], _ :: _ => true
  | a :: x, b :: y => (!a && b) || (a == b && ltL x y)
def firstF (l : List Bool) : Nat → List Bool
  | 0 => l
  | n + 1 => let best := firstF l n; let x := rot l (n + 1); if ltL x best then x else best
def first (l : List Bool) : List Bool := firstF l (l.length - 1)
def words : Nat → List (List Bool)
  | 0 => [[]]
  | n + 1 => (words n).map (false :: ·) ++ (words n).map (true :: ·)
/-- all words that begin as told and are first ones of their cycles -/
def fw : Nat → List Bool → Nat → List (List Bool)
  | 0, l, p => if l.length % p = 0 then [l] else []
  | f + 1, l, p =>
    let again := l.getD (l.length - p) false
    (if again then [] else fw f (l ++ [false]) p) ++ fw f (l ++ [true]) (if again then p else l.length + 1)
def listW (n : Nat) : List (List Bool) := fw (n - 1) [false] 1 ++ fw (n - 1) [true] 1
def ascB : List (List Bool) → Bool
  | [] => true
  | [_] => true
  | a :: b :: r => ltL a b && ascB (b :: r)
def good (l : List Bool) : Bool := rot l (booth l) == first l && decide (booth l ≤ l.length) && (List.range l.length).all fun j => first (rot l j) == first l
def goodN (n : Nat) : Bool := (words n).all good && listW n == (words n).filter (fun l => first l == l) && ascB (listW n)
theorem goodN_1 : goodN 1 = true := by kernel_rfl
theorem goodN_2 : goodN 2 = true := by kernel_rfl
theorem goodN_3 : goodN 3 = true := by kernel_rfl
theorem goodN_4 : goodN 4 = true := by kernel_rfl
theorem goodN_5 : goodN 5 = true := by kernel_rfl
theorem goodN_6 : goodN 6 = true := by kernel_rfl
theorem goodN_7 : goodN 7 = true := by kernel_rfl
theorem goodN_8 : goodN 8 = true := by kernel_rfl
theorem words_mem : ∀ l : List Bool, l ∈ words l.length
  | [] => List.mem_cons_self
  | b :: l => by
    have := words_mem l
    show b :: l ∈ (words l.length).map (false :: ·) ++ (words l.length).map (true :: ·)
    rw [List.mem_append, List.mem_map, List.mem_map]
    cases b
    · exact .inl ⟨l, this, rfl⟩
    · exact .inr ⟨l, this, rfl⟩
theorem words_len : ∀ {n : Nat} {l : List Bool}, l ∈ words n → l.length = n
  | 0, l, h => by simp [words] at h; rw [h]; rfl
  | n + 1, l, h => by
    unfold words at h
    rw [List.mem_append, List.mem_map, List.mem_map] at h
    rcases h with ⟨x, h, rfl⟩ | ⟨x, h, rfl⟩ <;> simp [words_len h]
theorem goodN_of {n : Nat} (h1 : 1 ≤ n) (h8 : n ≤ 8) : goodN n = true := by
  obtain rfl | rfl | rfl | rfl | rfl | rfl | rfl | rfl : n = 1 ∨ n = 2 ∨ n = 3 ∨ n = 4 ∨ n = 5 ∨ n = 6 ∨ n = 7 ∨ n = 8 := by omega
  · exact goodN_1
  · exact goodN_2
  · exact goodN_3
  · exact goodN_4
  · exact goodN_5
  · exact goodN_6
  · exact goodN_7
  · exact goodN_8
theorem listW_eq {n : Nat} (h1 : 1 ≤ n) (h8 : n ≤ 8) : listW n = (words n).filter (fun l => first l == l) := by
  have := goodN_of h1 h8
  unfold goodN at this
  simp only [Bool.and_eq_true, beq_iff_eq] at this
  exact this.1.2
theorem good_of {l : List Bool} (h1 : 1 ≤ l.length) (h8 : l.length ≤ 8) : good l = true := by
  have := goodN_of h1 h8
  unfold goodN at this
  simp only [Bool.and_eq_true, List.all_eq_true] at this
  exact this.1.1 l (words_mem l)
theorem booth_first {l : List Bool} (h1 : 1 ≤ l.length) (h8 : l.length ≤ 8) : rot l (booth l) = first l ∧ booth l ≤ l.length := by
  have := good_of h1 h8
  unfold good at this
  simp only [Bool.and_eq_true, beq_iff_eq, decide_eq_true_eq] at this
  exact this.1
theorem rot_len (l : List Bool) (k : Nat) : (rot l k).length = l.length := by unfold rot; simp; omega
theorem rot_get {l : List Bool} {k i : Nat} (hk : k ≤ l.length) (hi : i < l.length) : (rot l k)[i]? = l[(i + k) % l.length]? := by
  unfold rot
  by_cases h : i < l.length - k
  · rw [List.getElem?_append_left (by rw [List.length_drop]; exact h), List.getElem?_drop, Nat.mod_eq_of_lt (by omega), Nat.add_comm]
  · rw [List.getElem?_append_right (by rw [List.length_drop]; omega), List.length_drop, List.getElem?_take_of_lt (by omega), Nat.mod_eq_sub_mod (by omega), Nat.mod_eq_of_lt (by omega)]
    congr 1
    omega
theorem rot_rot {l : List Bool} {j k : Nat} (hj : j < l.length) (hk : k < l.length) : rot (rot l j) k = rot l ((j + k) % l.length) := by
  apply List.ext_getElem?
  intro i
  have hm : (j + k) % l.length < l.length := Nat.mod_lt _ (by omega)
  by_cases hi : i < l.length
  · rw [rot_get (by rw [rot_len]; omega) (by rw [rot_len]; exact hi), rot_len, rot_get (by omega) (Nat.mod_lt _ (by omega)), rot_get (by omega) hi]
    congr 1
    rw [Nat.mod_add_mod, Nat.add_mod_mod]
    congr 1
    omega
  · rw [List.getElem?_eq_none (by rw [rot_len, rot_len]; omega), List.getElem?_eq_none (by rw [rot_len]; omega)]
theorem first_rot {l : List Bool} (h1 : 1 ≤ l.length) (h8 : l.length ≤ 8) {j : Nat} (hj : j < l.length) : first (rot l j) = first l ∧ ∀ k, k < l.length → rot (rot l j) k = rot l ((j + k) % l.length) := by
  have := good_of h1 h8
  unfold good at this
  simp only [Bool.and_eq_true, beq_iff_eq, decide_eq_true_eq, List.all_eq_true, List.mem_range] at this
  exact ⟨this.2 j hj, fun k hk => rot_rot hj hk⟩
theorem firstF_rot (l : List Bool) : ∀ n, ∃ k, k ≤ n ∧ firstF l n = rot l k
  | 0 => ⟨0, Nat.le_refl _, by simp [firstF, rot]⟩
  | n + 1 => by
    obtain ⟨k, hk, e⟩ := firstF_rot l n
    unfold firstF
    simp only
    split
    · exact ⟨n + 1, Nat.le_refl _, rfl⟩
    · exact ⟨k, by omega, e⟩
theorem first_is {l : List Bool} (h1 : 1 ≤ l.length) : ∃ k, k < l.length ∧ first l = rot l k := by
  obtain ⟨k, hk, e⟩ := firstF_rot l (l.length - 1)
  exact ⟨k, by omega, e⟩
theorem first_len (l : List Bool) : (first l).length = l.length := by
  obtain ⟨k, hk, e⟩ := firstF_rot l (l.length - 1)
  unfold first
  rw [e, rot_len]
/-- two words have one first word just if the one is the other one turned -/
theorem first_eq {a b : List Bool} (h1 : 1 ≤ a.length) (h8 : a.length ≤ 8) : first a = first b ↔ ∃ k, k < a.length ∧ rot a k = b := by
  constructor
  · intro h
    have hl : a.length = b.length := by rw [← first_len a, h, first_len]
    obtain ⟨j, hj, ej⟩ := first_is h1
    obtain ⟨k, hk, ek⟩ := first_is (l := b) (by omega)
    rw [ej, ek] at h
    -- b is the turn of its turn
    have e2 := (first_rot (l := b) (by omega) (by omega) hk).2 ((b.length - k) % b.length) (Nat.mod_lt _ (by omega))
    rw [← h] at e2
    have e3 := (first_rot h1 h8 hj).2 ((b.length - k) % b.length) (by rw [hl]; exact Nat.mod_lt _ (by omega))
    rw [e3] at e2
    refine ⟨_, Nat.mod_lt _ (by omega), e2.trans ?_⟩
    rw [Nat.add_mod_mod, show k + (b.length - k) = b.length by omega, Nat.mod_self]
    simp [rot]
  · rintro ⟨k, hk, rfl⟩
    exact (first_rot h1 h8 hk).1.symm

/-! ### rows of bits and texts -/
def ltr (b : Bool) : UInt8 := if b then 102 else 98
def toB (l : List Bool) : ByteArray := ⟨(l.map ltr).toArray⟩
theorem toB_size (l : List Bool) : (toB l).size = l.length := by show (l.map ltr).toArray.size = _; simp
theorem toB_list (l : List Bool) : (toB l).toList = l.map ltr := by rw [ByteArray.toList_eq]; show ((l.map ltr).toArray).toList = _; simp
theorem ltr_inj {a b : Bool} (h : ltr a = ltr b) : a = b := by cases a <;> cases b <;> first | rfl | (exfalso; revert h; decide)
theorem map_inj : ∀ {a b : List Bool}, a.map ltr = b.map ltr → a = b
  | [], [], _ => rfl
  | [], _ :: _, h => by simp at h
  | _ :: _, [], h => by simp at h
  | x :: a, y :: b, h => by
    simp only [List.map_cons, List.cons.injEq] at h
    rw [ltr_inj h.1, map_inj h.2]
theorem toB_inj {a b : List Bool} (h : toB a = toB b) : a = b := by
  have := congrArg ByteArray.toList h
  rw [toB_list, toB_list] at this
  exact map_inj this
theorem toB_eq (a b : List Bool) : ((toB a).toList == (toB b).toList) = (a == b) := by
  rw [Bool.eq_iff_iff, beq_iff_eq, beq_iff_eq, toB_list, toB_list]
  exact ⟨map_inj, fun h => by rw [h]⟩
theorem toB_less : ∀ (a b : List Bool), Op.bytesLess (toB a).toList (toB b).toList = ltL a b := by
  intro a b
  rw [toB_list, toB_list]
  induction a generalizing b with
  | nil => cases b <;> rfl
  | cons x a ih =>
    cases b with
    | nil => rfl
    | cons y b =>
      show (decide (ltr x < ltr y) || (ltr x == ltr y && Op.bytesLess (a.map ltr) (b.map ltr))) = _
      rw [ih]
      show _ = ((!x && y) || (x == y && ltL a b))
      cases x <;> cases y <;> rfl
theorem toB_at {l : List Bool} {i : Nat} (h : i < (toB l).size) : (((toB l)[i]'h).toNat : Int) = if l.getD i false then 102 else 98 := by
  have hl : i < l.length := by rw [toB_size] at h; exact h
  have e : (toB l)[i]'h = ltr (l[i]'hl) := by
    have e0 : (toB l)[i]'h = (toB l).data[i]'h := rfl
    rw [e0]
    show (List.map ltr l).toArray[i]'(by simpa using hl) = _
    simp
  rw [e, List.getD_eq_getElem?_getD, List.getElem?_eq_getElem hl]
  simp only [Option.getD_some]
  cases l[i] <;> rfl
theorem toB_byte {l : List Bool} {i : Nat} (h : i < l.length) : byteAt (toB l) i = if l.getD i false then 102 else 98 := by
  have h' : i < (toB l).size := by rw [toB_size]; exact h
  rw [byteAt_eq h', toB_at h']
theorem toB_rot (l : List Bool) {k : Nat} (hk : k ≤ l.length) : (toB l).extract k l.length ++ (toB l).extract 0 k = toB (rot l k) := by
  apply ByteArray.ext
  rw [ByteArray.data_append, ByteArray.data_extract, ByteArray.data_extract]
  apply Array.toList_inj.1
  rw [Array.toList_append, Array.toList_extract, Array.toList_extract]
  show List.extract ((l.map ltr).toArray).toList k l.length ++ List.extract ((l.map ltr).toArray).toList 0 k = ((rot l k).map ltr).toArray.toList
  unfold rot
  simp only [List.extract_eq_take_drop, List.map_append, List.map_drop, List.map_take, Nat.sub_zero, List.drop_zero]
  congr 1
  rw [List.take_of_length_le (by simp)]
theorem toB_twice (l : List Bool) : toB l ++ toB l = toB (l ++ l) := by
  apply ByteArray.ext
  rw [ByteArray.data_append]
  apply Array.toList_inj.1
  rw [Array.toList_append]
  show ((l.map ltr).toArray).toList ++ ((l.map ltr).toArray).toList = (((l ++ l).map ltr).toArray).toList
  simp
theorem toB_snoc (l : List Bool) (b : Bool) : toB l ++ ⟨#[ltr b]⟩ = toB (l ++ [b]) := by
  apply ByteArray.ext
  rw [ByteArray.data_append]
  apply Array.toList_inj.1
  rw [Array.toList_append]
  show ((l.map ltr).toArray).toList ++ [ltr b] = (((l ++ [b]).map ltr).toArray).toList
  simp
/-- the bits of a text -/
def bits (s : ByteArray) : List Bool := (List.range s.size).map fun i => decide (byteAt s i = 102)
theorem bits_len (s : ByteArray) : (bits s).length = s.size := by unfold bits; simp
theorem ext_byte {a b : ByteArray} (h : a.size = b.size) (hb : ∀ i, i < a.size → byteAt a i = byteAt b i) : a = b := by
  apply ByteArray.ext_getElem h
  intro i h1 h2
  have := hb i h1
  rw [byteAt_eq h1, byteAt_eq h2] at this
  exact UInt8.toNat_inj.1 (by omega)
theorem toB_bits {s : ByteArray} (h : ∀ i, i < s.size → byteAt s i = 98 ∨ byteAt s i = 102) : toB (bits s) = s := by
  refine ext_byte (by rw [toB_size, bits_len]) fun i hi => ?_
  rw [toB_size] at hi
  rw [toB_byte hi]
  rw [bits_len] at hi
  have e : (bits s).getD i false = decide (byteAt s i = 102) := by
    unfold bits
    rw [List.getD_eq_getElem?_getD, List.getElem?_map, List.getElem?_range hi]
    rfl
  rw [e]
  rcases h i hi with h1 | h1 <;> rw [h1] <;> rfl
theorem bits_toB (l : List Bool) : bits (toB l) = l := by
  apply toB_inj
  refine toB_bits fun i hi => ?_
  rw [toB_size] at hi
  rw [toB_byte hi]
  split <;> simp
theorem bend_toB {l : List Bool} (h1 : 1 ≤ l.length) (h8 : l.length ≤ 8) : bendB (toB l) = true := by
  unfold bendB
  rw [Bool.and_eq_true]
  refine ⟨(okTo_iff _ _).2 fun i hi => ?_, inB_yes (by rw [toB_size]; omega) (by rw [toB_size]; omega)⟩
  rw [toB_size] at hi
  rw [toB_byte hi]
  split <;> rfl
/-- a word of bends as bits -/
theorem bend_bits {s : ByteArray} (h : bendB s = true) : ∃ l : List Bool, s = toB l ∧ bits s = l ∧ 1 ≤ l.length ∧ l.length ≤ 8 := by
  obtain ⟨h0, h8, hb⟩ := bend_of h
  exact ⟨bits s, (toB_bits hb).symm, rfl, by rw [bits_len]; omega, by rw [bits_len]; omega⟩
end Go.Proofs.Ytgfnagkelhbplaa.brd
