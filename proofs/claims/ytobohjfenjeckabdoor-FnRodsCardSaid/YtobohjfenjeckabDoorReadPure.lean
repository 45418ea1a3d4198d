/-
  The reading of a rod's text in two ways, by cutting at each byte and by cutting at the first place: they agree. No memory here.
-/
import Derived.Test.YtobohjfenjeckabDoorNum
import Derived.Test.YtobohjfenjeckabDoorSplit
import Derived.Test.YtobohjfenjeckabDoorRod
import Derived.Lib.IndexMore
namespace Go.Proofs.YtobohjfenjeckabDoor.num
open Go.Lib
open Go.Proofs.YtobohjfenjeckabDoor.split Go.Proofs.YtobohjfenjeckabDoor.rod
set_option linter.unusedVariables false

theorem splitA_no {d : UInt8} (a : List UInt8) (h : d ∉ a) : ∀ cur, splitA d cur a = [cur ++ a] := by
  induction a with
  | nil => intro cur; simp [splitA]
  | cons c r ih =>
    intro cur
    have h1 : c ≠ d := fun e => h (by rw [e]; exact List.mem_cons_self ..)
    have h2 : d ∉ r := fun e => h (List.mem_cons_of_mem _ e)
    rw [splitA, if_neg h1, ih h2]
    simp
theorem splitA_yes {d : UInt8} (a r : List UInt8) (h : d ∉ a) : ∀ cur, splitA d cur (a ++ d :: r) = (cur ++ a) :: splitA d [] r := by
  induction a with
  | nil => intro cur; simp [splitA]
  | cons c l ih =>
    intro cur
    have h1 : c ≠ d := fun e => h (by rw [e]; exact List.mem_cons_self ..)
    have h2 : d ∉ l := fun e => h (List.mem_cons_of_mem _ e)
    rw [List.cons_append, splitA, if_neg h1, ih h2]
    simp
theorem split_no {d : UInt8} {a : List UInt8} (h : d ∉ a) : split d a = [a] := splitA_no a h []
theorem split_yes {d : UInt8} {a r : List UInt8} (h : d ∉ a) : split d (a ++ d :: r) = a :: split d r := splitA_yes a r h []
theorem first_of (d : UInt8) (l : List UInt8) : d ∉ l ∨ ∃ a r, l = a ++ d :: r ∧ d ∉ a := by
  induction l with
  | nil => left; simp
  | cons c l ih =>
    by_cases h : c = d
    · subst h
      exact .inr ⟨[], l, rfl, by simp⟩
    · rcases ih with h1 | ⟨a, r, rfl, h1⟩
      · left
        intro e
        rcases List.mem_cons.1 e with e | e
        · exact h e.symm
        · exact h1 e
      · right
        refine ⟨c :: a, r, rfl, fun e => ?_⟩
        rcases List.mem_cons.1 e with e | e
        · exact h e.symm
        · exact h1 e
theorem split_one {d : UInt8} {l a : List UInt8} (h : split d l = [a]) : l = a ∧ d ∉ a := by
  rcases first_of d l with h1 | ⟨b, r, rfl, h1⟩
  · rw [split_no h1] at h
    injection h with h
    subst h
    exact ⟨rfl, h1⟩
  · rw [split_yes h1] at h
    injection h with h h2
    exact absurd h2 (splitA_ne d r [])
theorem split_more {d : UInt8} {l a b : List UInt8} {ps : List (List UInt8)} (h : split d l = a :: b :: ps) : ∃ r, l = a ++ d :: r ∧ d ∉ a ∧ split d r = b :: ps := by
  rcases first_of d l with h1 | ⟨c, r, rfl, h1⟩
  · rw [split_no h1] at h
    injection h with h h2
    cases h2
  · rw [split_yes h1] at h
    injection h with h h2
    subst h
    exact ⟨r, rfl, h1, h2⟩

theorem cut_first {d : UInt8} {a sub c : List UInt8} (h : d ∉ a) : cut (a ++ ((d :: sub) ++ c)) (d :: sub) = (a, c, true) := by
  have hi : index (a ++ ((d :: sub) ++ c)) (d :: sub) = (a.length : Int) := by
    refine index_first (by simp) ?_ ?_
    · unfold occAt
      rw [List.drop_left, List.isPrefixOf_iff_prefix]
      exact ⟨c, rfl⟩
    · intro j hj
      unfold occAt
      have hne : ¬ d = a[j] := fun e => h (by rw [e]; exact List.getElem_mem hj)
      rw [List.drop_append_of_le_length (by omega), List.drop_eq_getElem_cons hj, List.cons_append]
      show (d == a[j] && _) = false
      rw [show (d == a[j]) = false by simpa using hne]
      rfl
  unfold cut
  rw [if_pos (by rw [hi]; omega), hi, Int.toNat_natCast, List.take_left]
  congr 1
  rw [show a.length + (d :: sub).length = (a ++ (d :: sub)).length by simp, ← List.append_assoc, List.drop_left]
theorem index_occ (sub : List UInt8) : ∀ l : List UInt8, 0 ≤ index l sub → sub <+: l.drop (index l sub).toNat := by
  intro l
  induction l with
  | nil =>
    intro h
    unfold index at h ⊢
    cases sub with
    | nil => simp
    | cons c r => simp at h
  | cons b l ih =>
    intro h
    unfold index at h ⊢
    by_cases h1 : sub.isPrefixOf (b :: l) = true
    · rw [if_pos h1]
      exact List.isPrefixOf_iff_prefix.1 h1
    · rw [if_neg h1] at h ⊢
      by_cases h2 : (index l sub == -1) = true
      · rw [if_pos h2] at h; omega
      · rw [if_neg h2] at h ⊢
        have h3 : index l sub ≠ -1 := by simpa using h2
        have h4 := index_ge l sub
        have h5 : (index l sub + 1).toNat = (index l sub).toNat + 1 := by omega
        rw [h5, List.drop_succ_cons]
        exact ih (by omega)
theorem cut_cases (l sub : List UInt8) : cut l sub = (l, [], false) ∨ ∃ a c, cut l sub = (a, c, true) ∧ l = a ++ (sub ++ c) := by
  unfold cut
  by_cases h : 0 ≤ index l sub
  · rw [if_pos h]
    right
    refine ⟨_, _, rfl, ?_⟩
    obtain ⟨t, ht⟩ := index_occ sub l h
    have e : l.drop ((index l sub).toNat + sub.length) = t := by rw [← List.drop_drop, ← ht, List.drop_left]
    rw [e, ht, List.take_append_drop]
  · rw [if_neg h]
    exact .inl rfl

/-- a part that reads as a number above zero -/
theorem ans_pos {p : List UInt8} (h : 0 < (ans p).1) : (ans p).2 = true ∧ ∀ c, c ∈ p → dig c := by
  by_cases hp : IsNum p
  · have e : ans p = (numOf p, true) := by unfold ans; rw [if_pos hp]
    rw [e] at h ⊢
    refine ⟨rfl, ?_⟩
    have h1 := hp.dig
    have h2 : body p = p := by
      unfold body
      rw [if_neg]
      intro hh
      have h3 : (body p).length < p.length := by
        unfold body
        rw [if_pos hh]
        cases p with
        | nil => cases hh
        | cons c r => simp
      unfold numOf at h
      rw [if_pos h3] at h
      simp at h
      omega
    rw [h2] at h1
    exact h1
  · rw [ans_no hp] at h
    exact absurd h (by decide)
theorem ans_zero {p : List UInt8} (h : (ans p).2 = false) : (ans p).1 = 0 := by
  by_cases hp : IsNum p
  · unfold ans at h
    rw [if_pos hp] at h
    cases h
  · rw [ans_no hp]
theorem no_dig {p : List UInt8} {d : UInt8} (h : ∀ c, c ∈ p → dig c) (hd : ¬ dig d) : d ∉ p := fun e => hd (h d e)
theorem not32 : ¬ dig 32 := by unfold dig; decide
theorem not45 : ¬ dig 45 := by unfold dig; decide

/-- the three numbers of a rod, when they make one -/
def rodOf (L B T : Int) : Option (Int × Int × Int) := if rodB L B T = true then some (L, B, T) else none
/-- the model's way -/
noncomputable def readR (l : List UInt8) : Option (Int × Int × Int) :=
  match split 32 l with
  | [a, m, c] => if m = [109, 109] then
      match split 45 c with
      | [b, t] => if (ans a).2 = true ∧ (ans b).2 = true ∧ (ans t).2 = true then rodOf (ans a).1 (ans b).1 (ans t).1 else none
      | _ => none
    else none
  | _ => none
/-- the program's way -/
noncomputable def readI (l : List UInt8) : Option (Int × Int × Int) :=
  rodOf (ans (cut l [32, 109, 109, 32]).1).1 (ans (cut (cut l [32, 109, 109, 32]).2.1 [45]).1).1 (ans (cut (cut l [32, 109, 109, 32]).2.1 [45]).2.1).1

theorem rodOf_some {L B T : Int} {r : Int × Int × Int} (h : rodOf L B T = some r) : r = (L, B, T) ∧ rodB L B T = true := by
  unfold rodOf at h
  by_cases hb : rodB L B T = true
  · rw [if_pos hb] at h
    injection h with h
    exact ⟨h.symm, hb⟩
  · rw [if_neg hb] at h
    cases h
theorem readR_some {l : List UInt8} {r : Int × Int × Int} (h : readR l = some r) : readI l = some r := by
  unfold readR at h
  split at h
  · rename_i a m c hs
    by_cases hm : m = [109, 109]
    · rw [if_pos hm] at h
      subst hm
      split at h
      · rename_i b t hs2
        split at h
        · obtain ⟨r1, hl, ha, hr1⟩ := split_more hs
          obtain ⟨r2, hl2, hm2, hr2⟩ := split_more hr1
          obtain ⟨hl3, hc⟩ := split_one hr2
          obtain ⟨r3, hl4, hb, hr3⟩ := split_more hs2
          obtain ⟨hl5, ht⟩ := split_one hr3
          subst hl5 hl4 hl3 hl2 hl
          have e1 : cut (a ++ 32 :: ([109, 109] ++ 32 :: (b ++ 45 :: r3))) [32, 109, 109, 32] = (a, b ++ 45 :: r3, true) := cut_first (sub := [109, 109, 32]) (c := b ++ 45 :: r3) ha
          have e2 : cut (b ++ 45 :: r3) [45] = (b, r3, true) := cut_first (sub := []) (c := r3) hb
          unfold readI
          rw [e1]
          simp only []
          rw [e2]
          exact h
        · cases h
      · cases h
    · rw [if_neg hm] at h
      cases h
  · cases h
theorem readI_some {l : List UInt8} {r : Int × Int × Int} (h : readI l = some r) : readR l = some r := by
  unfold readI at h
  obtain ⟨hr, hb⟩ := rodOf_some h
  obtain ⟨p1, p2, p3, p4, p5, p6⟩ := rodB_of hb
  rcases cut_cases l [32, 109, 109, 32] with e1 | ⟨x, y, e1, hl⟩
  · rw [e1] at p3
    have e2 : cut [] [45] = ([], [], false) := rfl
    simp only [] at p3
    rw [e2] at p3
    have e3 : (ans []).1 = 0 := by rw [ans_no (fun h => by have := h.len.1; simp [body] at this)]
    simp only [] at p3
    omega
  · rw [e1] at h hr hb p1 p2 p3 p4 p5 p6
    simp only [] at h hr hb p1 p2 p3 p4 p5 p6
    rcases cut_cases y [45] with e2 | ⟨b, t, e2, hy⟩
    · rw [e2] at p5
      simp only [] at p5
      have e3 : (ans []).1 = 0 := by rw [ans_no (fun h => by have := h.len.1; simp [body] at this)]
      omega
    · rw [e2] at h hr hb p3 p4 p5 p6
      simp only [] at h hr hb p3 p4 p5 p6
      obtain ⟨x2, xd⟩ := ans_pos (p := x) (by omega)
      obtain ⟨b2, bd⟩ := ans_pos (p := b) (by omega)
      obtain ⟨t2, td⟩ := ans_pos (p := t) (by omega)
      have hy32 : (32 : UInt8) ∉ y := by
        rw [hy]
        intro e
        rcases List.mem_append.1 e with e | e
        · exact no_dig bd not32 e
        · rcases List.mem_append.1 e with e | e
          · simp at e
          · exact no_dig td not32 e
      have s1 : split 32 l = [x, [109, 109], y] := by
        rw [hl, show x ++ ([32, 109, 109, 32] ++ y) = x ++ 32 :: ([109, 109] ++ 32 :: y) by simp, split_yes (no_dig xd not32), split_yes (by decide), split_no hy32]
      have s2 : split 45 y = [b, t] := by
        rw [hy, show b ++ ([45] ++ t) = b ++ 45 :: t by simp, split_yes (no_dig bd not45), split_no (no_dig td not45)]
      unfold readR
      rw [s1]
      simp only []
      rw [if_pos trivial, s2]
      simp only []
      rw [if_pos ⟨x2, b2, t2⟩]
      exact h
theorem read_same (l : List UInt8) : readR l = readI l := by
  cases h : readR l with
  | some r => exact (readR_some h).symm
  | none =>
    cases h2 : readI l with
    | none => rfl
    | some r => rw [readI_some h2] at h; cases h

end Go.Proofs.YtobohjfenjeckabDoor.num
