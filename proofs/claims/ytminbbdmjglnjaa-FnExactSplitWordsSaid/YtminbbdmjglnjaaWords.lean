/-
  The words of a text: the model's.
-/
import Derived.Test.YtminbbdmjglnjaaSplit
import Derived.Handy
import Derived.Lib.Hide
namespace Go.Proofs.Ytminbbdmjglnjaa.split
open Go.ChangeShapes Go.WideShapes Go.ChangeAt Go.RowKit
open Go.Proofs.Ytminbbdmjglnjaa.mem
set_option linter.unusedVariables false

theorem owns_parts {w : World} {B : Nat} {E : TypeId} {v : Value} {ps : List (List UInt8)} (h : w.ownsRow B E 1 v ps.length (ps.map strV)) (hne : ps ≠ []) :
    ∃ g cap, v = .slice (some ⟨g, 0, none⟩) ps.length cap ∧ B ≤ g ∧ g < w.heap.size ∧ ps.length ≤ cap ∧ cap ≤ maxLen ∧ ∀ j p, ps[j]? = some p → w.cell? ⟨g, j, none⟩ = some (.string ⟨p.toArray⟩) := by
  obtain ⟨hl, h⟩ := h
  rcases h with ⟨rfl, h0⟩ | ⟨g, cap, cur, rfl, hB, hh, hc, hm, hs, ht⟩
  · exact absurd (List.eq_nil_of_length_eq_zero h0) hne
  · refine ⟨g, cap, rfl, hB, ?_, hc, hm, fun j p hj => ?_⟩
    · obtain ⟨hlt, _⟩ := Array.getElem?_eq_some_iff.1 hh
      exact hlt
    · have hj1 : j < ps.length := (List.getElem?_eq_some_iff.1 hj).1
      have e2 : cur.toList[j]? = (cur.toList.take (ps.length * 1))[j]? := by rw [List.getElem?_take_of_lt (by omega)]
      have e3 : cur[j]? = some (strV p) := by
        rw [← Array.getElem?_toList, e2, ht, List.getElem?_map, hj]
        rfl
      simp [World.cell?, hh, e3]
      rfl
theorem split_32 (s : ByteArray) (hs : s.size ≤ 1048576) (w : World) :
    Calls Try.prog 93 #[.string s, .int .u8 32] w fun e w' => ∃ g cap, e = .returned (.slice (some ⟨g, 0, none⟩) (split 32 s.data.toList).length cap) ∧ g < w'.heap.size ∧ (split 32 s.data.toList).length ≤ cap ∧ cap ≤ maxLen ∧ (∀ j p, (split 32 s.data.toList)[j]? = some p → w'.cell? ⟨g, j, none⟩ = some (.string ⟨p.toArray⟩)) ∧ Below w.heap.size w w' :=
  (split_s s 32 hs w).mono fun e w' ⟨v, he, ho, hb⟩ => by
    obtain ⟨g, cap, rfl, _, hg, hc, hm, hcell⟩ := owns_parts ho (splitA_ne _ _ _)
    exact ⟨g, cap, he, hg, hc, hm, hcell, hb⟩

theorem split_count (d : UInt8) (l : List UInt8) : ∀ cur, (splitA d cur l).length ≤ l.length + 1 := by
  induction l with
  | nil => intro cur; simp [splitA]
  | cons c r ih =>
    intro cur
    rw [splitA]
    split
    · have := ih []
      simp only [List.length_cons]
      omega
    · have := ih (cur ++ [c])
      simp only [List.length_cons]
      omega
def full (p : List UInt8) : Bool := !p.isEmpty
/-- the words of a text: the parts between blanks that are not empty -/
def words (l : List UInt8) : List (List UInt8) := (split 32 l).filter full
theorem full_yes {ps : List (List UInt8)} {k : Nat} {p : List UInt8} (hp : ps[k]? = some p) (h : full p = true) : (ps.take (k + 1)).filter full = (ps.take k).filter full ++ [p] := by
  rw [List.take_add_one, hp, List.filter_append]
  simp [h]
theorem full_no {ps : List (List UInt8)} {k : Nat} {p : List UInt8} (hp : ps[k]? = some p) (h : full p = false) : (ps.take (k + 1)).filter full = (ps.take k).filter full := by
  rw [List.take_add_one, hp, List.filter_append]
  simp [h]
theorem full_len (ps : List (List UInt8)) (k : Nat) : ((ps.take k).filter full).length ≤ ps.length :=
  Nat.le_trans (List.length_filter_le _ _) (by rw [List.length_take]; omega)
theorem owns_lower {w : World} {B B' n size : Nat} {E : TypeId} {v : Value} {xs : List Value} (h : w.ownsRow B E size v n xs) (hb : B' ≤ B) : w.ownsRow B' E size v n xs := by
  obtain ⟨hl, h⟩ := h
  rcases h with h | ⟨g, cap, cur, e, hB, r⟩
  · exact ⟨hl, .inl h⟩
  · exact ⟨hl, .inr ⟨g, cap, cur, e, Nat.le_trans hb hB, r⟩⟩

set_option maxHeartbeats 4000000 in
set_option maxRecDepth 100000 in
theorem words_s (s : ByteArray) (hs : s.size ≤ 1048576) (w : World) :
    Calls Try.prog 47 #[.string s] w fun e w' => ∃ v, e = .returned v ∧ w'.ownsRow w.heap.size 9 1 v (words s.data.toList).length ((words s.data.toList).map strV) ∧ Below w.heap.size w w' := by
  obtain ⟨i0, hi0, hz0, hz1, hz2⟩ := info_parts info_str
  have HS := Lib.hid (fun W => split_32 s hs W)
  have hcnt : (split 32 s.data.toList).length ≤ 1048577 := by
    have := split_count 32 s.data.toList []
    rw [size_len] at this
    unfold split
    omega
  unfold words
  generalize split 32 s.data.toList = ps at *
  go_enter Try.func47, Try.ntmps47
  go_wp2_with fail
  refine (HS.out _).mono ?_
  rintro e w1 ⟨g, cap, rfl, hg, hc, hm, hcell, hb⟩
  have x1 := hb.size
  have B1 : Below w.heap.size w w1 := hb
  have HC := Lib.hid hcell
  clear hb hcell HS
  go_wp2_with fail
  go_loopw [5, 4] (fun i v wr => ∃ k : Nat, k ≤ ps.length ∧ i = .int .i64 (k : Int) ∧ Hid (wr.ownsRow w1.heap.size 9 1 v ((ps.take k).filter full).length (((ps.take k).filter full).map strV)) ∧ Below w1.heap.size w1 wr) (fun i _ _ => ps.length - (intOf i).toNat)
  case atStart => exact ⟨0, by omega, rfl, owns_mt w1 w1.heap.size 9 (Nat.le_refl _), (Below.refl _ _).alloc (Nat.le_refl _) _⟩
  case round =>
    rename_i v wr
    obtain ⟨k, hk, rfl, hown, hbl⟩ := hrel
    have HB := Lib.hid hbl
    have hzz := hbl.size
    clear hbl
    by_cases hlt : k < ps.length
    · have hlt' : (k : Int) < (ps.length : Int) := by omega
      obtain ⟨p, hp⟩ : ∃ p, ps[k]? = some p := ⟨_, List.getElem?_eq_getElem hlt⟩
      obtain ⟨R, hR⟩ : ∃ R : ByteArray, R = ⟨p.toArray⟩ := ⟨_, rfl⟩
      have h0 : wr.cell? ⟨g, k, none⟩ = some (.string R) := by
        rw [hR, HB.out.cell (p := ⟨g, k, none⟩) hg]
        exact HC.out k p hp
      have hRl : R.toList = p := by rw [hR, ByteArray.toList_eq]
      have HQ : Hid (strV p = .string R) := by rw [hR]; rfl
      cases hf : full p
      · have hpe : p = [] := by unfold full at hf; simpa using hf
        have e1 : R.toList = [] := by rw [hRl, hpe]
        have e2 : R.toList.isEmpty = true := by rw [e1]; rfl
        have hinv := full_no hp hf
        have HI := Lib.hid hinv
        clear hinv hp hf hR hRl hpe
        go_wp2
        go_roundw
        case rel => exact ⟨k + 1, by omega, by go_num, by rw [Hid, HI.out]; exact hown.out, HB.out⟩
        case measure => simp [intOf]; omega
      · have hpe : ¬ p = [] := by unfold full at hf; simpa using hf
        have e1 : ¬ R.toList = [] := by rw [hRl]; exact hpe
        have e2 : R.toList.isEmpty = false := by simpa using e1
        have hinv := full_yes hp hf
        have HI := Lib.hid hinv
        have hfl := full_len ps k
        have hl1 : ((ps.take k).filter full).length + 1 ≤ maxLen := by unfold maxLen; omega
        have hl2 : (((ps.take k).filter full).length + 1) * 16 ≤ 140737488355328 := by omega
        clear hinv hp hf hR hRl hpe hfl
        generalize hL : (ps.take k).filter full = l at *
        clear hL
        go_wp2_with (first
          | (at_builtin; refine wpList_append_own _ rfl _ _ 62 rfl w1.heap.size 9 i0 (.string ByteArray.empty) 1 16 Try.underlying62 hi0 hz0 hz1 hz2 rfl (by decide) _ _ _ rfl (hown.out.alloc _) ⟨wr.heap.size, 0, none⟩ 1 1 [.string R] rfl rfl ?c1 ?c2 hl1 hl2 ?c5 ?_))
        case c1 => intro j u hj; rcases j with _ | j <;> simp at hj; subst hj; go_simp
        case c2 => intro u hu; simp at hu; subst hu; rfl
        case c5 => simp; omega
        intro v' w2 hown1 hgrow1 _
        have g1 : Below w1.heap.size w1 w2 := Below.grown (HB.out.alloc hzz _) hgrow1 (by simp; omega) (owns_block hown.out)
        rw [← HQ.out] at hown1
        have HO := Lib.hid (owns_sn hown1)
        clear hown1 hgrow1
        go_wp2
        go_roundw
        case rel => exact ⟨k + 1, by omega, by go_num, by rw [Hid, HI.out]; exact HO.out, g1⟩
        case measure => simp [intOf]; omega
    · obtain rfl : k = ps.length := by omega
      have hown2 := hown.out
      rw [List.take_length] at hown2
      have HO := Lib.hid (owns_lower hown2 x1)
      clear hown2
      go_wp2
      go_ret
      exact ⟨_, rfl, HO.out, B1.trans (HB.out.mono x1)⟩

end Go.Proofs.Ytminbbdmjglnjaa.split
