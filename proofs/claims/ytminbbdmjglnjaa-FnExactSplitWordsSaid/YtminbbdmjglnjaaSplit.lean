/-
  The model's cutting of a text at a byte.
-/
import Derived.Test.YtminbbdmjglnjaaAppend
import Derived.Laws.Strings2
import Derived.Laws.Strings3
import Derived.Lib.Strings
namespace Go.Proofs.Ytminbbdmjglnjaa.split
open Go.ChangeShapes Go.WideShapes Go.ChangeAt Go.RowKit
open Go.Proofs.Ytminbbdmjglnjaa.mem
set_option linter.unusedVariables false

/-- the parts of l between the bytes d; cur was read of the first part -/
def splitA (d : UInt8) (cur : List UInt8) : List UInt8 → List (List UInt8)
  | [] => [cur]
  | c :: r => if c = d then cur :: splitA d [] r else splitA d (cur ++ [c]) r
def split (d : UInt8) (l : List UInt8) : List (List UInt8) := splitA d [] l
def strV (p : List UInt8) : Value := .string ⟨p.toArray⟩
theorem getB (s : ByteArray) (k : Nat) (h : k < s.size) : s.data.toList[k]? = some (s[k]'h) := by
  have h' : k < s.data.size := h
  rw [Array.getElem?_toList, Array.getElem?_eq_getElem h']
  rfl
theorem size_len (s : ByteArray) : s.data.toList.length = s.size := by
  show s.data.toList.length = s.data.size
  exact Array.length_toList
theorem drop_at (s : ByteArray) (k : Nat) (h : k < s.size) : s.data.toList.drop k = (s[k]'h) :: s.data.toList.drop (k + 1) := by
  have hl : k < s.data.toList.length := by rw [size_len]; exact h
  rw [List.drop_eq_getElem_cons hl]
  have := getB s k h
  rw [List.getElem?_eq_getElem hl] at this
  rw [Option.some.inj this]
theorem take_at (s : ByteArray) (f k : Nat) (hf : f ≤ k) (h : k < s.size) : (s.data.toList.drop f).take (k + 1 - f) = (s.data.toList.drop f).take (k - f) ++ [s[k]'h] := by
  rw [show k + 1 - f = (k - f) + 1 by omega, List.take_add_one, List.getElem?_drop, show f + (k - f) = k by omega, getB s k h]
  rfl
theorem extract_eq (s : ByteArray) (a b : Nat) : s.extract a b = ⟨((s.data.toList.drop a).take (b - a)).toArray⟩ := by
  apply ByteArray.ext
  apply Array.ext'
  rw [Lib.extract_data]
theorem info_str : (Try.prog.info? 9).map (fun i => (i.zero, i.size, i.bytes)) = some (some (.string ByteArray.empty), 1, 16) := by kernel_rfl
theorem splitA_ne (d : UInt8) (l : List UInt8) : ∀ cur, splitA d cur l ≠ [] := by
  induction l with
  | nil => intro cur h; cases h
  | cons c r ih =>
    intro cur
    unfold splitA
    split
    · intro h; cases h
    · exact ih _
theorem owns_mt (w : World) (B : Nat) (E : TypeId) (hB : B ≤ w.heap.size) : (w.alloc (Obj.cells #[] E)).ownsRow B E 1 (.slice (some ⟨w.heap.size, 0, none⟩) 0 0) 0 (([] : List (List UInt8)).map strV) :=
  ⟨rfl, .inr ⟨w.heap.size, 0, #[], rfl, hB, Go.Deep.blk_alloc_new _ _, Nat.le_refl _, by unfold maxLen; omega, rfl, rfl⟩⟩
theorem owns_sn {w : World} {B : Nat} {E : TypeId} {v : Value} {l : List (List UInt8)} {k : List UInt8} (h : w.ownsRow B E 1 v (l.length + 1) (l.map strV ++ [strV k])) :
    w.ownsRow B E 1 v (l ++ [k]).length ((l ++ [k]).map strV) := by
  simpa using h

set_option maxHeartbeats 4000000 in
set_option maxRecDepth 100000 in
theorem split_s (s : ByteArray) (d : UInt8) (hs : s.size ≤ 1048576) (w : World) :
    Calls Try.prog 93 #[.string s, .int .u8 (d.toNat : Int)] w fun e w' => ∃ v, e = .returned v ∧ w'.ownsRow w.heap.size 9 1 v (split d s.data.toList).length ((split d s.data.toList).map strV) ∧ Below w.heap.size w w' := by
  obtain ⟨i0, hi0, hz0, hz1, hz2⟩ := info_parts info_str
  go_enter Try.func93, Try.ntmps93
  go_wp2_with fail
  go_loopw [7, 6, 5] (fun i f v wr => ∃ (k fr : Nat) (out : List (List UInt8)), k ≤ s.size ∧ fr ≤ k ∧ i = .int .i64 (k : Int) ∧ f = .int .i64 (fr : Int) ∧ out.length ≤ k ∧ Hid (out ++ splitA d ((s.data.toList.drop fr).take (k - fr)) (s.data.toList.drop k) = split d s.data.toList) ∧ Hid (wr.ownsRow w.heap.size 9 1 v out.length (out.map strV)) ∧ Below w.heap.size w wr) (fun i _ _ _ => s.size - (intOf i).toNat)
  case atStart => exact ⟨0, 0, [], by omega, Nat.le_refl _, rfl, rfl, Nat.le_refl _, rfl, owns_mt w w.heap.size 9 (Nat.le_refl _), (Below.refl _ _).alloc (Nat.le_refl _) _⟩
  case round =>
    rename_i v wr
    obtain ⟨k, fr, out, hk, hfk, rfl, rfl, hlen, hinv, hown, hbl⟩ := hrel
    have HB := Lib.hid hbl
    have hzz := hbl.size
    clear hbl
    have hl1 : out.length + 1 ≤ maxLen := by unfold maxLen; omega
    have hl2 : (out.length + 1) * 16 ≤ 140737488355328 := by omega
    have hfs : fr ≤ s.size := by omega
    by_cases hlt : k < s.size
    · have hlt' : (k : Int) < (s.size : Int) := by omega
      by_cases hd : s[k] = d
      · have hd1 : (((s[k]'hlt).toNat : Int) == (d.toNat : Int)) = true := by rw [hd]; simp
        have hsl : ∀ W : World, (Instr.slice 9 (.string s) (some (.int .i64 (fr : Int))) (some (.int .i64 (k : Int))) none).run Try.prog W = .ok (strV ((s.data.toList.drop fr).take (k - fr))) W := fun W => by
          rw [run_slice_string W 9 s .i64 .i64 (fr : Int) (k : Int) Try.underlying9 (by omega) (by omega) (by omega)]
          rw [Int.toNat_natCast, Int.toNat_natCast, extract_eq]
          rfl
        have hinv1 : (out ++ [(s.data.toList.drop fr).take (k - fr)]) ++ splitA d ((s.data.toList.drop (k + 1)).take (k + 1 - (k + 1))) (s.data.toList.drop (k + 1)) = split d s.data.toList := by
          rw [← hinv.out, drop_at s k hlt, splitA, if_pos hd]
          simp
        have HI := Lib.hid hinv1
        clear hinv1 hinv
        obtain ⟨P, hP⟩ : ∃ P, P = (s.data.toList.drop fr).take (k - fr) := ⟨_, rfl⟩
        rw [← hP] at hsl HI
        clear hP
        obtain ⟨R, hR⟩ : ∃ R : ByteArray, R = ⟨P.toArray⟩ := ⟨_, rfl⟩
        rw [show strV P = .string R by rw [hR]; rfl] at hsl
        have HQ : Hid (strV P = .string R) := by rw [hR]; rfl
        clear hR hd
        go_wp2_with (first
          | (at_builtin; refine wpList_append_own _ rfl _ _ 62 rfl w.heap.size 9 i0 (.string ByteArray.empty) 1 16 Try.underlying62 hi0 hz0 hz1 hz2 rfl (by decide) _ _ _ rfl (hown.out.alloc _) ⟨wr.heap.size, 0, none⟩ 1 1 [.string R] rfl rfl ?c1 ?c2 hl1 hl2 ?c5 ?_))
        case c1 => intro j u hj; rcases j with _ | j <;> simp at hj; subst hj; go_simp
        case c2 => intro u hu; simp at hu; subst hu; rfl
        case c5 => simp; omega
        intro v' w1 hown1 hgrow1 _
        have g1 : Below w.heap.size w w1 := Below.grown (HB.out.alloc hzz _) hgrow1 (by simp; omega) (owns_block hown.out)
        rw [← HQ.out] at hown1
        have HO := Lib.hid (owns_sn hown1)
        clear hown1 hgrow1
        go_wp2
        go_roundw
        case rel => exact ⟨k + 1, k + 1, out ++ [P], by omega, Nat.le_refl _, by go_num, by go_num, by simp; omega, HI.out, HO.out, g1⟩
        case measure => simp [intOf]; omega
      · have hd1 : (((s[k]'hlt).toNat : Int) == (d.toNat : Int)) = false := by
          simp
          intro h
          exact hd (UInt8.toNat_inj.1 (by omega))
        have hinv1 : out ++ splitA d ((s.data.toList.drop fr).take (k + 1 - fr)) (s.data.toList.drop (k + 1)) = split d s.data.toList := by
          rw [← hinv.out, drop_at s k hlt, splitA, if_neg hd, take_at s fr k hfk hlt]
        have HI := Lib.hid hinv1
        clear hinv1 hinv hd
        go_wp2
        go_roundw
        case rel => exact ⟨k + 1, fr, out, by omega, by omega, by go_num, rfl, by omega, HI.out, hown.out, HB.out⟩
        case measure => simp [intOf]; omega
    · obtain rfl : k = s.size := by omega
      have hsl : ∀ W : World, (Instr.slice 9 (.string s) (some (.int .i64 (fr : Int))) none none).run Try.prog W = .ok (strV ((s.data.toList.drop fr).take (s.size - fr))) W := fun W => by
        rw [run_slice_string_from_if W 9 s .i64 (fr : Int) Try.underlying9, if_pos (by omega), Int.toNat_natCast, extract_eq]
        rfl
      have hinv1 : out ++ [(s.data.toList.drop fr).take (s.size - fr)] = split d s.data.toList := by
        rw [← hinv.out, List.drop_of_length_le (i := s.size) (by rw [size_len]; exact Nat.le_refl _), splitA]
      have HI := Lib.hid hinv1
      clear hinv1 hinv
      obtain ⟨P, hP⟩ : ∃ P, P = (s.data.toList.drop fr).take (s.size - fr) := ⟨_, rfl⟩
      rw [← hP] at hsl HI
      clear hP
      obtain ⟨R, hR⟩ : ∃ R : ByteArray, R = ⟨P.toArray⟩ := ⟨_, rfl⟩
      rw [show strV P = .string R by rw [hR]; rfl] at hsl
      have HQ : Hid (strV P = .string R) := by rw [hR]; rfl
      clear hR
      go_wp2_with (first
        | (at_builtin; refine wpList_append_own _ rfl _ _ 62 rfl w.heap.size 9 i0 (.string ByteArray.empty) 1 16 Try.underlying62 hi0 hz0 hz1 hz2 rfl (by decide) _ _ _ rfl (hown.out.alloc _) ⟨wr.heap.size, 0, none⟩ 1 1 [.string R] rfl rfl ?c1 ?c2 hl1 hl2 ?c5 ?_))
      case c1 => intro j u hj; rcases j with _ | j <;> simp at hj; subst hj; go_simp
      case c2 => intro u hu; simp at hu; subst hu; rfl
      case c5 => simp; omega
      intro v' w1 hown1 hgrow1 _
      have g1 : Below w.heap.size w w1 := Below.grown (HB.out.alloc hzz _) hgrow1 (by simp; omega) (owns_block hown.out)
      rw [← HQ.out] at hown1
      have HO := Lib.hid (owns_sn hown1)
      clear hown1 hgrow1
      go_wp2
      go_ret
      exact ⟨_, rfl, by rw [← HI.out]; exact HO.out, g1⟩

end Go.Proofs.Ytminbbdmjglnjaa.split
