/-
  Contracts of ValidStroke, of the model's and of the program's.
-/
import Derived.Test.YtakcgeafcecimaaDoorIn
import Derived.Test.YtakcgeafcecimaaDoorWv
import Derived.Test.YtakcgeafcecimaaDoorShelf
import Derived.Shelf.Strings.SlTrimAscii
namespace Go.Proofs.YtakcgeafcecimaaDoor.wk
open Go.ChangeShapes Go.WideShapes Go.ChangeAt Go.RowKit
open Go.Proofs.YtakcgeafcecimaaDoor.mem Go.Proofs.YtakcgeafcecimaaDoor.rod Go.Proofs.YtakcgeafcecimaaDoor.wv
set_option linter.unusedVariables false

/-- the byte at place i, as a number; 0 behind the end -/
def byteAt (s : ByteArray) (i : Nat) : Int := if h : i < s.size then ((s[i]'h).toNat : Int) else 0
theorem byteAt_eq {s : ByteArray} {i : Nat} (h : i < s.size) : byteAt s i = ((s[i]'h).toNat : Int) := dif_pos h
def fb (c : Int) : Bool := decide (c = 70) || decide (c = 66)
def okTo (s : ByteArray) : Nat → Bool
  | 0 => true
  | k + 1 => okTo s k && fb (byteAt s k)
theorem okTo_iff (s : ByteArray) (k : Nat) : okTo s k = true ↔ ∀ i, i < k → fb (byteAt s i) = true := by
  induction k with
  | zero => exact ⟨fun _ i h => absurd h (by omega), fun _ => rfl⟩
  | succ k ih =>
    simp only [okTo, Bool.and_eq_true, ih]
    constructor
    · rintro ⟨h1, h2⟩ i hi
      by_cases e : i = k
      · rw [e]; exact h2
      · exact h1 i (by omega)
    · exact fun h => ⟨fun i hi => h i (by omega), h k (by omega)⟩
theorem okTo_no {s : ByteArray} {k i : Nat} (hi : i < k) (h : fb (byteAt s i) = false) : okTo s k = false := by
  cases e : okTo s k
  · rfl
  · rw [(okTo_iff s k).1 e i hi] at h; cases h
/-- a stroke -/
def strokeB (s : ByteArray) : Bool := okTo s s.size && inB s.size 1 12
theorem stroke_of {s : ByteArray} (h : strokeB s = true) : 0 < s.size ∧ s.size ≤ 12 ∧ ∀ i, i < s.size → byteAt s i = 70 ∨ byteAt s i = 66 := by
  unfold strokeB at h
  simp only [Bool.and_eq_true] at h
  have h2 := inB_of h.2
  refine ⟨by omega, by omega, fun i hi => ?_⟩
  have := (okTo_iff s s.size).1 h.1 i hi
  unfold fb at this
  simpa using this

set_option maxHeartbeats 2000000 in
theorem ok_s (s : ByteArray) (w : World) (hs : s.size ≤ 1048576) :
    Calls Tryd.prog 14 #[.string s] w fun e w' => e = .returned (.bool (strokeB s)) ∧ w = w' := by
  go_enter Tryd.func14, Tryd.ntmps14
  go_wp2_with fail
  go_loop [3] (fun i => ∃ k : Nat, k ≤ s.size ∧ i = .int .i64 (k : Int) ∧ Hid (okTo s k = true)) (fun i => s.size - (intOf i).toNat)
  case atStart => exact ⟨0, by omega, rfl, Lib.hid rfl⟩
  case round =>
    obtain ⟨k, hk, rfl, hok⟩ := hrel
    by_cases hlt : k < s.size
    · have hlt' : (k : Int) < (s.size : Int) := by omega
      have hk0 : (0 : Int) ≤ (k : Int) := by omega
      by_cases h70 : byteAt s k = 70
      · have hn : Hid (okTo s (k + 1) = true) := Lib.hid (by simp only [okTo, hok.out, h70]; rfl)
        rw [byteAt_eq hlt] at h70
        have e1 : (((s[k]'hlt).toNat : Int) == 70) = true := by rw [h70]; rfl
        have e2 : (((s[k]'hlt).toNat : Int) != 70) = false := by rw [bne, e1]; rfl
        clear h70
        go_wp2
        go_round
        case rel => exact ⟨k + 1, by omega, by go_num, hn⟩
        case measure => simp [intOf]; omega
      · by_cases h66 : byteAt s k = 66
        · have hn : Hid (okTo s (k + 1) = true) := Lib.hid (by simp only [okTo, hok.out, h66]; rfl)
          rw [byteAt_eq hlt] at h66
          have e1 : (((s[k]'hlt).toNat : Int) == 70) = false := by rw [h66]; rfl
          have e2 : (((s[k]'hlt).toNat : Int) != 70) = true := by rw [bne, e1]; rfl
          have e3 : (((s[k]'hlt).toNat : Int) == 66) = true := by rw [h66]; rfl
          have e4 : (((s[k]'hlt).toNat : Int) != 66) = false := by rw [bne, e3]; rfl
          clear h66 h70
          go_wp2
          go_round
          case rel => exact ⟨k + 1, by omega, by go_num, hn⟩
          case measure => simp [intOf]; omega
        · have hf : strokeB s = false := by
            unfold strokeB
            rw [okTo_no hlt (by unfold fb; rw [decide_eq_false h70, decide_eq_false h66]; rfl)]; rfl
          have HF := Lib.hid hf
          rw [byteAt_eq hlt] at h70 h66
          have e1 : (((s[k]'hlt).toNat : Int) == 70) = false := by simpa using h70
          have e2 : (((s[k]'hlt).toNat : Int) != 70) = true := by rw [bne, e1]; rfl
          have e3 : (((s[k]'hlt).toNat : Int) == 66) = false := by simpa using h66
          have e4 : (((s[k]'hlt).toNat : Int) != 66) = true := by rw [bne, e3]; rfl
          clear h66 h70 hf
          go_wp2
          go_ret
          exact ⟨by rw [HF.out]; rfl, rfl⟩
    · obtain rfl : k = s.size := by omega
      have hf : strokeB s = inB s.size 1 12 := by unfold strokeB; rw [hok.out]; rfl
      have HF := Lib.hid hf
      clear hf
      go_wp2_with (go_at_call 15; refine (in_s _ _ _ _).mono ?_; rintro e w' ⟨rfl, rfl⟩)
      go_ret
      exact ⟨by rw [HF.out]; rfl, rfl⟩

theorem ok_sB (s : ByteArray) (w : World) (hs : s.size ≤ 1048576) :
    Calls Tryd.prog 14 #[.string s] w fun e w' => e = .returned (.bool (strokeB s)) ∧ Below w.heap.size w w' :=
  (ok_s s w hs).mono fun _ _ ⟨p, q⟩ => ⟨p, by rw [← q]; exact Below.refl _ _⟩
theorem dw_nil {α : Type} (p : α → Bool) (l : List α) : l.dropWhile p = [] ↔ ∀ x ∈ l, p x = true := by
  induction l with
  | nil => simp
  | cons a r ih =>
    rw [List.dropWhile_cons]
    cases h : p a
    · simp [h]
    · simp [ih, h]
theorem dw_head {α : Type} (p : α → Bool) (l : List α) {a : α} {r : List α} (h : l.dropWhile p = a :: r) : p a = false := by
  induction l with
  | nil => cases h
  | cons b t ih =>
    rw [List.dropWhile_cons] at h
    split at h
    · exact ih h
    · rename_i hb
      cases h
      simpa using hb
theorem trim_nil (l : List UInt8) : Lib.trimS l [70, 66] = [] ↔ ∀ c ∈ l, c = 70 ∨ c = 66 := by
  have hp : ∀ c : UInt8, ([70, 66] : List UInt8).contains c = true ↔ (c = 70 ∨ c = 66) := fun c => by simp
  unfold Lib.trimS Lib.trimLeftS
  rw [dw_nil]
  constructor
  · intro h
    have h1 : Lib.trimRightS l [70, 66] = [] := by
      cases hd : l.reverse.dropWhile (([70, 66] : List UInt8).contains ·) with
      | nil => unfold Lib.trimRightS; rw [hd]; rfl
      | cons a r =>
        have h2 := dw_head _ _ hd
        have h3 := h a (by unfold Lib.trimRightS; rw [hd]; simp)
        rw [h3] at h2
        cases h2
    unfold Lib.trimRightS at h1
    have h2 := (dw_nil _ _).1 (List.reverse_eq_nil_iff.1 h1)
    intro c hc
    exact (hp c).1 (h2 c (List.mem_reverse.2 hc))
  · intro h c hc
    refine (hp c).2 (h c ?_)
    unfold Lib.trimRightS at hc
    exact List.mem_reverse.1 ((List.dropWhile_sublist _).subset (List.mem_reverse.1 hc))
theorem ok_mem (s : ByteArray) : okTo s s.size = true ↔ ∀ c ∈ s.data.toList, c = 70 ∨ c = 66 := by
  rw [okTo_iff]
  have key : ∀ i (h : i < s.size), (fb (byteAt s i) = true ↔ (s[i]'h = 70 ∨ s[i]'h = 66)) := fun i h => by
    rw [byteAt_eq h]
    unfold fb
    rw [Bool.or_eq_true, decide_eq_true_eq, decide_eq_true_eq]
    have c1 : ((s[i]'h).toNat : Int) = 70 ↔ s[i]'h = 70 := ⟨fun e => UInt8.toNat_inj.1 (by show _ = 70; omega), fun e => by rw [e]; rfl⟩
    have c2 : ((s[i]'h).toNat : Int) = 66 ↔ s[i]'h = 66 := ⟨fun e => UInt8.toNat_inj.1 (by show _ = 66; omega), fun e => by rw [e]; rfl⟩
    rw [c1, c2]
  constructor
  · intro h c hc
    obtain ⟨i, hi, rfl⟩ := List.getElem_of_mem hc
    have hi' : i < s.size := by simpa using hi
    exact (key i hi').1 (h i hi')
  · intro h i hi
    exact (key i hi).2 (h _ (List.getElem_mem (l := s.data.toList) (by simpa using hi)))

theorem trim_i (s : ByteArray) (w : World) (hs : s.size ≤ 1048576) :
    Calls Tryd.prog 33 #[.string s, .string ⟨#[70, 66]⟩] w fun e w' => e = .returned (.string ⟨(Lib.trimS s.data.toList [70, 66]).toArray⟩) ∧ Below w.heap.size w w' :=
  Any.strings_Trim_laid Tryd.lays160 (by kernel_rfl) s ⟨#[70, 66]⟩ w (by omega) (by decide) (ascii_of_all (by decide))

theorem trim_r (s R : ByteArray) (hR : R = ⟨(Lib.trimS s.data.toList [70, 66]).toArray⟩) (hs : s.size ≤ 1048576) (w : World) :
    Calls Tryd.prog 33 #[.string s, .string ⟨#[70, 66]⟩] w fun e w' => e = .returned (.string R) ∧ Below w.heap.size w w' := by rw [hR]; exact trim_i s w hs

set_option maxHeartbeats 1000000 in
theorem valid_i (s : ByteArray) (w : World) (hs : s.size ≤ 1048576) :
    Calls Tryd.prog 18 #[.string s] w fun e w' => e = .returned (.bool (strokeB s)) ∧ Below w.heap.size w w' := by
  cases h : inB s.size 1 12
  · have hf : strokeB s = false := by unfold strokeB; rw [h]; simp
    have HF := Lib.hid hf
    have H := Lib.hid h
    clear h hf
    go_enter Tryd.func18, Tryd.ntmps18
    go_wp2_with (go_at_call 19; refine (in_i _ _ _ _).mono ?_; rintro e w' ⟨rfl, rfl⟩; have H' := H.out; clear H)
    go_ret
    exact ⟨by rw [HF.out]; rfl, Below.refl _ _⟩
  · obtain ⟨R, hR⟩ : ∃ R : ByteArray, R = ⟨(Lib.trimS s.data.toList [70, 66]).toArray⟩ := ⟨_, rfl⟩
    have HT := Lib.hid (trim_r s R hR hs)
    have hRl : R.toList = Lib.trimS s.data.toList [70, 66] := by rw [hR, ByteArray.toList_eq]
    cases ho : okTo s s.size
    · have hf : strokeB s = false := by unfold strokeB; rw [ho]; rfl
      have hne : R.toList ≠ [] := by
        rw [hRl]
        intro e
        rw [(ok_mem s).2 ((trim_nil _).1 e)] at ho
        cases ho
      have e1 : R.toList.isEmpty = false := by cases hh : R.toList with
        | nil => exact absurd hh hne
        | cons a l => rfl
      have HF := Lib.hid hf
      have H := Lib.hid h
      clear h hf hR hRl ho
      go_enter Tryd.func18, Tryd.ntmps18
      go_wp2_with (first
        | (go_at_call 19; refine (in_i _ _ _ _).mono ?_; rintro e w' ⟨rfl, rfl⟩; have H' := H.out; clear H)
        | (go_at_call 33; refine (HT.out _).mono ?_; rintro e w1 ⟨rfl, hb⟩))
      go_ret
      exact ⟨by rw [HF.out]; rfl, hb⟩
    · have hf : strokeB s = true := by unfold strokeB; rw [ho, h]; rfl
      have he : R.toList = [] := by rw [hRl]; exact (trim_nil _).2 ((ok_mem s).1 ho)
      have e1 : R.toList.isEmpty = true := by rw [he]; rfl
      have HF := Lib.hid hf
      have H := Lib.hid h
      clear h hf hR hRl ho
      go_enter Tryd.func18, Tryd.ntmps18
      go_wp2_with (first
        | (go_at_call 19; refine (in_i _ _ _ _).mono ?_; rintro e w' ⟨rfl, rfl⟩; have H' := H.out; clear H)
        | (go_at_call 33; refine (HT.out _).mono ?_; rintro e w1 ⟨rfl, hb⟩))
      go_ret
      exact ⟨by rw [HF.out]; rfl, hb⟩

end Go.Proofs.YtakcgeafcecimaaDoor.wk
