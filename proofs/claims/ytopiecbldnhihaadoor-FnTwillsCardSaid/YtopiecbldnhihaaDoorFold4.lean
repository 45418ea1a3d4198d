/-
  Contracts of ValidStroke, of the model's and of the program's.
  Contracts: the code of a stroke and stakes, a weave, its places, after how many rounds it begins again; of the model and of the program.
  Contracts: the longest run of a text that is repeated, of the model and of the program.
-/
import Derived.Test.YtopiecbldnhihaaDoorFold2
import Derived.Test.YtopiecbldnhihaaDoorWv
import Derived.Test.YtopiecbldnhihaaDoorShelf
import Derived.Shelf.Strings.SlTrimAscii
import Derived.Laws.RangeString
import Derived.Laws.RangeAny
namespace Go.Proofs.YtopiecbldnhihaaDoor.wk
open Go.ChangeShapes Go.WideShapes Go.ChangeAt Go.RowKit
open Go.Proofs.YtopiecbldnhihaaDoor.mem Go.Proofs.YtopiecbldnhihaaDoor.rod Go.Proofs.YtopiecbldnhihaaDoor.wv
set_option linter.unusedVariables false

/-- the byte at place i, as a number; 0 behind the end -/
def byteAt (s : ByteArray) (i : Nat) : Int := if h : i < s.size then ((s[i]'h).toNat : Int) else 0
theorem byteAt_eq {s : ByteArray} {i : Nat} (h : i < s.size) : byteAt s i = ((s[i]'h).toNat : Int) := dif_pos h
def fb (c : Int) : Bool := decide (c = 70) || decide (c = 66)
def okTo (s : ByteArray) : Nat → Bool
  | 0 => true
  | k + 1 => okTo s k && fb (byteAt s k)
theorem okTo_iff (s : ByteArray) (k : Nat) : okTo s k = true ↔ ∀ i, i < k → fb (byteAt s i) = true := by
  induction k with
  | zero => exact ⟨fun _ i h => absurd h (by omega), fun _ => rfl⟩
  | succ k ih =>
    simp only [okTo, Bool.and_eq_true, ih]
    constructor
    · rintro ⟨h1, h2⟩ i hi
      by_cases e : i = k
      · rw [e]; exact h2
      · exact h1 i (by omega)
    · exact fun h => ⟨fun i hi => h i (by omega), h k (by omega)⟩
theorem okTo_no {s : ByteArray} {k i : Nat} (hi : i < k) (h : fb (byteAt s i) = false) : okTo s k = false := by
  cases e : okTo s k
  · rfl
  · rw [(okTo_iff s k).1 e i hi] at h; cases h
/-- a stroke -/
def strokeB (s : ByteArray) : Bool := okTo s s.size && inB s.size 1 12
theorem stroke_of {s : ByteArray} (h : strokeB s = true) : 0 < s.size ∧ s.size ≤ 12 ∧ ∀ i, i < s.size → byteAt s i = 70 ∨ byteAt s i = 66 := by
  unfold strokeB at h
  simp only [Bool.and_eq_true] at h
  have h2 := inB_of h.2
  refine ⟨by omega, by omega, fun i hi => ?_⟩
  have := (okTo_iff s s.size).1 h.1 i hi
  unfold fb at this
  simpa using this

theorem dw_nil {α : Type} (p : α → Bool) (l : List α) : l.dropWhile p = [] ↔ ∀ x ∈ l, p x = true := by
  induction l with
  | nil => simp
  | cons a r ih =>
    rw [List.dropWhile_cons]
    cases h : p a
    · simp [h]
    · simp [ih, h]
theorem dw_head {α : Type} (p : α → Bool) (l : List α) {a : α} {r : List α} (h : l.dropWhile p = a :: r) : p a = false := by
  induction l with
  | nil => cases h
  | cons b t ih =>
    rw [List.dropWhile_cons] at h
    split at h
    · exact ih h
    · rename_i hb
      cases h
      simpa using hb
theorem trim_nil (l : List UInt8) : Lib.trimS l [70, 66] = [] ↔ ∀ c ∈ l, c = 70 ∨ c = 66 := by
  have hp : ∀ c : UInt8, ([70, 66] : List UInt8).contains c = true ↔ (c = 70 ∨ c = 66) := fun c => by simp
  unfold Lib.trimS Lib.trimLeftS
  rw [dw_nil]
  constructor
  · intro h
    have h1 : Lib.trimRightS l [70, 66] = [] := by
      cases hd : l.reverse.dropWhile (([70, 66] : List UInt8).contains ·) with
      | nil => unfold Lib.trimRightS; rw [hd]; rfl
      | cons a r =>
        have h2 := dw_head _ _ hd
        have h3 := h a (by unfold Lib.trimRightS; rw [hd]; simp)
        rw [h3] at h2
        cases h2
    unfold Lib.trimRightS at h1
    have h2 := (dw_nil _ _).1 (List.reverse_eq_nil_iff.1 h1)
    intro c hc
    exact (hp c).1 (h2 c (List.mem_reverse.2 hc))
  · intro h c hc
    refine (hp c).2 (h c ?_)
    unfold Lib.trimRightS at hc
    exact List.mem_reverse.1 ((List.dropWhile_sublist _).subset (List.mem_reverse.1 hc))
theorem ok_mem (s : ByteArray) : okTo s s.size = true ↔ ∀ c ∈ s.data.toList, c = 70 ∨ c = 66 := by
  rw [okTo_iff]
  have key : ∀ i (h : i < s.size), (fb (byteAt s i) = true ↔ (s[i]'h = 70 ∨ s[i]'h = 66)) := fun i h => by
    rw [byteAt_eq h]
    unfold fb
    rw [Bool.or_eq_true, decide_eq_true_eq, decide_eq_true_eq]
    have c1 : ((s[i]'h).toNat : Int) = 70 ↔ s[i]'h = 70 := ⟨fun e => UInt8.toNat_inj.1 (by show _ = 70; omega), fun e => by rw [e]; rfl⟩
    have c2 : ((s[i]'h).toNat : Int) = 66 ↔ s[i]'h = 66 := ⟨fun e => UInt8.toNat_inj.1 (by show _ = 66; omega), fun e => by rw [e]; rfl⟩
    rw [c1, c2]
  constructor
  · intro h c hc
    obtain ⟨i, hi, rfl⟩ := List.getElem_of_mem hc
    have hi' : i < s.size := by simpa using hi
    exact (key i hi').1 (h i hi')
  · intro h i hi
    exact (key i hi).2 (h _ (List.getElem_mem (l := s.data.toList) (by simpa using hi)))

end Go.Proofs.YtopiecbldnhihaaDoor.wk

namespace Go.Proofs.YtopiecbldnhihaaDoor.wk
open Go.ChangeShapes Go.WideShapes Go.ChangeAt Go.RowKit
open Go.Proofs.YtopiecbldnhihaaDoor.mem Go.Proofs.YtopiecbldnhihaaDoor.rod Go.Proofs.YtopiecbldnhihaaDoor.wv
set_option linter.unusedVariables false

/-- the code of a stroke and stakes -/
def codeW (s : ByteArray) (a : Int) : Int := if strokeB s = false then 1 else if inB a 3 60 = false then 2 else 0
theorem codeW_0 {s : ByteArray} {a : Int} : codeW s a = 0 ↔ strokeB s = true ∧ inB a 3 60 = true := by
  unfold codeW
  cases strokeB s <;> cases inB a 3 60 <;> simp
theorem codeW_cases (s : ByteArray) (a : Int) : (strokeB s = false ∧ codeW s a = 1) ∨ (strokeB s = true ∧ inB a 3 60 = false ∧ codeW s a = 2) ∨ (strokeB s = true ∧ inB a 3 60 = true ∧ codeW s a = 0) := by
  unfold codeW
  cases strokeB s <;> cases inB a 3 60 <;> simp
/-- stakes as a number that is not negative -/
theorem stakes_of {a : Int} (h : inB a 3 60 = true) : ∃ n : Nat, a = (n : Int) ∧ 3 ≤ n ∧ n ≤ 60 := by
  obtain ⟨h1, h2⟩ := inB_of h
  exact ⟨a.toNat, by omega, by omega, by omega⟩

theorem gcd_step (x y : Nat) : Nat.gcd x y = Nat.gcd y (x % y) := by rw [Nat.gcd_comm x y, Nat.gcd_rec y x, Nat.gcd_comm]
theorem gcd_s (a b : Nat) (w : World) (ha : a ≤ 1000000) (hb : b ≤ 1000000) :
    Calls Tryd.prog 39 #[.int .i64 (a : Int), .int .i64 (b : Int)] w fun e w' => e = .returned (.int .i64 (Nat.gcd a b : Nat)) ∧ w = w' := by
  obtain ⟨g, hg⟩ : ∃ g, g = Nat.gcd a b := ⟨_, rfl⟩
  rw [← hg]
  have HG := Lib.hid hg
  clear hg
  go_enter Tryd.func39, Tryd.ntmps39
  go_wp2_with fail
  go_loop [0, 1] (fun x y => ∃ i j : Nat, i ≤ 1000000 ∧ j ≤ 1000000 ∧ x = .int .i64 (i : Int) ∧ y = .int .i64 (j : Int) ∧ Hid (g = Nat.gcd i j)) (fun _ y => (intOf y).toNat)
  case atStart => exact ⟨a, b, ha, hb, rfl, rfl, HG.out⟩
  case round =>
    obtain ⟨i, j, hi, hj, rfl, rfl, hgg⟩ := hrel
    by_cases h0 : j = 0
    · subst h0
      have he : Hid (i = g) := Lib.hid (by rw [hgg.out, Nat.gcd_zero_right])
      go_wp2
      go_ret
      exact ⟨by rw [← he.out]; rfl, rfl⟩
    · have e1 : ((j : Int) == 0) = false := by simp; omega
      have e2 : ((j : Int) != 0) = true := by rw [bne, e1]; rfl
      have e3 : ¬ (j : Int) = 0 := by omega
      have h1 : (0 : Int) ≤ (i : Int) := by omega
      have h2 : (1 : Int) ≤ (j : Int) := by omega
      have hlt := Nat.mod_lt i (show 0 < j by omega)
      have hn := Lib.hid (hgg.out.trans (gcd_step i j))
      clear hgg
      go_wp2
      go_round
      case rel => exact ⟨j, i % j, hj, by omega, rfl, by first | rfl | go_num | (congr 1), hn⟩
      case measure => simp [intOf]; omega

/-! ### the program -/
/-- the products of rounds and stakes are small -/
theorem prod_bd {r n k : Nat} (hr : r ≤ 100) (hn : n ≤ 60) : (0 : Int) ≤ (r : Int) * (n : Int) ∧ (r : Int) * (n : Int) ≤ 6000 := by
  have h := Nat.mul_le_mul hr hn
  rw [← Int.natCast_mul]
  omega
theorem side_byte (s : ByteArray) (n r k p : Nat) (hp : (r * n + k) % s.size = p) : side (byteAt s) s.size n r k = byteAt s p := by unfold side; rw [hp]
end Go.Proofs.YtopiecbldnhihaaDoor.wk

namespace Go.Proofs.YtopiecbldnhihaaDoor.wk
open Go.ChangeShapes Go.WideShapes Go.ChangeAt Go.RowKit
open Go.Proofs.YtopiecbldnhihaaDoor.mem Go.Proofs.YtopiecbldnhihaaDoor.rod Go.Proofs.YtopiecbldnhihaaDoor.wv
set_option linter.unusedVariables false

theorem max_s (a b : Nat) (w : World) :
    Calls Tryd.prog 47 #[.int .i64 (a : Int), .int .i64 (b : Int)] w fun e w' => e = .returned (.int .i64 ((max a b : Nat) : Int)) ∧ w = w' := by
  by_cases h : b < a
  · have h' : (b : Int) < (a : Int) := by omega
    have e : max a b = a := by omega
    rw [e]
    clear e
    go_enter Tryd.func47, Tryd.ntmps47
    go_wp2
    go_ret
    exact ⟨rfl, rfl⟩
  · have h' : ¬ (b : Int) < (a : Int) := by omega
    have e : max a b = b := by omega
    rw [e]
    clear e
    go_enter Tryd.func47, Tryd.ntmps47
    go_wp2
    go_ret
    exact ⟨rfl, rfl⟩

theorem rs_eq {f : Nat → Int} {k : Nat} (h : f (k + 1) = f k) : rs f (k + 1) = re f k := if_pos h
theorem rs_ne {f : Nat → Int} {k : Nat} (h : ¬ f (k + 1) = f k) : rs f (k + 1) = 0 := if_neg h
theorem mb_eq {f : Nat → Int} {k : Nat} (h : f (k + 1) = f k) : mb f (k + 1) = mb f k := if_pos h
theorem mb_ne {f : Nat → Int} {k : Nat} (h : ¬ f (k + 1) = f k) : mb f (k + 1) = max (mb f k) (re f k) := if_neg h
theorem rs_le (f : Nat → Int) (i : Nat) : rs f i ≤ i := by have := re_le f i; have := re_rs f i; omega
end Go.Proofs.YtopiecbldnhihaaDoor.wk
