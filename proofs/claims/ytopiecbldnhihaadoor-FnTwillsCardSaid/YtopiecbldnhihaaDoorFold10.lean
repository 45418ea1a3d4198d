/-
  The words of a text: the model's.
  Rows of texts: the same texts are told equal.
  The marks that the law writes over a text: 'm' and the number.
  Rows of texts of the call's own: the marks that the law writes over them, and how it finds them again.
-/
import Derived.Test.YtopiecbldnhihaaDoorFold5
import Derived.Handy
import Derived.Lib.Hide
import Derived.RegionTactic
import Derived.Deep.QuietTactic
import Derived.BigQuiet
import Derived.Deep.RegionHeld3
import Derived.OwnWalk
import Derived.Laws.BytesString
import Derived.Laws.Cells
import Derived.Laws.Concat
import Derived.Lib.ItoaNum
import Derived.Test.YtopiecbldnhihaaDoorFold6
namespace Go.Proofs.YtopiecbldnhihaaDoor.split
open Go.ChangeShapes Go.WideShapes Go.ChangeAt Go.RowKit
open Go.Proofs.YtopiecbldnhihaaDoor.mem
set_option linter.unusedVariables false

theorem owns_parts {w : World} {B : Nat} {E : TypeId} {v : Value} {ps : List (List UInt8)} (h : w.ownsRow B E 1 v ps.length (ps.map strV)) (hne : ps ≠ []) :
    ∃ g cap, v = .slice (some ⟨g, 0, none⟩) ps.length cap ∧ B ≤ g ∧ g < w.heap.size ∧ ps.length ≤ cap ∧ cap ≤ maxLen ∧ ∀ j p, ps[j]? = some p → w.cell? ⟨g, j, none⟩ = some (.string ⟨p.toArray⟩) := by
  obtain ⟨hl, h⟩ := h
  rcases h with ⟨rfl, h0⟩ | ⟨g, cap, cur, rfl, hB, hh, hc, hm, hs, ht⟩
  · exact absurd (List.eq_nil_of_length_eq_zero h0) hne
  · refine ⟨g, cap, rfl, hB, ?_, hc, hm, fun j p hj => ?_⟩
    · obtain ⟨hlt, _⟩ := Array.getElem?_eq_some_iff.1 hh
      exact hlt
    · have hj1 : j < ps.length := (List.getElem?_eq_some_iff.1 hj).1
      have e2 : cur.toList[j]? = (cur.toList.take (ps.length * 1))[j]? := by rw [List.getElem?_take_of_lt (by omega)]
      have e3 : cur[j]? = some (strV p) := by
        rw [← Array.getElem?_toList, e2, ht, List.getElem?_map, hj]
        rfl
      simp [World.cell?, hh, e3]
      rfl
theorem split_count (d : UInt8) (l : List UInt8) : ∀ cur, (splitA d cur l).length ≤ l.length + 1 := by
  induction l with
  | nil => intro cur; simp [splitA]
  | cons c r ih =>
    intro cur
    rw [splitA]
    split
    · have := ih []
      simp only [List.length_cons]
      omega
    · have := ih (cur ++ [c])
      simp only [List.length_cons]
      omega
def full (p : List UInt8) : Bool := !p.isEmpty
/-- the words of a text: the parts between blanks that are not empty -/
def words (l : List UInt8) : List (List UInt8) := (split 32 l).filter full
theorem full_yes {ps : List (List UInt8)} {k : Nat} {p : List UInt8} (hp : ps[k]? = some p) (h : full p = true) : (ps.take (k + 1)).filter full = (ps.take k).filter full ++ [p] := by
  rw [List.take_add_one, hp, List.filter_append]
  simp [h]
theorem full_no {ps : List (List UInt8)} {k : Nat} {p : List UInt8} (hp : ps[k]? = some p) (h : full p = false) : (ps.take (k + 1)).filter full = (ps.take k).filter full := by
  rw [List.take_add_one, hp, List.filter_append]
  simp [h]
theorem full_len (ps : List (List UInt8)) (k : Nat) : ((ps.take k).filter full).length ≤ ps.length :=
  Nat.le_trans (List.length_filter_le _ _) (by rw [List.length_take]; omega)
theorem owns_lower {w : World} {B B' n size : Nat} {E : TypeId} {v : Value} {xs : List Value} (h : w.ownsRow B E size v n xs) (hb : B' ≤ B) : w.ownsRow B' E size v n xs := by
  obtain ⟨hl, h⟩ := h
  rcases h with h | ⟨g, cap, cur, e, hB, r⟩
  · exact ⟨hl, .inl h⟩
  · exact ⟨hl, .inr ⟨g, cap, cur, e, Nat.le_trans hb hB, r⟩⟩

end Go.Proofs.YtopiecbldnhihaaDoor.split

namespace Go.Proofs.YtopiecbldnhihaaDoor.split
open Go.ChangeShapes Go.WideShapes Go.ChangeAt Go.RowKit
open Go.Proofs.YtopiecbldnhihaaDoor.mem
set_option linter.unusedVariables false

/-- a slice value of n texts -/
def SlS (w : World) (A : Option Addr) (n : Nat) (T : Nat → ByteArray) : Prop := 0 < n → ∃ g, A = some ⟨g, 0, none⟩ ∧ g < w.heap.size ∧ ∀ j, j < n → w.cell? ⟨g, j, none⟩ = some (.string (T j))

end Go.Proofs.YtopiecbldnhihaaDoor.split

namespace Go.Proofs.YtopiecbldnhihaaDoor.split
open Go.ChangeShapes Go.WideShapes Go.ChangeAt Go.RowKit
open Go.Proofs.YtopiecbldnhihaaDoor.mem
set_option linter.unusedVariables false

def bv (b : UInt8) : Value := .int .u8 (b.toNat : Int)
theorem bv_one (b : UInt8) : (bv b).oneCell' = true := rfl
theorem bv_digit {r : Nat} (h : r ≤ 9) : bv (UInt8.ofNat (48 + r)) = .int .u8 (48 + (r : Int)) := by
  unfold bv
  have : (UInt8.ofNat (48 + r)).toNat = 48 + r := by simp; omega
  rw [this]
  congr 1

theorem bv_zero : bv (UInt8.ofNat (48 + 0)) = .int .u8 48 := rfl

theorem push_all (ns : List UInt8) : ∀ s : ByteArray, (ns.map fun b => (b.toNat : Int)).foldl (fun r n => r.push (UInt8.ofNat n.toNat)) s = ⟨s.data ++ ns.toArray⟩ := by
  induction ns with
  | nil => intro s; simp
  | cons b ns ih =>
    intro s
    simp only [List.map_cons, List.foldl_cons]
    rw [ih]
    congr 1
    simp [ByteArray.push]
theorem run_str_row {P : Program} (w : World) (src dst e : TypeId) (hs : P.underlying src = some (.slice e)) (he : P.underlying e = some (.int .u8)) (hd : P.underlying dst = some .string)
    (a : Addr) (n cap : Nat) (ds : List UInt8) (hn : ds.length = n) (h : ∀ j v, (ds.map bv)[j]? = some v → w.cell? (a.add j) = some v) :
    (convert src dst (.slice (some a) n cap)).run P w = .ok (.string ⟨ds.toArray⟩) w := by
  rw [run_convert_bytes_string w src dst e _ _ _ hs he hd]
  subst hn
  have hl := run_loadCells_list (P := P) (w := w) a (ds.map bv) h
  rw [List.length_map] at hl
  have e1 : ds.map bv = (ds.map fun b => (b.toNat : Int)).map (Value.int .u8) := by rw [List.map_map]; rfl
  rw [e1] at hl
  rw [run_bytesToString w a ds.length cap _ hl, push_all]
  congr 2
  simp

/-- what is told when q is left and ds stands there already -/
def fin (q : Nat) (ds : List UInt8) : List UInt8 := if q = 0 then ds else Lib.decDigits q ++ ds
theorem fin_step {q : Nat} (h : q ≠ 0) (ds : List UInt8) : fin (q / 10) (UInt8.ofNat (48 + q % 10) :: ds) = fin q ds := by
  unfold fin
  rw [if_neg h]
  by_cases h1 : q < 10
  · rw [if_pos (by omega), Lib.decDigits, dif_pos h1, Nat.mod_eq_of_lt h1]
    rfl
  · rw [if_neg (by omega), Lib.decDigits.eq_1 q, dif_neg h1]
    simp
theorem len_of {q m l : Nat} (h : q * 10 ^ l ≤ m) (hq : q ≠ 0) (hm : m ≤ 9223372036854775808) : l < 20 := by
  rcases Nat.lt_or_ge l 20 with h1 | h1
  · exact h1
  · have h2 : 10 ^ 20 ≤ 10 ^ l := Nat.pow_le_pow_right (by omega) h1
    have h3 : 1 * 10 ^ l ≤ q * 10 ^ l := Nat.mul_le_mul_right _ (by omega)
    have h4 : (10 : Nat) ^ 20 = 100000000000000000000 := by decide
    omega
theorem pow_step {q m l : Nat} (h : q * 10 ^ l ≤ m) : q / 10 * 10 ^ (l + 1) ≤ m := by
  have h1 : q / 10 * 10 ^ (l + 1) = q / 10 * 10 * 10 ^ l := by rw [Nat.pow_succ, Nat.mul_comm (10 ^ l) 10, Nat.mul_assoc]
  have h2 : q / 10 * 10 ≤ q := Nat.div_mul_le_self q 10
  have h3 : q / 10 * 10 * 10 ^ l ≤ q * 10 ^ l := Nat.mul_le_mul_right _ h2
  omega


def markB (m : Nat) : ByteArray := ⟨(109 :: Lib.decDigits m).toArray⟩
end Go.Proofs.YtopiecbldnhihaaDoor.split

namespace Go.Proofs.YtopiecbldnhihaaDoor.split
open Go.ChangeShapes Go.WideShapes Go.ChangeAt Go.RowKit
open Go.Proofs.YtopiecbldnhihaaDoor.mem
set_option linter.unusedVariables false

/-- a slice value of the call's own: n texts in a block from lo to less than hi -/
def RowT (w : World) (lo hi : Nat) (A : Option Addr) (n : Nat) (T : Nat → ByteArray) : Prop :=
  0 < n → ∃ g, A = some ⟨g, 0, none⟩ ∧ lo ≤ g ∧ g < hi ∧ OwnV w g 9 n (fun j => .string (T j))
section
variable {w w' : World} {A : Option Addr} {n lo hi : Nat} {T U : Nat → ByteArray}
theorem RowT.below {K : Nat} (h : RowT w lo hi A n T) (hb : Below K w w') (hK : hi ≤ K) : RowT w' lo hi A n T := fun hn => by
  obtain ⟨g, e, h1, h2, ho⟩ := h hn
  exact ⟨g, e, h1, h2, ho.below hb (by omega)⟩
theorem RowT.wrote {lo' hi' : Nat} (h : RowT w lo hi A n T) (hw : WroteIn w w' lo' hi') (hd : hi ≤ lo' ∨ hi' ≤ lo) : RowT w' lo hi A n T := fun hn => by
  obtain ⟨g, e, h1, h2, ho⟩ := h hn
  exact ⟨g, e, h1, h2, ho.wrote hw (by omega)⟩
theorem RowT.wide {lo' hi' : Nat} (h : RowT w lo hi A n T) (h1 : lo' ≤ lo) (h2 : hi ≤ hi') : RowT w lo' hi' A n T := fun hn => by
  obtain ⟨g, e, a, b, ho⟩ := h hn
  exact ⟨g, e, by omega, by omega, ho⟩
theorem RowT.sl (h : RowT w lo hi A n T) : SlS w A n T := fun hn => by
  obtain ⟨g, e, h1, h2, ho⟩ := h hn
  exact ⟨g, e, ho.lt, fun j hj => ho.cell hj⟩
theorem RowT.congr (h : RowT w lo hi A n T) (e : ∀ j, j < n → T j = U j) : RowT w lo hi A n U := fun hn => by
  obtain ⟨g, e', a, b, ho⟩ := h hn
  exact ⟨g, e', a, b, ho.congr fun j hj => by rw [e j hj]⟩
end
/-- the j-th text of a list -/
def txt (ps : List (List UInt8)) (j : Nat) : ByteArray := ⟨(ps.getD j []).toArray⟩
theorem rowT_of {w : World} {B : Nat} {v : Value} {ps : List (List UInt8)} (h : w.ownsRow B 9 1 v ps.length (ps.map strV)) :
    ∃ A c, v = .slice A ps.length c ∧ ps.length ≤ c ∧ c ≤ maxLen ∧ RowT w B w.heap.size A ps.length (txt ps) := by
  have e : ps.map strV = (List.range (ps.length * 1)).map (fun j => Value.string (txt ps j)) := by
    apply List.ext_getElem?
    intro i
    by_cases hi : i < ps.length
    · rw [List.getElem?_map, List.getElem?_map, List.getElem?_range (by omega), List.getElem?_eq_getElem hi]
      simp [strV, txt, List.getD, List.getElem?_eq_getElem hi]
    · rw [List.getElem?_eq_none (by simp; omega), List.getElem?_eq_none (by simp; omega)]
  rw [e] at h
  obtain ⟨A, c, e1, h1, h2, h3⟩ := ownV_of_owns h
  refine ⟨A, c, e1, h1, h2, fun hn => ?_⟩
  obtain ⟨g, e2, a, b, ho⟩ := h3 hn
  exact ⟨g, e2, a, b, by rwa [Nat.mul_one] at ho⟩

end Go.Proofs.YtopiecbldnhihaaDoor.split
