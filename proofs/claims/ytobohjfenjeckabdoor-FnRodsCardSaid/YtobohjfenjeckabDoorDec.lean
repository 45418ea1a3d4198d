/-
  The model's decimal form of a number: digits are put in front of a slice of bytes, one by one.
-/
import Derived.Test.YtobohjfenjeckabDoorMem
import Derived.OwnWalk
import Derived.Laws.BytesString
import Derived.Laws.Cells
import Derived.Laws.Concat
import Derived.Lib.ItoaNum
import Derived.Outline
namespace Go.Proofs.YtobohjfenjeckabDoor.dec
open Go.ChangeShapes Go.WideShapes Go.ChangeAt Go.RowKit
open Go.Proofs.YtobohjfenjeckabDoor.mem
set_option linter.unusedVariables false

def bv (b : UInt8) : Value := .int .u8 (b.toNat : Int)
theorem bv_one (b : UInt8) : (bv b).oneCell' = true := rfl
theorem bv_digit {r : Nat} (h : r ≤ 9) : bv (UInt8.ofNat (48 + r)) = .int .u8 (48 + (r : Int)) := by
  unfold bv
  have : (UInt8.ofNat (48 + r)).toNat = 48 + r := by simp; omega
  rw [this]
  congr 1

theorem bv_zero : bv (UInt8.ofNat (48 + 0)) = .int .u8 48 := rfl

theorem push_all (ns : List UInt8) : ∀ s : ByteArray, (ns.map fun b => (b.toNat : Int)).foldl (fun r n => r.push (UInt8.ofNat n.toNat)) s = ⟨s.data ++ ns.toArray⟩ := by
  induction ns with
  | nil => intro s; simp
  | cons b ns ih =>
    intro s
    simp only [List.map_cons, List.foldl_cons]
    rw [ih]
    congr 1
    simp [ByteArray.push]
theorem run_str_row {P : Program} (w : World) (src dst e : TypeId) (hs : P.underlying src = some (.slice e)) (he : P.underlying e = some (.int .u8)) (hd : P.underlying dst = some .string)
    (a : Addr) (n cap : Nat) (ds : List UInt8) (hn : ds.length = n) (h : ∀ j v, (ds.map bv)[j]? = some v → w.cell? (a.add j) = some v) :
    (convert src dst (.slice (some a) n cap)).run P w = .ok (.string ⟨ds.toArray⟩) w := by
  rw [run_convert_bytes_string w src dst e _ _ _ hs he hd]
  subst hn
  have hl := run_loadCells_list (P := P) (w := w) a (ds.map bv) h
  rw [List.length_map] at hl
  have e1 : ds.map bv = (ds.map fun b => (b.toNat : Int)).map (Value.int .u8) := by rw [List.map_map]; rfl
  rw [e1] at hl
  rw [run_bytesToString w a ds.length cap _ hl, push_all]
  congr 2
  simp

/-- what is told when q is left and ds stands there already -/
def fin (q : Nat) (ds : List UInt8) : List UInt8 := if q = 0 then ds else Lib.decDigits q ++ ds
theorem fin_step {q : Nat} (h : q ≠ 0) (ds : List UInt8) : fin (q / 10) (UInt8.ofNat (48 + q % 10) :: ds) = fin q ds := by
  unfold fin
  rw [if_neg h]
  by_cases h1 : q < 10
  · rw [if_pos (by omega), Lib.decDigits, dif_pos h1, Nat.mod_eq_of_lt h1]
    rfl
  · rw [if_neg (by omega), Lib.decDigits.eq_1 q, dif_neg h1]
    simp
theorem len_of {q m l : Nat} (h : q * 10 ^ l ≤ m) (hq : q ≠ 0) (hm : m ≤ 9223372036854775808) : l < 20 := by
  rcases Nat.lt_or_ge l 20 with h1 | h1
  · exact h1
  · have h2 : 10 ^ 20 ≤ 10 ^ l := Nat.pow_le_pow_right (by omega) h1
    have h3 : 1 * 10 ^ l ≤ q * 10 ^ l := Nat.mul_le_mul_right _ (by omega)
    have h4 : (10 : Nat) ^ 20 = 100000000000000000000 := by decide
    omega
theorem pow_step {q m l : Nat} (h : q * 10 ^ l ≤ m) : q / 10 * 10 ^ (l + 1) ≤ m := by
  have h1 : q / 10 * 10 ^ (l + 1) = q / 10 * 10 * 10 ^ l := by rw [Nat.pow_succ, Nat.mul_comm (10 ^ l) 10, Nat.mul_assoc]
  have h2 : q / 10 * 10 ≤ q := Nat.div_mul_le_self q 10
  have h3 : q / 10 * 10 * 10 ^ l ≤ q * 10 ^ l := Nat.mul_le_mul_right _ h2
  omega

theorem info_byte : (Tryd.prog.info? 5).map (fun i => (i.zero, i.size, i.bytes)) = some (some (.int .u8 0), 1, 1) := by kernel_rfl

theorem owns_one (w : World) (B : Nat) (E : TypeId) (v : Value) (hB : B ≤ w.heap.size) : (w.alloc (Obj.cells #[v] E)).ownsRow B E 1 (.slice (some ⟨w.heap.size, 0, none⟩) 1 1) 1 [v] :=
  ⟨rfl, .inr ⟨w.heap.size, 1, #[v], rfl, hB, Go.Deep.blk_alloc_new _ _, Nat.le_refl _, by unfold maxLen; omega, rfl, rfl⟩⟩
theorem owns_form {w : World} {B n size : Nat} {E : TypeId} {v : Value} {xs : List Value} (h : w.ownsRow B E size v n xs) (hv : ¬ v = .slice none 0 0) : ∃ g cap, v = .slice (some ⟨g, 0, none⟩) n cap ∧ B ≤ g := by
  rcases h.2 with ⟨rfl, _⟩ | ⟨g, cap, cur, rfl, hB, _⟩
  · exact absurd rfl hv
  · exact ⟨g, cap, rfl, hB⟩

end Go.Proofs.YtobohjfenjeckabDoor.dec
