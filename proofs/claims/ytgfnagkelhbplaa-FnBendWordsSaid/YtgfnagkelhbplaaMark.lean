/-
  The marks that the law writes over a text: 'm' and the number.
-/
import Derived.Test.YtgfnagkelhbplaaStrs
import Derived.OwnWalk
import Derived.Laws.BytesString
import Derived.Laws.Cells
import Derived.Laws.Concat
import Derived.Lib.ItoaNum
namespace Go.Proofs.Ytgfnagkelhbplaa.split
open Go.ChangeShapes Go.WideShapes Go.ChangeAt Go.RowKit
open Go.Proofs.Ytgfnagkelhbplaa.mem
set_option linter.unusedVariables false

def bv (b : UInt8) : Value := .int .u8 (b.toNat : Int)
theorem bv_one (b : UInt8) : (bv b).oneCell' = true := rfl
theorem bv_digit {r : Nat} (h : r ≤ 9) : bv (UInt8.ofNat (48 + r)) = .int .u8 (48 + (r : Int)) := by
  unfold bv
  have : (UInt8.ofNat (48 + r)).toNat = 48 + r := by simp; omega
  rw [this]
  congr 1

theorem bv_zero : bv (UInt8.ofNat (48 + 0)) = .int .u8 48 := rfl

theorem push_all (ns : List UInt8) : ∀ s : ByteArray, (ns.map fun b => (b.toNat : Int)).foldl (fun r n => r.push (UInt8.ofNat n.toNat)) s = ⟨s.data ++ ns.toArray⟩ := by
  induction ns with
  | nil => intro s; simp
  | cons b ns ih =>
    intro s
    simp only [List.map_cons, List.foldl_cons]
    rw [ih]
    congr 1
    simp [ByteArray.push]
theorem run_str_row {P : Program} (w : World) (src dst e : TypeId) (hs : P.underlying src = some (.slice e)) (he : P.underlying e = some (.int .u8)) (hd : P.underlying dst = some .string)
    (a : Addr) (n cap : Nat) (ds : List UInt8) (hn : ds.length = n) (h : ∀ j v, (ds.map bv)[j]? = some v → w.cell? (a.add j) = some v) :
    (convert src dst (.slice (some a) n cap)).run P w = .ok (.string ⟨ds.toArray⟩) w := by
  rw [run_convert_bytes_string w src dst e _ _ _ hs he hd]
  subst hn
  have hl := run_loadCells_list (P := P) (w := w) a (ds.map bv) h
  rw [List.length_map] at hl
  have e1 : ds.map bv = (ds.map fun b => (b.toNat : Int)).map (Value.int .u8) := by rw [List.map_map]; rfl
  rw [e1] at hl
  rw [run_bytesToString w a ds.length cap _ hl, push_all]
  congr 2
  simp

/-- what is told when q is left and ds stands there already -/
def fin (q : Nat) (ds : List UInt8) : List UInt8 := if q = 0 then ds else Lib.decDigits q ++ ds
theorem fin_step {q : Nat} (h : q ≠ 0) (ds : List UInt8) : fin (q / 10) (UInt8.ofNat (48 + q % 10) :: ds) = fin q ds := by
  unfold fin
  rw [if_neg h]
  by_cases h1 : q < 10
  · rw [if_pos (by omega), Lib.decDigits, dif_pos h1, Nat.mod_eq_of_lt h1]
    rfl
  · rw [if_neg (by omega), Lib.decDigits.eq_1 q, dif_neg h1]
    simp
theorem len_of {q m l : Nat} (h : q * 10 ^ l ≤ m) (hq : q ≠ 0) (hm : m ≤ 9223372036854775808) : l < 20 := by
  rcases Nat.lt_or_ge l 20 with h1 | h1
  · exact h1
  · have h2 : 10 ^ 20 ≤ 10 ^ l := Nat.pow_le_pow_right (by omega) h1
    have h3 : 1 * 10 ^ l ≤ q * 10 ^ l := Nat.mul_le_mul_right _ (by omega)
    have h4 : (10 : Nat) ^ 20 = 100000000000000000000 := by decide
    omega
theorem pow_step {q m l : Nat} (h : q * 10 ^ l ≤ m) : q / 10 * 10 ^ (l + 1) ≤ m := by
  have h1 : q / 10 * 10 ^ (l + 1) = q / 10 * 10 * 10 ^ l := by rw [Nat.pow_succ, Nat.mul_comm (10 ^ l) 10, Nat.mul_assoc]
  have h2 : q / 10 * 10 ≤ q := Nat.div_mul_le_self q 10
  have h3 : q / 10 * 10 * 10 ^ l ≤ q * 10 ^ l := Nat.mul_le_mul_right _ h2
  omega


def markB (m : Nat) : ByteArray := ⟨(109 :: Lib.decDigits m).toArray⟩
set_option maxHeartbeats 4000000 in
set_option maxRecDepth 100000 in
theorem mark_c (m : Nat) (h0 : 0 < m) (h1 : m ≤ 1000000000) (w : World) :
    Calls Try.prog 71 #[.int .i64 (m : Int)] w fun e w' => e = .returned (.string (markB m)) ∧ Below w.heap.size w w' := by
  have hm0 : ¬ (m : Int) ≤ 0 := by omega
  have H1 := Lib.hid h1
  clear h1
  go_enter Try.func71, Try.ntmps71
  go_wp2_with fail
  clear hm0
  go_loopw [0, 3] (fun k v wr => ∃ (q : Nat) (ds : List UInt8) (R : ByteArray), k = .int .i64 (q : Int) ∧ v = .string R ∧ q ≤ m ∧ q * 10 ^ ds.length ≤ m ∧ ds.length ≤ 20 ∧ Hid (R = ⟨ds.toArray⟩) ∧ Hid (fin q ds = fin m []) ∧ Below w.heap.size w wr) (fun k _ _ => (intOf k).natAbs)
  case atStart => exact ⟨m, [], _, rfl, rfl, Nat.le_refl _, by simp, by simp, rfl, rfl, Below.refl _ _⟩
  case round =>
    rename_i v wr
    obtain ⟨q, ds, R, rfl, rfl, hqm, hpow, hlen, HR, HF, hbl⟩ := hrel
    have HB := Lib.hid hbl
    have hzz := hbl.size
    have HP := Lib.hid hpow
    clear hbl hpow
    have hRs : R.size = ds.length := by rw [HR.out]; show ds.toArray.size = _; simp
    by_cases hq : q = 0
    · subst hq
      have hd : ds = Lib.decDigits m := by
        have hf : ds = fin m [] := HF.out
        rw [hf]; unfold fin; rw [if_neg (by omega), List.append_nil]
      have hadd : ∀ W, (Op.stringOp .add ⟨#[109]⟩ R).run Try.prog W = .ok (.string (markB m)) W := fun W => by
        rw [run_string_add_sum W _ _ (by have e : (⟨#[109]⟩ : ByteArray).size = 1 := rfl; omega), HR.out, hd]
        congr 2
      clear hd
      go_wp2
      go_ret
      exact ⟨rfl, HB.out⟩
    · have hq1 : (0 : Int) < (q : Int) := by omega
      obtain ⟨r, hr⟩ : ∃ r, r = q % 10 := ⟨_, rfl⟩
      obtain ⟨p, hp⟩ : ∃ p, p = q / 10 := ⟨_, rfl⟩
      have hr9 : r ≤ 9 := by omega
      have hpq : p < q := by omega
      have hpm : p ≤ m := by omega
      have hl19 := len_of HP.out hq (by have := H1.out; omega)
      have t1 : (q : Int).tmod 10 = (r : Int) := by rw [Int.tmod_eq_emod_of_nonneg (by omega)]; omega
      have t2 : (q : Int).tdiv 10 = (p : Int) := by rw [Int.tdiv_eq_ediv_of_nonneg (by omega)]; omega
      have hr9' : (r : Int) ≤ 9 := by omega
      have hr0 : (0 : Int) ≤ (r : Int) := by omega
      have hpb : (p : Int) ≤ 1000000000 := by have := H1.out; omega
      have hp0 : (0 : Int) ≤ (p : Int) := by omega
      obtain ⟨S, hS⟩ : ∃ S : ByteArray, S = ⟨(UInt8.ofNat (48 + r) :: ds).toArray⟩ := ⟨_, rfl⟩
      have hcv : ∀ W : World, W.cell? ⟨wr.heap.size, 0, none⟩ = some (.int .u8 (48 + (r : Int))) → (convert 47 9 (.slice (some ⟨wr.heap.size, 0, none⟩) 1 1)).run Try.prog W = .ok (.string ⟨[UInt8.ofNat (48 + r)].toArray⟩) W := fun W hc =>
        run_str_row W 47 9 5 Try.underlying47 Try.underlying5 Try.underlying9 ⟨wr.heap.size, 0, none⟩ 1 1 [UInt8.ofNat (48 + r)] rfl (fun j u hu => by
          rcases j with _ | j
          · have e : u = bv (UInt8.ofNat (48 + r)) := (Option.some.inj hu).symm
            rw [e, bv_digit hr9]
            exact hc
          · simp at hu)
      have hcv2 := hcv (wr.alloc (Obj.cells #[Value.int .u8 (48 + (r : Int))] 5)) (by simp)
      obtain ⟨E, hE⟩ : ∃ E : ByteArray, E = ⟨[UInt8.ofNat (48 + r)].toArray⟩ := ⟨_, rfl⟩
      rw [← hE] at hcv2
      have hadd : ∀ W, (Op.stringOp .add E R).run Try.prog W = .ok (.string S) W := fun W => by
        have hEs : E.size = 1 := by rw [hE]; rfl
        rw [run_string_add_sum W _ _ (by omega), HR.out, hE, hS]
        congr 2
      have HR2 := Lib.hid hr
      have HP2 := Lib.hid hp
      have HQ := Lib.hid hq
      have HS := Lib.hid hS
      clear hr hp hq hS hE hcv
      go_wp2
      go_roundw
      case rel => exact ⟨p, UInt8.ofNat (48 + r) :: ds, S, by go_num, rfl, hpm, by rw [List.length_cons, HP2.out]; exact pow_step HP.out, by rw [List.length_cons]; omega, HS.out, by rw [Hid, HP2.out, HR2.out, fin_step HQ.out]; exact HF.out, HB.out.alloc hzz _⟩
      case measure => simp [intOf] <;> omega

end Go.Proofs.Ytgfnagkelhbplaa.split
