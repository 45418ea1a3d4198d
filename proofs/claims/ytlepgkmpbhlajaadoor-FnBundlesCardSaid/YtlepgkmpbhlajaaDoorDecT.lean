/-
  The model's decimal form of a number: digits are put in front of a slice of bytes, one by one.
  Decimal of the program by the library's contract, and the law's two sides met.
  Contracts of BunchText, of the model's and of the program's.
-/
import Derived.Test.YtlepgkmpbhlajaaDoorMem
import Derived.OwnWalk
import Derived.Laws.BytesString
import Derived.Laws.Cells
import Derived.Laws.Concat
import Derived.Lib.ItoaNum
import Derived.Outline
import Derived.Test.YtlepgkmpbhlajaaDoorShelf
import Derived.Lib.LaidTab
import Derived.Lib.LaidU8
import Derived.WalkSmall
import Derived.Test.YtlepgkmpbhlajaaDoorBunch
import Derived.Lib.ItoaLen
namespace Go.Proofs.YtlepgkmpbhlajaaDoor.dec
open Go.ChangeShapes Go.WideShapes Go.ChangeAt Go.RowKit
open Go.Proofs.YtlepgkmpbhlajaaDoor.mem
set_option linter.unusedVariables false

def bv (b : UInt8) : Value := .int .u8 (b.toNat : Int)
theorem bv_one (b : UInt8) : (bv b).oneCell' = true := rfl
theorem bv_digit {r : Nat} (h : r ≤ 9) : bv (UInt8.ofNat (48 + r)) = .int .u8 (48 + (r : Int)) := by
  unfold bv
  have : (UInt8.ofNat (48 + r)).toNat = 48 + r := by simp; omega
  rw [this]
  congr 1

theorem bv_zero : bv (UInt8.ofNat (48 + 0)) = .int .u8 48 := rfl

theorem push_all (ns : List UInt8) : ∀ s : ByteArray, (ns.map fun b => (b.toNat : Int)).foldl (fun r n => r.push (UInt8.ofNat n.toNat)) s = ⟨s.data ++ ns.toArray⟩ := by
  induction ns with
  | nil => intro s; simp
  | cons b ns ih =>
    intro s
    simp only [List.map_cons, List.foldl_cons]
    rw [ih]
    congr 1
    simp [ByteArray.push]
theorem run_str_row {P : Program} (w : World) (src dst e : TypeId) (hs : P.underlying src = some (.slice e)) (he : P.underlying e = some (.int .u8)) (hd : P.underlying dst = some .string)
    (a : Addr) (n cap : Nat) (ds : List UInt8) (hn : ds.length = n) (h : ∀ j v, (ds.map bv)[j]? = some v → w.cell? (a.add j) = some v) :
    (convert src dst (.slice (some a) n cap)).run P w = .ok (.string ⟨ds.toArray⟩) w := by
  rw [run_convert_bytes_string w src dst e _ _ _ hs he hd]
  subst hn
  have hl := run_loadCells_list (P := P) (w := w) a (ds.map bv) h
  rw [List.length_map] at hl
  have e1 : ds.map bv = (ds.map fun b => (b.toNat : Int)).map (Value.int .u8) := by rw [List.map_map]; rfl
  rw [e1] at hl
  rw [run_bytesToString w a ds.length cap _ hl, push_all]
  congr 2
  simp

/-- what is told when q is left and ds stands there already -/
def fin (q : Nat) (ds : List UInt8) : List UInt8 := if q = 0 then ds else Lib.decDigits q ++ ds
theorem fin_step {q : Nat} (h : q ≠ 0) (ds : List UInt8) : fin (q / 10) (UInt8.ofNat (48 + q % 10) :: ds) = fin q ds := by
  unfold fin
  rw [if_neg h]
  by_cases h1 : q < 10
  · rw [if_pos (by omega), Lib.decDigits, dif_pos h1, Nat.mod_eq_of_lt h1]
    rfl
  · rw [if_neg (by omega), Lib.decDigits.eq_1 q, dif_neg h1]
    simp
theorem len_of {q m l : Nat} (h : q * 10 ^ l ≤ m) (hq : q ≠ 0) (hm : m ≤ 9223372036854775808) : l < 20 := by
  rcases Nat.lt_or_ge l 20 with h1 | h1
  · exact h1
  · have h2 : 10 ^ 20 ≤ 10 ^ l := Nat.pow_le_pow_right (by omega) h1
    have h3 : 1 * 10 ^ l ≤ q * 10 ^ l := Nat.mul_le_mul_right _ (by omega)
    have h4 : (10 : Nat) ^ 20 = 100000000000000000000 := by decide
    omega
theorem pow_step {q m l : Nat} (h : q * 10 ^ l ≤ m) : q / 10 * 10 ^ (l + 1) ≤ m := by
  have h1 : q / 10 * 10 ^ (l + 1) = q / 10 * 10 * 10 ^ l := by rw [Nat.pow_succ, Nat.mul_comm (10 ^ l) 10, Nat.mul_assoc]
  have h2 : q / 10 * 10 ≤ q := Nat.div_mul_le_self q 10
  have h3 : q / 10 * 10 * 10 ^ l ≤ q * 10 ^ l := Nat.mul_le_mul_right _ h2
  omega

theorem info_byte : (Tryd.prog.info? 5).map (fun i => (i.zero, i.size, i.bytes)) = some (some (.int .u8 0), 1, 1) := by kernel_rfl

theorem owns_one (w : World) (B : Nat) (E : TypeId) (v : Value) (hB : B ≤ w.heap.size) : (w.alloc (Obj.cells #[v] E)).ownsRow B E 1 (.slice (some ⟨w.heap.size, 0, none⟩) 1 1) 1 [v] :=
  ⟨rfl, .inr ⟨w.heap.size, 1, #[v], rfl, hB, Go.Deep.blk_alloc_new _ _, Nat.le_refl _, by unfold maxLen; omega, rfl, rfl⟩⟩
theorem owns_form {w : World} {B n size : Nat} {E : TypeId} {v : Value} {xs : List Value} (h : w.ownsRow B E size v n xs) (hv : ¬ v = .slice none 0 0) : ∃ g cap, v = .slice (some ⟨g, 0, none⟩) n cap ∧ B ≤ g := by
  rcases h.2 with ⟨rfl, _⟩ | ⟨g, cap, cur, rfl, hB, _⟩
  · exact absurd rfl hv
  · exact ⟨g, cap, rfl, hB⟩

set_option maxHeartbeats 4000000 in
set_option maxRecDepth 100000 in
theorem dec_pos (m : Nat) (h1 : m ≤ 9223372036854775807) (w : World) :
    Calls Tryd.prog 65 #[.int .i64 m] w fun e w' => e = .returned (.string ⟨(Lib.itoa m).toArray⟩) ∧ Below w.heap.size w w' := by
  obtain ⟨i0, hi0, hz0, hz1, hz2⟩ := info_parts info_byte
  · have H1 := Lib.hid h1
    clear h1
    have hmneg : ¬ (m : Int) < 0 := by omega
    go_enter Tryd.func65, Tryd.ntmps65
    go_wp2_with fail
    go_loopw [4, 3] (fun k v wr => ∃ (q : Nat) (ds : List UInt8) (g cap : Nat), k = .int .i64 ((q : Int)) ∧ v = .slice (some ⟨g, 0, none⟩) ds.length cap ∧ q ≤ m ∧ q * 10 ^ ds.length ≤ m ∧ ds.length ≤ 20 ∧ Hid (fin q ds = fin m []) ∧ Hid (wr.ownsRow w.heap.size 5 1 v ds.length (ds.map bv)) ∧ Below w.heap.size w wr) (fun k _ _ => (intOf k).natAbs)
    case atStart => exact ⟨m, [], _, _, rfl, rfl, Nat.le_refl _, by simp, by simp, rfl, ⟨rfl, .inr ⟨_, 0, #[], rfl, Nat.le_refl _, Go.Deep.blk_alloc_new _ _, Nat.le_refl _, by unfold maxLen; omega, rfl, rfl⟩⟩, by go_grown⟩
    case round =>
      obtain ⟨q, ds, g, cap, rfl, rfl, hqm, hpow, hlen, HF, hown, hbl⟩ := hrel
      have HB := Lib.hid hbl
      have hzz := hbl.size
      have HP := Lib.hid hpow
      clear hbl hpow
      by_cases hq : q = 0
      · subst hq
        have hf : ds = fin m [] := HF.out
        by_cases hm0 : m = 0
        · subst hm0
          obtain rfl : ds = [] := hf
          go_wp2
          go_ret
          exact ⟨by simp [Lib.itoa, Lib.decDigits], HB.out⟩
        · have hd : ds = Lib.decDigits m := by rw [hf]; unfold fin; rw [if_neg hm0, List.append_nil]
          have hi : Lib.itoa (m : Int) = ds := by unfold Lib.itoa; rw [if_neg (by omega), hd]; rfl
          have hne : ds.length ≠ 0 := by
            intro h
            have := List.eq_nil_of_length_eq_zero h
            rw [this] at hd
            have h2 : (Lib.decDigits m).length = 0 := by rw [← hd]; rfl
            rw [Lib.decDigits] at h2
            split at h2 <;> simp at h2
          have hcv := run_str_row (P := Tryd.prog) wr 22 9 5 Tryd.underlying22 Tryd.underlying5 Tryd.underlying9 ⟨g, 0, none⟩ ds.length cap ds rfl (fun j u hu => hown.out.cells (g := g) rfl j u hu)
          have HI := Lib.hid hi
          have e1 : ((ds.length : Int) == 0) = false := by simp; intro h; exact hne (by rw [h]; rfl)
          have e2 : (0 : Int) < (ds.length : Int) := by omega
          clear hf hd hi hne hm0
          generalize hL : ds.length = L at *
          clear hL
          go_wp2
          go_ret
          exact ⟨by rw [HI.out]; rfl, HB.out⟩
      · have hq1 : (1 : Int) ≤ (q : Int) := by omega
        have e1 : ((q : Int) == 0) = false := by simp; omega
        have e2 : ((q : Int) != 0) = true := by simp; omega
        obtain ⟨r, hr⟩ : ∃ r, r = q % 10 := ⟨_, rfl⟩
        obtain ⟨p, hp⟩ : ∃ p, p = q / 10 := ⟨_, rfl⟩
        have hr9 : r ≤ 9 := by omega
        have hpq : p < q := by omega
        have hpm : p ≤ m := by omega
        have hr9' : (r : Int) ≤ 9 := by omega
        have hr0 : (0 : Int) ≤ (r : Int) := by omega
        have hl19 := len_of HP.out hq (by have := H1.out; omega)
        have pb : (p : Int) ≤ 9223372036854775807 := by have := H1.out; omega
        have hl1 : 1 + ds.length ≤ maxLen := by unfold maxLen; omega
        have hl2 : (1 + ds.length) * 1 ≤ 140737488355328 := by omega
        have t1 : (q : Int) % 10 = (r : Int) := by omega
        have t2 : (q : Int) / 10 = (p : Int) := by omega
        have HR := Lib.hid hr
        have HP2 := Lib.hid hp
        have HQ := Lib.hid hq
        generalize hL : ds.length = L at *
        have HL := Lib.hid hL
        clear hL hr hp hq
        go_wp2_with (at_builtin; refine wpList_append_own _ rfl _ _ 22 rfl w.heap.size 5 i0 (.int .u8 0) 1 1 Tryd.underlying22 hi0 hz0 hz1 hz2 rfl (by decide) _ 1 [.int .u8 (48 + (r : Int))] rfl (owns_one _ _ _ _ hzz) ⟨g, 0, none⟩ L cap (ds.map bv) rfl (by rw [List.length_map, HL.out, Nat.mul_one]) ?c1 ?c2 hl1 hl2 ?c5 ?_)
        case c1 => exact fun j u hu => (hown.out.alloc _).cells (g := g) rfl j u hu
        case c2 => intro u hu; obtain ⟨b, _, rfl⟩ := List.mem_map.1 hu; rfl
        case c5 => simp; omega
        intro v' w1 hown1 hgrow1 hnn
        obtain ⟨g', cap', rfl, hg'⟩ := owns_form hown1 hnn
        have g1 : Below w.heap.size w w1 := Below.grown (HB.out.alloc hzz _) hgrow1 (by simp; omega) (by intro k hk; simp [Value.ownBlock] at hk; omega)
        have HO := Lib.hid hown1
        clear hown1 hgrow1 hnn
        go_wp2
        go_roundw
        case rel =>
          refine ⟨p, UInt8.ofNat (48 + r) :: ds, g', cap', rfl, ?_, by omega, ?_, ?_, ?_, ?_, g1⟩
          · rw [List.length_cons, HL.out, Nat.add_comm]
          · rw [List.length_cons, HP2.out, HL.out]; exact pow_step HP.out
          · rw [List.length_cons, HL.out]; omega
          · rw [Hid, HP2.out, HR.out, fin_step HQ.out]; exact HF.out
          · rw [Hid, List.length_cons, HL.out, Nat.add_comm L 1, List.map_cons, bv_digit hr9]; exact HO.out
        case measure => simp [intOf]; omega

set_option maxHeartbeats 4000000 in
set_option maxRecDepth 100000 in
theorem dec_neg (m : Nat) (h0 : 0 < m) (h1 : m ≤ 9223372036854775808) (w : World) :
    Calls Tryd.prog 65 #[.int .i64 (-(m : Int))] w fun e w' => e = .returned (.string ⟨(Lib.itoa (-(m : Int))).toArray⟩) ∧ Below w.heap.size w w' := by
  obtain ⟨i0, hi0, hz0, hz1, hz2⟩ := info_parts info_byte
  · have H1 := Lib.hid h1
    clear h1
    have hmneg : (-(m : Int)) < 0 := by omega
    go_enter Tryd.func65, Tryd.ntmps65
    go_wp2_with fail
    go_loopw [4, 3] (fun k v wr => ∃ (q : Nat) (ds : List UInt8) (g cap : Nat), k = .int .i64 (-(q : Int)) ∧ v = .slice (some ⟨g, 0, none⟩) ds.length cap ∧ q ≤ m ∧ q * 10 ^ ds.length ≤ m ∧ ds.length ≤ 20 ∧ Hid (fin q ds = fin m []) ∧ Hid (wr.ownsRow w.heap.size 5 1 v ds.length (ds.map bv)) ∧ Below w.heap.size w wr) (fun k _ _ => (intOf k).natAbs)
    case atStart => exact ⟨m, [], _, _, rfl, rfl, Nat.le_refl _, by simp, by simp, rfl, ⟨rfl, .inr ⟨_, 0, #[], rfl, Nat.le_refl _, Go.Deep.blk_alloc_new _ _, Nat.le_refl _, by unfold maxLen; omega, rfl, rfl⟩⟩, by go_grown⟩
    case round =>
      obtain ⟨q, ds, g, cap, rfl, rfl, hqm, hpow, hlen, HF, hown, hbl⟩ := hrel
      have HB := Lib.hid hbl
      have hzz := hbl.size
      have HP := Lib.hid hpow
      clear hbl hpow
      by_cases hq : q = 0
      · subst hq
        have hf : ds = fin m [] := HF.out
        have hm0 : m ≠ 0 := by omega
        have hd : ds = Lib.decDigits m := by rw [hf]; unfold fin; rw [if_neg hm0, List.append_nil]
        have hi : Lib.itoa (-(m : Int)) = 45 :: ds := by unfold Lib.itoa; rw [if_pos hmneg, hd]; congr 2; omega
        have hne : ds.length ≠ 0 := by
          intro h
          have := List.eq_nil_of_length_eq_zero h
          rw [this] at hd
          have h2 : (Lib.decDigits m).length = 0 := by rw [← hd]; rfl
          rw [Lib.decDigits] at h2
          split at h2 <;> simp at h2
        have hcv := run_str_row (P := Tryd.prog) wr 22 9 5 Tryd.underlying22 Tryd.underlying5 Tryd.underlying9 ⟨g, 0, none⟩ ds.length cap ds rfl (fun j u hu => hown.out.cells (g := g) rfl j u hu)
        have HI := Lib.hid hi
        have e1 : ((ds.length : Int) == 0) = false := by simp; intro h; exact hne (by rw [h]; rfl)
        have e2 : (0 : Int) < (ds.length : Int) := by omega
        have hadd : ∀ W, (Op.stringOp .add ⟨#[45]⟩ ⟨ds.toArray⟩).run Tryd.prog W = .ok (.string ⟨(45 :: ds).toArray⟩) W := fun W => by
          rw [run_string_add_sum W _ _ (by simp [ByteArray.size]; omega)]
          congr 2
        clear hf hd hi hne hm0
        generalize hL : ds.length = L at *
        clear hL
        go_wp2
        go_ret
        exact ⟨by rw [HI.out]; rfl, HB.out⟩
      · have hq1 : -(q : Int) ≤ -1 := by omega
        have e1 : (-(q : Int) == 0) = false := by simp; omega
        have e2 : (-(q : Int) != 0) = true := by simp; omega
        obtain ⟨r, hr⟩ : ∃ r, r = q % 10 := ⟨_, rfl⟩
        obtain ⟨p, hp⟩ : ∃ p, p = q / 10 := ⟨_, rfl⟩
        have hr9 : r ≤ 9 := by omega
        have hpq : p < q := by omega
        have hpm : p ≤ m := by omega
        have hr9' : (r : Int) ≤ 9 := by omega
        have hr0 : (0 : Int) ≤ (r : Int) := by omega
        have hl19 := len_of HP.out hq (by have := H1.out; omega)
        have pb : (p : Int) ≤ 9223372036854775807 := by have := H1.out; omega
        have hl1 : 1 + ds.length ≤ maxLen := by unfold maxLen; omega
        have hl2 : (1 + ds.length) * 1 ≤ 140737488355328 := by omega
        have t1 : (-(q : Int)).tmod 10 = -(r : Int) := by rw [Int.neg_tmod, Int.tmod_eq_emod_of_nonneg (by omega)]; omega
        have t2 : (-(q : Int)).tdiv 10 = -(p : Int) := by rw [Int.neg_tdiv, Int.tdiv_eq_ediv_of_nonneg (by omega)]; omega
        have HR := Lib.hid hr
        have HP2 := Lib.hid hp
        have HQ := Lib.hid hq
        generalize hL : ds.length = L at *
        have HL := Lib.hid hL
        clear hL hr hp hq
        by_cases hrz : r = 0
        · have z1 : ¬ -(r : Int) < 0 := by omega
          have t3 : (-(q : Int)).tmod 10 = 0 := by rw [t1, hrz]; rfl
          subst hrz
          clear t1
          have hc1 : ∀ j u, (ds.map bv)[j]? = some u → (wr.alloc (Obj.cells #[Value.int .u8 48] 5)).cell? ((⟨g, 0, none⟩ : Addr).add j) = some u := fun j u hu => (hown.out.alloc _).cells (g := g) rfl j u hu
          have hc2 : ∀ u ∈ ds.map bv, u.oneCell' = true := by intro u hu; obtain ⟨b, _, rfl⟩ := List.mem_map.1 hu; rfl
          have hc5 : w.heap.size ≤ (wr.alloc (Obj.cells #[Value.int .u8 48] 5)).heap.size := by simp; omega
          have C1 := Lib.hid hc1
          have C2 := Lib.hid hc2
          have C5 := Lib.hid hc5
          clear hc1 hc2 hc5
          go_wp2_with (at_builtin; refine wpList_append_own _ rfl _ _ 22 rfl w.heap.size 5 i0 (.int .u8 0) 1 1 Tryd.underlying22 hi0 hz0 hz1 hz2 rfl (by decide) _ 1 [.int .u8 48] rfl (owns_one _ _ _ _ hzz) ⟨g, 0, none⟩ L cap (ds.map bv) rfl (by rw [List.length_map, HL.out, Nat.mul_one]) C1.out C2.out hl1 hl2 C5.out ?_)
          intro v' w1 hown1 hgrow1 hnn
          obtain ⟨g', cap', rfl, hg'⟩ := owns_form hown1 hnn
          have g1 : Below w.heap.size w w1 := Below.grown (HB.out.alloc hzz _) hgrow1 (by simp; omega) (by intro k hk; simp [Value.ownBlock] at hk; omega)
          have HO := Lib.hid hown1
          clear hown1 hgrow1 hnn
          go_wp2
          go_roundw
          case rel =>
            refine ⟨p, UInt8.ofNat (48 + 0) :: ds, g', cap', rfl, ?_, by omega, ?_, ?_, ?_, ?_, g1⟩
            · rw [List.length_cons, HL.out, Nat.add_comm]
            · rw [List.length_cons, HP2.out, HL.out]; exact pow_step HP.out
            · rw [List.length_cons, HL.out]; omega
            · rw [Hid, HP2.out, HR.out, fin_step HQ.out]; exact HF.out
            · rw [Hid, List.length_cons, HL.out, Nat.add_comm L 1, List.map_cons, bv_zero]; exact HO.out
          case measure => simp [intOf]; omega
        · have z1 : -(r : Int) < 0 := by omega
          go_wp2_with (at_builtin; refine wpList_append_own _ rfl _ _ 22 rfl w.heap.size 5 i0 (.int .u8 0) 1 1 Tryd.underlying22 hi0 hz0 hz1 hz2 rfl (by decide) _ 1 [.int .u8 (48 + (r : Int))] rfl (owns_one _ _ _ _ hzz) ⟨g, 0, none⟩ L cap (ds.map bv) rfl (by rw [List.length_map, HL.out, Nat.mul_one]) ?c1 ?c2 hl1 hl2 ?c5 ?_)
          case c1 => exact fun j u hu => (hown.out.alloc _).cells (g := g) rfl j u hu
          case c2 => intro u hu; obtain ⟨b, _, rfl⟩ := List.mem_map.1 hu; rfl
          case c5 => simp; omega
          intro v' w1 hown1 hgrow1 hnn
          obtain ⟨g', cap', rfl, hg'⟩ := owns_form hown1 hnn
          have g1 : Below w.heap.size w w1 := Below.grown (HB.out.alloc hzz _) hgrow1 (by simp; omega) (by intro k hk; simp [Value.ownBlock] at hk; omega)
          have HO := Lib.hid hown1
          clear hown1 hgrow1 hnn
          go_wp2
          go_roundw
          case rel =>
            refine ⟨p, UInt8.ofNat (48 + r) :: ds, g', cap', rfl, ?_, by omega, ?_, ?_, ?_, ?_, g1⟩
            · rw [List.length_cons, HL.out, Nat.add_comm]
            · rw [List.length_cons, HP2.out, HL.out]; exact pow_step HP.out
            · rw [List.length_cons, HL.out]; omega
            · rw [Hid, HP2.out, HR.out, fin_step HQ.out]; exact HF.out
            · rw [Hid, List.length_cons, HL.out, Nat.add_comm L 1, List.map_cons, bv_digit hr9]; exact HO.out
          case measure => simp [intOf]; omega

theorem dec_s (n : Int) (h0 : -9223372036854775808 ≤ n) (h1 : n ≤ 9223372036854775807) (w : World) :
    Calls Tryd.prog 65 #[.int .i64 n] w fun e w' => e = .returned (.string ⟨(Lib.itoa n).toArray⟩) ∧ Below w.heap.size w w' := by
  by_cases hneg : n < 0
  · obtain ⟨m, hm⟩ := Int.eq_ofNat_of_zero_le (by omega : 0 ≤ -n)
    obtain rfl : n = -(m : Int) := by omega
    exact dec_neg m (by omega) (by omega) w
  · obtain ⟨m, rfl⟩ := Int.eq_ofNat_of_zero_le (by omega : 0 ≤ n)
    exact dec_pos m (by omega) w

end Go.Proofs.YtlepgkmpbhlajaaDoor.dec

namespace Go.Proofs.YtlepgkmpbhlajaaDoor.dec
open Go.ChangeShapes Go.WideShapes Go.ChangeAt Go.RowKit
open Go.Proofs.YtlepgkmpbhlajaaDoor.mem
set_option linter.unusedVariables false

/-- the name of the library's table of powers, as the given row has it -/
def powName : String := Rows.fnBundlesRow.named.headD default
def Tab (w : World) : Prop := Lib.TabIs Tryd.prog w powName .u64 Lib.pow10Tab

theorem g_pow : Tryd.prog.globalNamed powName = some 0 := by kernel_rfl
theorem tab_lt {w : World} (h : Tab w) : 0 < w.heap.size := by
  have hc := Lib.TabIs.cell h g_pow 0 (by decide)
  rcases Nat.lt_or_ge 0 w.heap.size with hlt | hge
  · exact hlt
  · have e : w.heap[(0 : Nat)]? = none := Array.getElem?_eq_none hge
    simp [World.cell?, e] at hc
theorem tab_below {w w' : World} (h : Tab w) (hb : Below w.heap.size w w') : Tab w' := var?_below hb g_pow (tab_lt h) h
theorem grow_below (w : World) (os : Array Obj) : Below w.heap.size w (Sort.grow w os) :=
  ⟨rfl, rfl, rfl, by simp [Sort.grow], fun k hk => by simp [Sort.grow, Array.getElem?_append, hk]⟩

set_option maxHeartbeats 1000000 in
theorem dec_i (n : Int) (h0 : -9223372036854775808 ≤ n) (h1 : n ≤ 9223372036854775807) (w : World) (ht : Tab w) :
    Calls Tryd.prog 63 #[.int .i64 n] w fun e w' => e = .returned (.string ⟨(Lib.itoa n).toArray⟩) ∧ Below w.heap.size w w' := by
  have hS := fun (W : World) (htab : Tab W) => Any.strconv_FormatInt_10 Tryd.laysM173 n h0 h1 W htab
  have HS := Lib.hid hS
  have HT := Lib.hid ht
  clear hS ht h0 h1
  go_enter Tryd.func63, Tryd.ntmps63
  go_wp2_with fail
  refine (HS.out _ HT.out).mono ?_
  rintro e w' ⟨rfl, k, os, rfl⟩
  go_wp2
  go_ret
  exact ⟨rfl, (drewN_below (Below.refl _ _) k).trans ((grow_below _ os).mono (Nat.le_refl _))⟩

end Go.Proofs.YtlepgkmpbhlajaaDoor.dec

namespace Go.Proofs.YtlepgkmpbhlajaaDoor.rod
open Go.ChangeShapes Go.WideShapes Go.ChangeAt Go.RowKit
open Go.Proofs.YtlepgkmpbhlajaaDoor.mem Go.Proofs.YtlepgkmpbhlajaaDoor.dec
set_option linter.unusedVariables false

def decB (n : Int) : ByteArray := ⟨(Lib.itoa n).toArray⟩
theorem decB_size {n : Int} (h0 : -9223372036854775808 ≤ n) (h1 : n ≤ 9223372036854775807) : (decB n).size ≤ 21 := by
  have := Lib.itoa_length_le n h0 h1
  show (Lib.itoa n).toArray.size ≤ 21
  simpa using this
theorem dec_st (n : Int) (s : ByteArray) (h0 : -9223372036854775808 ≤ n) (h1 : n ≤ 9223372036854775807) (hs : decB n = s) (W : World) :
    Calls Tryd.prog 65 #[.int .i64 n] W fun e w' => e = .returned (.string s) ∧ Below W.heap.size W w' :=
  (dec_s n h0 h1 W).mono fun e w' ⟨p, q⟩ => ⟨by rw [p, ← hs]; rfl, q⟩
theorem dec_it (n : Int) (s : ByteArray) (h0 : -9223372036854775808 ≤ n) (h1 : n ≤ 9223372036854775807) (hs : decB n = s) (W : World) (ht : Tab W) :
    Calls Tryd.prog 63 #[.int .i64 n] W fun e w' => e = .returned (.string s) ∧ Below W.heap.size W w' :=
  (dec_i n h0 h1 W ht).mono fun e w' ⟨p, q⟩ => ⟨by rw [p, ← hs]; rfl, q⟩
/-- the text of a bundle -/
def bunT (L B T : Int) : ByteArray := decB L ++ ⟨#[32, 109, 109, 44, 32, 103, 105, 114, 116, 104, 32]⟩ ++ decB B ++ ⟨#[44, 32]⟩ ++ decB T ++ ⟨#[32, 103]⟩

theorem adds {L B T : Int} (hr : bunB L B T = true) : ∃ sA sB sC t1 t2 t3 t5 : ByteArray, Hid (decB L = sA) ∧ Hid (decB B = sB) ∧ Hid (decB T = sC) ∧
    (∀ W, (Op.stringOp .add sA ⟨#[32, 109, 109, 44, 32, 103, 105, 114, 116, 104, 32]⟩).run Tryd.prog W = .ok (.string t1) W) ∧ (∀ W, (Op.stringOp .add t1 sB).run Tryd.prog W = .ok (.string t2) W) ∧
    (∀ W, (Op.stringOp .add t2 ⟨#[44, 32]⟩).run Tryd.prog W = .ok (.string t3) W) ∧ (∀ W, (Op.stringOp .add t3 sC).run Tryd.prog W = .ok (.string t5) W) ∧ (∀ W, (Op.stringOp .add t5 ⟨#[32, 103]⟩).run Tryd.prog W = .ok (.string (bunT L B T)) W) := by
  obtain ⟨a1, a2, b1, b2, c1, c2⟩ := bunB_of hr
  have z1 := decB_size (n := L) (by omega) (by omega)
  have z2 := decB_size (n := B) (by omega) (by omega)
  have z3 := decB_size (n := T) (by omega) (by omega)
  have m1 : (⟨#[32, 109, 109, 44, 32, 103, 105, 114, 116, 104, 32]⟩ : ByteArray).size = 11 := rfl
  have m2 : (⟨#[44, 32]⟩ : ByteArray).size = 2 := rfl
  have m3 : (⟨#[32, 103]⟩ : ByteArray).size = 2 := rfl
  exact ⟨_, _, _, _, _, _, _, rfl, rfl, rfl, fun W => run_string_add_sum W _ _ (by omega), fun W => run_string_add_sum W _ _ (by simp only [ByteArray.size_append]; omega),
    fun W => run_string_add_sum W _ _ (by simp only [ByteArray.size_append]; omega), fun W => run_string_add_sum W _ _ (by simp only [ByteArray.size_append]; omega), fun W => run_string_add_sum W _ _ (by simp only [ByteArray.size_append]; omega)⟩

theorem oneU_b (b o : Nat) (L B T : Int) (w : World) (h0 : w.cell? ⟨b, o, none⟩ = some (.int .i64 L)) (h1 : w.cell? ⟨b, o + 1, none⟩ = some (.int .i64 B)) (h2 : w.cell? ⟨b, o + 2, none⟩ = some (.int .i64 T)) :
    Calls Tryd.prog 64 #[.pointer (some ⟨b, o, none⟩)] w fun e w' => e = .returned (.bool (bunB L B T)) ∧ Below w.heap.size w w' :=
  (oneU_s b o L B T w h0 h1 h2).mono fun e w' ⟨h, n, hn⟩ => ⟨h, hn ▸ drewN_below (Below.refl _ _) n⟩

set_option maxHeartbeats 1000000 in
theorem bunchText_s_no (L B T : Int) (w : World) (hr : bunB L B T = false) :
    Calls Tryd.prog 24 #[.agg #[.int .i64 L, .int .i64 B, .int .i64 T]] w fun e w' => e = .returned (.string ⟨#[]⟩) ∧ Below w.heap.size w w' := by
  go_enter Tryd.func24, Tryd.ntmps24
  go_wp2_with fail
  refine (oneU_b _ _ L B T _ (by go_simp) (by go_simp) (by go_simp)).mono ?_
  rintro e w1 ⟨rfl, hb⟩
  have B1 : Below w.heap.size w w1 := Below.trans (by go_grown) (hb.mono (by simp <;> omega))
  go_wp2
  go_ret
  exact ⟨rfl, B1⟩
set_option maxHeartbeats 4000000 in
set_option maxRecDepth 100000 in
theorem bunchText_s (L B T : Int) (w : World) (hr : bunB L B T = true) :
    Calls Tryd.prog 24 #[.agg #[.int .i64 L, .int .i64 B, .int .i64 T]] w fun e w' => e = .returned (.string (bunT L B T)) ∧ Below w.heap.size w w' := by
  obtain ⟨sA, sB, sC, t1, t2, t3, t5, HA, HB, HC, e1, e2, e3, e4, e5⟩ := adds hr
  have l1 := Lib.hid (bunB_of hr)
  generalize bunT L B T = t4 at *
  go_enter Tryd.func24, Tryd.ntmps24
  go_wp2_with fail
  refine (oneU_b _ _ L B T _ (by go_simp) (by go_simp) (by go_simp)).mono ?_
  rintro e w0 ⟨rfl, hb⟩
  have x0 := hb.size
  simp at x0
  have c0 : w0.cell? ⟨w.heap.size, 0, none⟩ = some (.int .i64 L) := by rw [(bcell hb).1 _ _ (by simp <;> omega)]; go_simp
  have c1 : w0.cell? ⟨w.heap.size, 1, none⟩ = some (.int .i64 B) := by rw [(bcell hb).1 _ _ (by simp <;> omega)]; go_simp
  have c2 : w0.cell? ⟨w.heap.size, 2, none⟩ = some (.int .i64 T) := by rw [(bcell hb).1 _ _ (by simp <;> omega)]; go_simp
  have B0 : Below w.heap.size w w0 := Below.trans (by go_grown) (hb.mono (by simp <;> omega))
  clear hb
  go_wp2_with fail
  clear hr
  go_region_held3 (fun q => q.cell? ⟨w.heap.size, 0, none⟩ = some (.int .i64 L) ∧ q.cell? ⟨w.heap.size, 1, none⟩ = some (.int .i64 B) ∧ q.cell? ⟨w.heap.size, 2, none⟩ = some (.int .i64 T)) (first | go_keep | exact ⟨p0, p1, p2⟩ | exact ⟨q0, q1, q2⟩ | exact ⟨r0, r1, r2⟩)
    (first
      | (go_at_call_of 65 (Value.int .i64 L); refine (dec_st L sA (by have := l1.out; omega) (by have := l1.out; omega) HA.out _).mono ?_; rintro e w1 ⟨rfl, b1⟩
         have x1 := b1.size
         simp at x1
         have p0 : w1.cell? ⟨w.heap.size, 0, none⟩ = some (.int .i64 L) := by rw [(bcell b1).1 _ _ (by simp <;> omega)]; go_simp
         have p1 : w1.cell? ⟨w.heap.size, 1, none⟩ = some (.int .i64 B) := by rw [(bcell b1).1 _ _ (by simp <;> omega)]; go_simp
         have p2 : w1.cell? ⟨w.heap.size, 2, none⟩ = some (.int .i64 T) := by rw [(bcell b1).1 _ _ (by simp <;> omega)]; go_simp
         have B1 : Below w.heap.size w w1 := B0.drew.trans (b1.mono (by simp <;> omega))
         clear b1)
      | (go_at_call_of 65 (Value.int .i64 B); refine (dec_st B sB (by have := l1.out; omega) (by have := l1.out; omega) HB.out _).mono ?_; rintro e w2 ⟨rfl, b2⟩
         have x2 := b2.size
         have q0 : w2.cell? ⟨w.heap.size, 0, none⟩ = some (.int .i64 L) := by rw [(bcell b2).1 _ _ (by omega)]; exact p0
         have q1 : w2.cell? ⟨w.heap.size, 1, none⟩ = some (.int .i64 B) := by rw [(bcell b2).1 _ _ (by omega)]; exact p1
         have q2 : w2.cell? ⟨w.heap.size, 2, none⟩ = some (.int .i64 T) := by rw [(bcell b2).1 _ _ (by omega)]; exact p2
         have B2 : Below w.heap.size w w2 := B1.trans (b2.mono (by omega))
         clear b2)
      | (go_at_call_of 65 (Value.int .i64 T); refine (dec_st T sC (by have := l1.out; omega) (by have := l1.out; omega) HC.out _).mono ?_; rintro e w3 ⟨rfl, b3⟩
         have r0 : w3.cell? ⟨w.heap.size, 0, none⟩ = some (.int .i64 L) := by rw [(bcell b3).1 _ _ (by omega)]; exact q0
         have r1 : w3.cell? ⟨w.heap.size, 1, none⟩ = some (.int .i64 B) := by rw [(bcell b3).1 _ _ (by omega)]; exact q1
         have r2 : w3.cell? ⟨w.heap.size, 2, none⟩ = some (.int .i64 T) := by rw [(bcell b3).1 _ _ (by omega)]; exact q2
         have B3 : Below w.heap.size w w3 := B2.trans (b3.mono (by omega))
         clear b3))
  go_wp2
  go_ret
  exact ⟨rfl, B3⟩

set_option maxHeartbeats 1000000 in
theorem bunchText_i_no (L B T : Int) (w : World) (hr : bunB L B T = false) :
    Calls Tryd.prog 23 #[.agg #[.int .i64 L, .int .i64 B, .int .i64 T]] w fun e w' => e = .returned (.string ⟨#[]⟩) ∧ Below w.heap.size w w' := by
  go_enter Tryd.func23, Tryd.ntmps23
  go_wp2_with fail
  refine (bun_i L B T _).mono ?_
  rintro e w1 ⟨rfl, hb⟩
  have B1 : Below w.heap.size w w1 := Below.trans (by go_grown) (hb.mono (by simp <;> omega))
  go_wp2
  go_ret
  exact ⟨rfl, B1⟩
set_option maxHeartbeats 4000000 in
set_option maxRecDepth 100000 in
theorem bunchText_i (L B T : Int) (w : World) (hr : bunB L B T = true) (ht : Tab w) :
    Calls Tryd.prog 23 #[.agg #[.int .i64 L, .int .i64 B, .int .i64 T]] w fun e w' => e = .returned (.string (bunT L B T)) ∧ Below w.heap.size w w' := by
  obtain ⟨sA, sB, sC, t1, t2, t3, t5, HA, HB, HC, e1, e2, e3, e4, e5⟩ := adds hr
  have l1 := Lib.hid (bunB_of hr)
  have HT := Lib.hid ht
  clear ht
  generalize bunT L B T = t4 at *
  go_enter Tryd.func23, Tryd.ntmps23
  go_wp2_with fail
  refine (bun_i L B T _).mono ?_
  rintro e w0 ⟨rfl, hb⟩
  have x0 := hb.size
  simp at x0
  have c0 : w0.cell? ⟨w.heap.size, 0, none⟩ = some (.int .i64 L) := by rw [(bcell hb).1 _ _ (by simp <;> omega)]; go_simp
  have c1 : w0.cell? ⟨w.heap.size, 1, none⟩ = some (.int .i64 B) := by rw [(bcell hb).1 _ _ (by simp <;> omega)]; go_simp
  have c2 : w0.cell? ⟨w.heap.size, 2, none⟩ = some (.int .i64 T) := by rw [(bcell hb).1 _ _ (by simp <;> omega)]; go_simp
  have B0 : Below w.heap.size w w0 := Below.trans (by go_grown) (hb.mono (by simp <;> omega))
  clear hb
  go_wp2_with fail
  clear hr
  go_region_held3 (fun q => q.cell? ⟨w.heap.size, 0, none⟩ = some (.int .i64 L) ∧ q.cell? ⟨w.heap.size, 1, none⟩ = some (.int .i64 B) ∧ q.cell? ⟨w.heap.size, 2, none⟩ = some (.int .i64 T)) (first | go_keep | exact ⟨p0, p1, p2⟩ | exact ⟨q0, q1, q2⟩ | exact ⟨r0, r1, r2⟩)
    (first
      | (go_at_call_of 63 (Value.int .i64 L); refine (dec_it L sA (by have := l1.out; omega) (by have := l1.out; omega) HA.out _ (tab_below HT.out B0.drew)).mono ?_; rintro e w1 ⟨rfl, b1⟩
         have x1 := b1.size
         simp at x1
         have p0 : w1.cell? ⟨w.heap.size, 0, none⟩ = some (.int .i64 L) := by rw [(bcell b1).1 _ _ (by simp <;> omega)]; go_simp
         have p1 : w1.cell? ⟨w.heap.size, 1, none⟩ = some (.int .i64 B) := by rw [(bcell b1).1 _ _ (by simp <;> omega)]; go_simp
         have p2 : w1.cell? ⟨w.heap.size, 2, none⟩ = some (.int .i64 T) := by rw [(bcell b1).1 _ _ (by simp <;> omega)]; go_simp
         have B1 : Below w.heap.size w w1 := B0.drew.trans (b1.mono (by simp <;> omega))
         clear b1)
      | (go_at_call_of 63 (Value.int .i64 B); refine (dec_it B sB (by have := l1.out; omega) (by have := l1.out; omega) HB.out _ (tab_below HT.out B1)).mono ?_; rintro e w2 ⟨rfl, b2⟩
         have x2 := b2.size
         have q0 : w2.cell? ⟨w.heap.size, 0, none⟩ = some (.int .i64 L) := by rw [(bcell b2).1 _ _ (by omega)]; exact p0
         have q1 : w2.cell? ⟨w.heap.size, 1, none⟩ = some (.int .i64 B) := by rw [(bcell b2).1 _ _ (by omega)]; exact p1
         have q2 : w2.cell? ⟨w.heap.size, 2, none⟩ = some (.int .i64 T) := by rw [(bcell b2).1 _ _ (by omega)]; exact p2
         have B2 : Below w.heap.size w w2 := B1.trans (b2.mono (by omega))
         clear b2)
      | (go_at_call_of 63 (Value.int .i64 T); refine (dec_it T sC (by have := l1.out; omega) (by have := l1.out; omega) HC.out _ (tab_below HT.out B2)).mono ?_; rintro e w3 ⟨rfl, b3⟩
         have r0 : w3.cell? ⟨w.heap.size, 0, none⟩ = some (.int .i64 L) := by rw [(bcell b3).1 _ _ (by omega)]; exact q0
         have r1 : w3.cell? ⟨w.heap.size, 1, none⟩ = some (.int .i64 B) := by rw [(bcell b3).1 _ _ (by omega)]; exact q1
         have r2 : w3.cell? ⟨w.heap.size, 2, none⟩ = some (.int .i64 T) := by rw [(bcell b3).1 _ _ (by omega)]; exact q2
         have B3 : Below w.heap.size w w3 := B2.trans (b3.mono (by omega))
         clear b3))
  go_wp2
  go_ret
  exact ⟨rfl, B3⟩

end Go.Proofs.YtlepgkmpbhlajaaDoor.rod
