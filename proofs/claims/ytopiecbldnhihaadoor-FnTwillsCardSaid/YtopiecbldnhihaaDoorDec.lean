/-
  The model's decimal form of a number: digits are put in front of a slice of bytes, one by one.
-/
import Derived.Test.YtopiecbldnhihaaDoorMem
import Derived.OwnWalk
import Derived.Laws.BytesString
import Derived.Laws.Cells
import Derived.Laws.Concat
import Derived.Lib.ItoaNum
import Derived.Outline
namespace Go.Proofs.YtopiecbldnhihaaDoor.dec
open Go.ChangeShapes Go.WideShapes Go.ChangeAt Go.RowKit
open Go.Proofs.YtopiecbldnhihaaDoor.mem
set_option linter.unusedVariables false

def bv (b : UInt8) : Value := .int .u8 (b.toNat : Int)
theorem bv_one (b : UInt8) : (bv b).oneCell' = true := rfl
theorem bv_digit {r : Nat} (h : r ≤ 9) : bv (UInt8.ofNat (48 + r)) = .int .u8 (48 + (r : Int)) := by
  unfold bv
  have : (UInt8.ofNat (48 + r)).toNat = 48 + r := by simp; omega
  rw [this]
  congr 1

theorem bv_zero : bv (UInt8.ofNat (48 + 0)) = .int .u8 48 := rfl

theorem push_all (ns : List UInt8) : ∀ s : ByteArray, (ns.map fun b => (b.toNat : Int)).foldl (fun r n => r.push (UInt8.ofNat n.toNat)) s = ⟨s.data ++ ns.toArray⟩ := by
  induction ns with
  | nil => intro s; simp
  | cons b ns ih =>
    intro s
    simp only [List.map_cons, List.foldl_cons]
    rw [ih]
    congr 1
    simp [ByteArray.push]
theorem run_str_row {P : Program} (w : World) (src dst e : TypeId) (hs : P.underlying src = some (.slice e)) (he : P.underlying e = some (.int .u8)) (hd : P.underlying dst = some .string)
    (a : Addr) (n cap : Nat) (ds : List UInt8) (hn : ds.length = n) (h : ∀ j v, (ds.map bv)[j]? = some v → w.cell? (a.add j) = some v) :
    (convert src dst (.slice (some a) n cap)).run P w = .ok (.string ⟨ds.toArray⟩) w := by
  rw [run_convert_bytes_string w src dst e _ _ _ hs he hd]
  subst hn
  have hl := run_loadCells_list (P := P) (w := w) a (ds.map bv) h
  rw [List.length_map] at hl
  have e1 : ds.map bv = (ds.map fun b => (b.toNat : Int)).map (Value.int .u8) := by rw [List.map_map]; rfl
  rw [e1] at hl
  rw [run_bytesToString w a ds.length cap _ hl, push_all]
  congr 2
  simp

/-- what is told when q is left and ds stands there already -/
def fin (q : Nat) (ds : List UInt8) : List UInt8 := if q = 0 then ds else Lib.decDigits q ++ ds
theorem fin_step {q : Nat} (h : q ≠ 0) (ds : List UInt8) : fin (q / 10) (UInt8.ofNat (48 + q % 10) :: ds) = fin q ds := by
  unfold fin
  rw [if_neg h]
  by_cases h1 : q < 10
  · rw [if_pos (by omega), Lib.decDigits, dif_pos h1, Nat.mod_eq_of_lt h1]
    rfl
  · rw [if_neg (by omega), Lib.decDigits.eq_1 q, dif_neg h1]
    simp
theorem len_of {q m l : Nat} (h : q * 10 ^ l ≤ m) (hq : q ≠ 0) (hm : m ≤ 9223372036854775808) : l < 20 := by
  rcases Nat.lt_or_ge l 20 with h1 | h1
  · exact h1
  · have h2 : 10 ^ 20 ≤ 10 ^ l := Nat.pow_le_pow_right (by omega) h1
    have h3 : 1 * 10 ^ l ≤ q * 10 ^ l := Nat.mul_le_mul_right _ (by omega)
    have h4 : (10 : Nat) ^ 20 = 100000000000000000000 := by decide
    omega
theorem pow_step {q m l : Nat} (h : q * 10 ^ l ≤ m) : q / 10 * 10 ^ (l + 1) ≤ m := by
  have h1 : q / 10 * 10 ^ (l + 1) = q / 10 * 10 * 10 ^ l := by rw [Nat.pow_succ, Nat.mul_comm (10 ^ l) 10, Nat.mul_assoc]
  have h2 : q / 10 * 10 ≤ q := Nat.div_mul_le_self q 10
  have h3 : q / 10 * 10 * 10 ^ l ≤ q * 10 ^ l := Nat.mul_le_mul_right _ h2
  omega

theorem info_byte : (Tryd.prog.info? 5).map (fun i => (i.zero, i.size, i.bytes)) = some (some (.int .u8 0), 1, 1) := by kernel_rfl

theorem owns_one (w : World) (B : Nat) (E : TypeId) (v : Value) (hB : B ≤ w.heap.size) : (w.alloc (Obj.cells #[v] E)).ownsRow B E 1 (.slice (some ⟨w.heap.size, 0, none⟩) 1 1) 1 [v] :=
  ⟨rfl, .inr ⟨w.heap.size, 1, #[v], rfl, hB, Go.Deep.blk_alloc_new _ _, Nat.le_refl _, by unfold maxLen; omega, rfl, rfl⟩⟩
theorem owns_form {w : World} {B n size : Nat} {E : TypeId} {v : Value} {xs : List Value} (h : w.ownsRow B E size v n xs) (hv : ¬ v = .slice none 0 0) : ∃ g cap, v = .slice (some ⟨g, 0, none⟩) n cap ∧ B ≤ g := by
  rcases h.2 with ⟨rfl, _⟩ | ⟨g, cap, cur, rfl, hB, _⟩
  · exact absurd rfl hv
  · exact ⟨g, cap, rfl, hB⟩

set_option maxHeartbeats 4000000 in
set_option maxRecDepth 100000 in
theorem dec_pos (m : Nat) (h1 : m ≤ 9223372036854775807) (w : World) :
    Calls Tryd.prog 56 #[.int .i64 m] w fun e w' => e = .returned (.string ⟨(Lib.itoa m).toArray⟩) ∧ Below w.heap.size w w' := by
  obtain ⟨i0, hi0, hz0, hz1, hz2⟩ := info_parts info_byte
  · have H1 := Lib.hid h1
    clear h1
    have hmneg : ¬ (m : Int) < 0 := by omega
    go_enter Tryd.func56, Tryd.ntmps56
    go_wp2_with fail
    go_loopw [4, 3] (fun k v wr => ∃ (q : Nat) (ds : List UInt8) (g cap : Nat), k = .int .i64 ((q : Int)) ∧ v = .slice (some ⟨g, 0, none⟩) ds.length cap ∧ q ≤ m ∧ q * 10 ^ ds.length ≤ m ∧ ds.length ≤ 20 ∧ Hid (fin q ds = fin m []) ∧ Hid (wr.ownsRow w.heap.size 5 1 v ds.length (ds.map bv)) ∧ Below w.heap.size w wr) (fun k _ _ => (intOf k).natAbs)
    case atStart => exact ⟨m, [], _, _, rfl, rfl, Nat.le_refl _, by simp, by simp, rfl, ⟨rfl, .inr ⟨_, 0, #[], rfl, Nat.le_refl _, Go.Deep.blk_alloc_new _ _, Nat.le_refl _, by unfold maxLen; omega, rfl, rfl⟩⟩, by go_grown⟩
    case round =>
      obtain ⟨q, ds, g, cap, rfl, rfl, hqm, hpow, hlen, HF, hown, hbl⟩ := hrel
      have HB := Lib.hid hbl
      have hzz := hbl.size
      have HP := Lib.hid hpow
      clear hbl hpow
      by_cases hq : q = 0
      · subst hq
        have hf : ds = fin m [] := HF.out
        by_cases hm0 : m = 0
        · subst hm0
          obtain rfl : ds = [] := hf
          go_wp2
          go_ret
          exact ⟨by simp [Lib.itoa, Lib.decDigits], HB.out⟩
        · have hd : ds = Lib.decDigits m := by rw [hf]; unfold fin; rw [if_neg hm0, List.append_nil]
          have hi : Lib.itoa (m : Int) = ds := by unfold Lib.itoa; rw [if_neg (by omega), hd]; rfl
          have hne : ds.length ≠ 0 := by
            intro h
            have := List.eq_nil_of_length_eq_zero h
            rw [this] at hd
            have h2 : (Lib.decDigits m).length = 0 := by rw [← hd]; rfl
            rw [Lib.decDigits] at h2
            split at h2 <;> simp at h2
          have hcv := run_str_row (P := Tryd.prog) wr 22 9 5 Tryd.underlying22 Tryd.underlying5 Tryd.underlying9 ⟨g, 0, none⟩ ds.length cap ds rfl (fun j u hu => hown.out.cells (g := g) rfl j u hu)
          have HI := Lib.hid hi
          have e1 : ((ds.length : Int) == 0) = false := by simp; intro h; exact hne (by rw [h]; rfl)
          have e2 : (0 : Int) < (ds.length : Int) := by omega
          clear hf hd hi hne hm0
          generalize hL : ds.length = L at *
          clear hL
          go_wp2
          go_ret
          exact ⟨by rw [HI.out]; rfl, HB.out⟩
      · have hq1 : (1 : Int) ≤ (q : Int) := by omega
        have e1 : ((q : Int) == 0) = false := by simp; omega
        have e2 : ((q : Int) != 0) = true := by simp; omega
        obtain ⟨r, hr⟩ : ∃ r, r = q % 10 := ⟨_, rfl⟩
        obtain ⟨p, hp⟩ : ∃ p, p = q / 10 := ⟨_, rfl⟩
        have hr9 : r ≤ 9 := by omega
        have hpq : p < q := by omega
        have hpm : p ≤ m := by omega
        have hr9' : (r : Int) ≤ 9 := by omega
        have hr0 : (0 : Int) ≤ (r : Int) := by omega
        have hl19 := len_of HP.out hq (by have := H1.out; omega)
        have pb : (p : Int) ≤ 9223372036854775807 := by have := H1.out; omega
        have hl1 : 1 + ds.length ≤ maxLen := by unfold maxLen; omega
        have hl2 : (1 + ds.length) * 1 ≤ 140737488355328 := by omega
        have t1 : (q : Int) % 10 = (r : Int) := by omega
        have t2 : (q : Int) / 10 = (p : Int) := by omega
        have HR := Lib.hid hr
        have HP2 := Lib.hid hp
        have HQ := Lib.hid hq
        generalize hL : ds.length = L at *
        have HL := Lib.hid hL
        clear hL hr hp hq
        go_wp2_with (at_builtin; refine wpList_append_own _ rfl _ _ 22 rfl w.heap.size 5 i0 (.int .u8 0) 1 1 Tryd.underlying22 hi0 hz0 hz1 hz2 rfl (by decide) _ 1 [.int .u8 (48 + (r : Int))] rfl (owns_one _ _ _ _ hzz) ⟨g, 0, none⟩ L cap (ds.map bv) rfl (by rw [List.length_map, HL.out, Nat.mul_one]) ?c1 ?c2 hl1 hl2 ?c5 ?_)
        case c1 => exact fun j u hu => (hown.out.alloc _).cells (g := g) rfl j u hu
        case c2 => intro u hu; obtain ⟨b, _, rfl⟩ := List.mem_map.1 hu; rfl
        case c5 => simp; omega
        intro v' w1 hown1 hgrow1 hnn
        obtain ⟨g', cap', rfl, hg'⟩ := owns_form hown1 hnn
        have g1 : Below w.heap.size w w1 := Below.grown (HB.out.alloc hzz _) hgrow1 (by simp; omega) (by intro k hk; simp [Value.ownBlock] at hk; omega)
        have HO := Lib.hid hown1
        clear hown1 hgrow1 hnn
        go_wp2
        go_roundw
        case rel =>
          refine ⟨p, UInt8.ofNat (48 + r) :: ds, g', cap', rfl, ?_, by omega, ?_, ?_, ?_, ?_, g1⟩
          · rw [List.length_cons, HL.out, Nat.add_comm]
          · rw [List.length_cons, HP2.out, HL.out]; exact pow_step HP.out
          · rw [List.length_cons, HL.out]; omega
          · rw [Hid, HP2.out, HR.out, fin_step HQ.out]; exact HF.out
          · rw [Hid, List.length_cons, HL.out, Nat.add_comm L 1, List.map_cons, bv_digit hr9]; exact HO.out
        case measure => simp [intOf]; omega

set_option maxHeartbeats 4000000 in
set_option maxRecDepth 100000 in
theorem dec_neg (m : Nat) (h0 : 0 < m) (h1 : m ≤ 9223372036854775808) (w : World) :
    Calls Tryd.prog 56 #[.int .i64 (-(m : Int))] w fun e w' => e = .returned (.string ⟨(Lib.itoa (-(m : Int))).toArray⟩) ∧ Below w.heap.size w w' := by
  obtain ⟨i0, hi0, hz0, hz1, hz2⟩ := info_parts info_byte
  · have H1 := Lib.hid h1
    clear h1
    have hmneg : (-(m : Int)) < 0 := by omega
    go_enter Tryd.func56, Tryd.ntmps56
    go_wp2_with fail
    go_loopw [4, 3] (fun k v wr => ∃ (q : Nat) (ds : List UInt8) (g cap : Nat), k = .int .i64 (-(q : Int)) ∧ v = .slice (some ⟨g, 0, none⟩) ds.length cap ∧ q ≤ m ∧ q * 10 ^ ds.length ≤ m ∧ ds.length ≤ 20 ∧ Hid (fin q ds = fin m []) ∧ Hid (wr.ownsRow w.heap.size 5 1 v ds.length (ds.map bv)) ∧ Below w.heap.size w wr) (fun k _ _ => (intOf k).natAbs)
    case atStart => exact ⟨m, [], _, _, rfl, rfl, Nat.le_refl _, by simp, by simp, rfl, ⟨rfl, .inr ⟨_, 0, #[], rfl, Nat.le_refl _, Go.Deep.blk_alloc_new _ _, Nat.le_refl _, by unfold maxLen; omega, rfl, rfl⟩⟩, by go_grown⟩
    case round =>
      obtain ⟨q, ds, g, cap, rfl, rfl, hqm, hpow, hlen, HF, hown, hbl⟩ := hrel
      have HB := Lib.hid hbl
      have hzz := hbl.size
      have HP := Lib.hid hpow
      clear hbl hpow
      by_cases hq : q = 0
      · subst hq
        have hf : ds = fin m [] := HF.out
        have hm0 : m ≠ 0 := by omega
        have hd : ds = Lib.decDigits m := by rw [hf]; unfold fin; rw [if_neg hm0, List.append_nil]
        have hi : Lib.itoa (-(m : Int)) = 45 :: ds := by unfold Lib.itoa; rw [if_pos hmneg, hd]; congr 2; omega
        have hne : ds.length ≠ 0 := by
          intro h
          have := List.eq_nil_of_length_eq_zero h
          rw [this] at hd
          have h2 : (Lib.decDigits m).length = 0 := by rw [← hd]; rfl
          rw [Lib.decDigits] at h2
          split at h2 <;> simp at h2
        have hcv := run_str_row (P := Tryd.prog) wr 22 9 5 Tryd.underlying22 Tryd.underlying5 Tryd.underlying9 ⟨g, 0, none⟩ ds.length cap ds rfl (fun j u hu => hown.out.cells (g := g) rfl j u hu)
        have HI := Lib.hid hi
        have e1 : ((ds.length : Int) == 0) = false := by simp; intro h; exact hne (by rw [h]; rfl)
        have e2 : (0 : Int) < (ds.length : Int) := by omega
        have hadd : ∀ W, (Op.stringOp .add ⟨#[45]⟩ ⟨ds.toArray⟩).run Tryd.prog W = .ok (.string ⟨(45 :: ds).toArray⟩) W := fun W => by
          rw [run_string_add_sum W _ _ (by simp [ByteArray.size]; omega)]
          congr 2
        clear hf hd hi hne hm0
        generalize hL : ds.length = L at *
        clear hL
        go_wp2
        go_ret
        exact ⟨by rw [HI.out]; rfl, HB.out⟩
      · have hq1 : -(q : Int) ≤ -1 := by omega
        have e1 : (-(q : Int) == 0) = false := by simp; omega
        have e2 : (-(q : Int) != 0) = true := by simp; omega
        obtain ⟨r, hr⟩ : ∃ r, r = q % 10 := ⟨_, rfl⟩
        obtain ⟨p, hp⟩ : ∃ p, p = q / 10 := ⟨_, rfl⟩
        have hr9 : r ≤ 9 := by omega
        have hpq : p < q := by omega
        have hpm : p ≤ m := by omega
        have hr9' : (r : Int) ≤ 9 := by omega
        have hr0 : (0 : Int) ≤ (r : Int) := by omega
        have hl19 := len_of HP.out hq (by have := H1.out; omega)
        have pb : (p : Int) ≤ 9223372036854775807 := by have := H1.out; omega
        have hl1 : 1 + ds.length ≤ maxLen := by unfold maxLen; omega
        have hl2 : (1 + ds.length) * 1 ≤ 140737488355328 := by omega
        have t1 : (-(q : Int)).tmod 10 = -(r : Int) := by rw [Int.neg_tmod, Int.tmod_eq_emod_of_nonneg (by omega)]; omega
        have t2 : (-(q : Int)).tdiv 10 = -(p : Int) := by rw [Int.neg_tdiv, Int.tdiv_eq_ediv_of_nonneg (by omega)]; omega
        have HR := Lib.hid hr
        have HP2 := Lib.hid hp
        have HQ := Lib.hid hq
        generalize hL : ds.length = L at *
        have HL := Lib.hid hL
        clear hL hr hp hq
        by_cases hrz : r = 0
        · have z1 : ¬ -(r : Int) < 0 := by omega
          have t3 : (-(q : Int)).tmod 10 = 0 := by rw [t1, hrz]; rfl
          subst hrz
          clear t1
          have hc1 : ∀ j u, (ds.map bv)[j]? = some u → (wr.alloc (Obj.cells #[Value.int .u8 48] 5)).cell? ((⟨g, 0, none⟩ : Addr).add j) = some u := fun j u hu => (hown.out.alloc _).cells (g := g) rfl j u hu
          have hc2 : ∀ u ∈ ds.map bv, u.oneCell' = true := by intro u hu; obtain ⟨b, _, rfl⟩ := List.mem_map.1 hu; rfl
          have hc5 : w.heap.size ≤ (wr.alloc (Obj.cells #[Value.int .u8 48] 5)).heap.size := by simp; omega
          have C1 := Lib.hid hc1
          have C2 := Lib.hid hc2
          have C5 := Lib.hid hc5
          clear hc1 hc2 hc5
          go_wp2_with (at_builtin; refine wpList_append_own _ rfl _ _ 22 rfl w.heap.size 5 i0 (.int .u8 0) 1 1 Tryd.underlying22 hi0 hz0 hz1 hz2 rfl (by decide) _ 1 [.int .u8 48] rfl (owns_one _ _ _ _ hzz) ⟨g, 0, none⟩ L cap (ds.map bv) rfl (by rw [List.length_map, HL.out, Nat.mul_one]) C1.out C2.out hl1 hl2 C5.out ?_)
          intro v' w1 hown1 hgrow1 hnn
          obtain ⟨g', cap', rfl, hg'⟩ := owns_form hown1 hnn
          have g1 : Below w.heap.size w w1 := Below.grown (HB.out.alloc hzz _) hgrow1 (by simp; omega) (by intro k hk; simp [Value.ownBlock] at hk; omega)
          have HO := Lib.hid hown1
          clear hown1 hgrow1 hnn
          go_wp2
          go_roundw
          case rel =>
            refine ⟨p, UInt8.ofNat (48 + 0) :: ds, g', cap', rfl, ?_, by omega, ?_, ?_, ?_, ?_, g1⟩
            · rw [List.length_cons, HL.out, Nat.add_comm]
            · rw [List.length_cons, HP2.out, HL.out]; exact pow_step HP.out
            · rw [List.length_cons, HL.out]; omega
            · rw [Hid, HP2.out, HR.out, fin_step HQ.out]; exact HF.out
            · rw [Hid, List.length_cons, HL.out, Nat.add_comm L 1, List.map_cons, bv_zero]; exact HO.out
          case measure => simp [intOf]; omega
        · have z1 : -(r : Int) < 0 := by omega
          go_wp2_with (at_builtin; refine wpList_append_own _ rfl _ _ 22 rfl w.heap.size 5 i0 (.int .u8 0) 1 1 Tryd.underlying22 hi0 hz0 hz1 hz2 rfl (by decide) _ 1 [.int .u8 (48 + (r : Int))] rfl (owns_one _ _ _ _ hzz) ⟨g, 0, none⟩ L cap (ds.map bv) rfl (by rw [List.length_map, HL.out, Nat.mul_one]) ?c1 ?c2 hl1 hl2 ?c5 ?_)
          case c1 => exact fun j u hu => (hown.out.alloc _).cells (g := g) rfl j u hu
          case c2 => intro u hu; obtain ⟨b, _, rfl⟩ := List.mem_map.1 hu; rfl
          case c5 => simp; omega
          intro v' w1 hown1 hgrow1 hnn
          obtain ⟨g', cap', rfl, hg'⟩ := owns_form hown1 hnn
          have g1 : Below w.heap.size w w1 := Below.grown (HB.out.alloc hzz _) hgrow1 (by simp; omega) (by intro k hk; simp [Value.ownBlock] at hk; omega)
          have HO := Lib.hid hown1
          clear hown1 hgrow1 hnn
          go_wp2
          go_roundw
          case rel =>
            refine ⟨p, UInt8.ofNat (48 + r) :: ds, g', cap', rfl, ?_, by omega, ?_, ?_, ?_, ?_, g1⟩
            · rw [List.length_cons, HL.out, Nat.add_comm]
            · rw [List.length_cons, HP2.out, HL.out]; exact pow_step HP.out
            · rw [List.length_cons, HL.out]; omega
            · rw [Hid, HP2.out, HR.out, fin_step HQ.out]; exact HF.out
            · rw [Hid, List.length_cons, HL.out, Nat.add_comm L 1, List.map_cons, bv_digit hr9]; exact HO.out
          case measure => simp [intOf]; omega

theorem dec_s (n : Int) (h0 : -9223372036854775808 ≤ n) (h1 : n ≤ 9223372036854775807) (w : World) :
    Calls Tryd.prog 56 #[.int .i64 n] w fun e w' => e = .returned (.string ⟨(Lib.itoa n).toArray⟩) ∧ Below w.heap.size w w' := by
  by_cases hneg : n < 0
  · obtain ⟨m, hm⟩ := Int.eq_ofNat_of_zero_le (by omega : 0 ≤ -n)
    obtain rfl : n = -(m : Int) := by omega
    exact dec_neg m (by omega) (by omega) w
  · obtain ⟨m, rfl⟩ := Int.eq_ofNat_of_zero_le (by omega : 0 ≤ n)
    exact dec_pos m (by omega) w

end Go.Proofs.YtopiecbldnhihaaDoor.dec
