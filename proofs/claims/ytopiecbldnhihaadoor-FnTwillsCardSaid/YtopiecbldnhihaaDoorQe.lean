/-
  The library's Builder: writing a text. Twills: the contract of the program's row. No condition of a statement lies here.
-/
import Derived.Test.YtopiecbldnhihaaDoorFold8
import Derived.Test.YtopiecbldnhihaaDoorBuild
import Derived.Test.YtopiecbldnhihaaDoorShelf
namespace Go.Proofs.YtopiecbldnhihaaDoor.twl
open Go.ChangeShapes Go.WideShapes Go.ChangeAt Go.RowKit Go.Deep Go.Proofs.YtopiecbldnhihaaDoor.mem Go.Proofs.YtopiecbldnhihaaDoor.rod Go.Proofs.YtopiecbldnhihaaDoor.nums Go.Proofs.YtopiecbldnhihaaDoor.shp Go.Proofs.YtopiecbldnhihaaDoor.wv Go.Proofs.YtopiecbldnhihaaDoor.wk
open Go.Proofs.YtopiecbldnhihaaDoor.build (Bld check_c info_bld)
set_option linter.unusedVariables false
set_option maxRecDepth 100000

theorem info_u8' : (Tryd.prog.info? 5).map (fun i => (i.zero, i.size, i.bytes)) = some (some (.int .u8 0), 1, 1) := by kernel_rfl
set_option maxHeartbeats 2000000 in
theorem writeStr_c (B b : Nat) (bs : List Value) (s : ByteArray) (w : World) (h : Bld B b bs w) (hlen : bs.length + s.size ≤ 140737488355328) (hBw : B ≤ w.heap.size) :
    Calls Tryd.prog 69 #[.pointer (some ⟨b, 0, none⟩), .string s] w fun e w' => (∃ v, e = .returned v) ∧ Bld B b (bs ++ Lib.strCells s) w' ∧ Below B w w' := by
  obtain ⟨i0, hi, hz0, hz1, hz2⟩ := info_parts info_u8'
  have hlen2 : (bs ++ Lib.strCells s).length = bs.length + s.size := by rw [List.length_append, Lib.strCells_length]
  have hone := Lib.strCells_oneCell s
  go_enter Tryd.func69, Tryd.ntmps69
  go_wp2_with fail
  refine (check_c B b bs _ h).mono ?_
  rintro e w1 ⟨rfl, ⟨hB, v, hbk, hown, hne⟩, hb1, hk1⟩
  have z1 := hb1.size
  have c0 : w1.cell? ⟨b, 0, none⟩ = some (.pointer (some ⟨b, 0, none⟩)) := by rw [Lib.cell_of_heap hbk]; rfl
  have c1 : w1.cell? ⟨b, 1, none⟩ = some v := by rw [Lib.cell_of_heap hbk]; rfl
  go_wp2_with (at_builtin; refine Lib.wpList_append_own_stringF _ rfl _ _ 22 9 rfl B 5 i0 Tryd.underlying22 Tryd.underlying9 hi hz0 hz1 hz2 _ _ _ rfl hown s rfl ?c3 ?c4 ?c5 ?_)
  case c3 => unfold maxLen; omega
  case c4 => omega
  case c5 => omega
  intro v' w2 hown' hgrow _
  have hlt : b < w1.heap.size := by
    obtain ⟨hlt, _⟩ := Array.getElem?_eq_some_iff.1 hbk
    exact hlt
  have hb2 : w2.heap[b]? = some (.cells #[.pointer (some ⟨b, 0, none⟩), v] 88 (0, 0)) := by
    rw [hgrow.block b hlt (fun e => hne e.symm)]
    exact hbk
  have d1 : w2.cell? ⟨b, 1, none⟩ = some v := by rw [Lib.cell_of_heap hb2]; rfl
  have f1 : w2.frozen? ⟨b, 1, none⟩ = false := Lib.frozen_of_heap hb2 1
  have hv1 : ∃ A n c, v' = .slice A n c := by
    rcases hown'.2 with ⟨h0, _⟩ | ⟨g, cap, cur, fz, hv, _⟩
    · exact ⟨_, _, _, h0⟩
    · exact ⟨_, _, _, hv⟩
  obtain ⟨A, n', c', rfl⟩ := hv1
  go_wp2
  go_returns
  refine ⟨⟨_, rfl⟩, .inr ?_, ?_⟩
  · exact Lib.BuilderAtF.put (T := 88) (e := 5) hB hb2 (bs' := bs ++ Lib.strCells s) (by rw [hlen2]; exact hown') (by decide)
  · exact (hb1.grown hgrow (by omega) (fun k hk => (hown.lt k hk).1)).setCell (p := ⟨b, 1, none⟩) hB _

theorem extra_s : Builder.Extra Tryd.prog Tryd.lays169_ren where
  sizeBuilder := by kernel_rfl
  liesBuilder := by kernel_rfl
  t5 := Tryd.underlying5
  a5 := Tryd.isAgg5
  z5 := Tryd.sizeOf5
  v5 := Tryd.zeroValue5
  infoByte := by kernel_rfl
  cellsByte := by kernel_rfl
  sizeByte := by kernel_rfl
  neB5 := by decide
theorem extra_r : Builder.Extra Tryd.prog Tryd.lays105_ren where
  sizeBuilder := by kernel_rfl
  liesBuilder := by kernel_rfl
  t5 := Tryd.underlying5
  a5 := Tryd.isAgg5
  z5 := Tryd.sizeOf5
  v5 := Tryd.zeroValue5
  infoByte := by kernel_rfl
  cellsByte := by kernel_rfl
  sizeByte := by kernel_rfl
  neB5 := by decide
theorem repeat_one (c : UInt8) : ∀ m : Nat, Lib.repeatL [c] m = List.replicate m c
  | 0 => rfl
  | m + 1 => by rw [Lib.repeatL, repeat_one c m]; rfl
theorem repeat_c (c : UInt8) (m : Nat) (h1 : 1 ≤ m) (h2 : m ≤ 12) (w : World) :
    Calls Tryd.prog 72 #[.string ⟨#[c]⟩, .int .i64 (m : Int)] w fun e w' => e = .returned (.string ⟨(List.replicate m c).toArray⟩) ∧ Below w.heap.size w w' := by
  by_cases h : m = 1
  · subst h
    exact (Any.strings_Repeat_one Tryd.lays105 ⟨#[c]⟩ w).mono fun _ _ ⟨p, q⟩ => ⟨p, q ▸ Below.refl _ _⟩
  · have hl : (⟨#[c]⟩ : ByteArray).size = 1 := rfl
    refine (Any.strings_Repeat_main Tryd.lays105 extra_r ⟨#[c]⟩ m w (by omega) (by omega) (by rw [hl]; omega) (by rw [hl]; omega)).mono fun _ _ ⟨p, q⟩ => ⟨?_, q⟩
    rw [p, ← repeat_one]
theorem byteCells_app (a b : List UInt8) : Lib.byteCells (a ++ b) = Lib.byteCells a ++ Lib.byteCells b := by unfold Lib.byteCells; rw [List.map_append]

theorem lt_of_get {w : World} {b : Nat} {o : Obj} (h : w.heap[b]? = some o) : b < w.heap.size := (Array.getElem?_eq_some_iff.1 h).1
/-- what keeps all old blocks keeps a builder -/
theorem bld_below {B b : Nat} {bs : List Value} {w w' : World} (h : Bld B b bs w) (hk : Below w.heap.size w w') : Bld B b bs w' := by
  have hA : ∀ p, Lib.BuilderAtF 88 5 B b p bs w → Lib.BuilderAtF 88 5 B b p bs w' := by
    rintro p ⟨hB, v, hb, ⟨hl, hown⟩, hne⟩
    refine ⟨hB, v, (hk.block b (lt_of_get hb)).trans hb, ⟨hl, ?_⟩, hne⟩
    rcases hown with h0 | ⟨g, cap, cur, fz, e, hg, hh, r⟩
    · exact .inl h0
    · exact .inr ⟨g, cap, cur, fz, e, hg, (hk.block g (lt_of_get hh)).trans hh, r⟩
  rcases h with h | h
  · exact .inl (hA _ h)
  · exact .inr (hA _ h)

set_option maxHeartbeats 4000000 in
theorem rowR_i (A : Option Addr) (n c : Nat) (X : Nat → Int) (w : World) (hn : n ≤ 12) (hX : ∀ k, k < n → 1 ≤ X k ∧ X k ≤ 12) (hr : Sl w A n 1 X) :
    Calls Tryd.prog 60 #[.slice A n c] w fun e w' => e = .returned (.string (rowB X n)) ∧ Below w.heap.size w w' := by
  have HF := Lib.hid (Lib.IsBuilderF.of (Lib.fresh_isBuilder 88 5 w))
  have HR := Lib.hid hr
  have HX := Lib.hid hX
  clear hr hX
  go_enter Tryd.func60, Tryd.ntmps60
  go_wp2_with fail
  go_loopw [9] (fun s wr => ∃ k : Nat, k ≤ n ∧ s = .int .i64 k ∧ Hid (Bld w.heap.size w.heap.size (Lib.byteCells (rowL X k)) wr) ∧ Below w.heap.size w wr) (fun s _ => n - (intOf s).toNat)
  case atStart => exact ⟨0, by omega, rfl, HF.out, (Below.refl _ _).alloc (Nat.le_refl _) _⟩
  case round =>
    obtain ⟨k, hk, rfl, hbld, hbl⟩ := hrel
    have HB := Lib.hid hbl
    have hzz := hbl.size
    clear hbl
    by_cases hlt : k < n
    · have hlt' : (k : Int) < (n : Int) := by omega
      obtain ⟨b1, o1, rfl, hb, hI⟩ := HR.out (by omega)
      have h0 := hI.below HB.out hb k (by omega)
      obtain ⟨x0, x1⟩ := HX.out k hlt
      obtain ⟨m, hm⟩ : ∃ m : Nat, X k = (m : Int) := ⟨(X k).toNat, by omega⟩
      have hml : m ≤ 12 := by omega
      have hm1 : 1 ≤ m := by omega
      rw [hm] at h0
      have hlen : (Lib.byteCells (rowL X k)).length ≤ 200 := by
        have h2 := rowL_len (n := k) fun j hj => HX.out j (by omega)
        have h3 := (sumN_bd (n := k) fun j hj => HX.out j (by omega)).2
        unfold Lib.byteCells
        rw [List.length_map]
        omega
      have HL := Lib.hid (show rowL X (k + 1) = rowL X k ++ List.replicate m (lt k) by simp [rowL, hm])
      have HC := Lib.hid (fun W => repeat_c (lt k) m hm1 hml W)
      have hsz : (⟨(List.replicate m (lt k)).toArray⟩ : ByteArray).size = m := by show (List.replicate m (lt k)).toArray.size = m; simp
      have hst : Lib.strCells ⟨(List.replicate m (lt k)).toArray⟩ = Lib.byteCells (List.replicate m (lt k)) := rfl
      clear hI hm
      generalize hR : (⟨(List.replicate m (lt k)).toArray⟩ : ByteArray) = R at *
      clear hR
      by_cases he : k % 2 = 0
      · have e1 : ((k : Int) % 2 == 1) = false := beq_false_of_ne (by omega)
        rw [lt_even he] at HC
        clear he
        go_wp2_with (first
          | (go_at_call 72; refine (HC.out _).mono ?_; rintro e w2 ⟨rfl, hb2⟩
             have z2 := hb2.size
             have G2 := Lib.hid (bld_below hbld.out hb2)
             have B2 := Lib.hid (HB.out.trans (hb2.mono (by omega)))
             clear hb2)
          | (go_at_call 69; refine (writeStr_c _ _ _ R _ G2.out (by omega) (by omega)).mono ?_; rintro e w3 ⟨⟨v3, rfl⟩, hb3, hg3⟩
             have B3 := Lib.hid (B2.out.trans hg3)
             have G3 := Lib.hid hb3
             rw [hst, ← byteCells_app, ← HL.out] at G3
             clear hb3 hg3))
        go_roundw
        case rel => exact ⟨k + 1, by omega, by go_num, G3, B3.out⟩
        case measure => simp [intOf]; omega
      · have e1 : ((k : Int) % 2 == 1) = true := beq_iff_eq.2 (by omega)
        rw [lt_odd he] at HC
        clear he
        go_wp2_with (first
          | (go_at_call 72; refine (HC.out _).mono ?_; rintro e w2 ⟨rfl, hb2⟩
             have z2 := hb2.size
             have G2 := Lib.hid (bld_below hbld.out hb2)
             have B2 := Lib.hid (HB.out.trans (hb2.mono (by omega)))
             clear hb2)
          | (go_at_call 69; refine (writeStr_c _ _ _ R _ G2.out (by omega) (by omega)).mono ?_; rintro e w3 ⟨⟨v3, rfl⟩, hb3, hg3⟩
             have B3 := Lib.hid (B2.out.trans hg3)
             have G3 := Lib.hid hb3
             rw [hst, ← byteCells_app, ← HL.out] at G3
             clear hb3 hg3))
        go_roundw
        case rel => exact ⟨k + 1, by omega, by go_num, G3, B3.out⟩
        case measure => simp [intOf]; omega
    · obtain rfl : k = n := by omega
      go_wp2_with fail
      refine (Any.Builder_String_any_f Tryd.lays169 extra_s w.heap.size w.heap.size (rowL X k) _ hbld.out hzz).mono ?_
      rintro e w4 ⟨rfl, _, hb4⟩
      have B4 := Lib.hid (HB.out.trans hb4)
      clear hb4
      go_wp2
      go_ret
      exact ⟨rfl, B4.out⟩

set_option maxHeartbeats 1000000 in
theorem row_i (A : Option Addr) (n c : Nat) (X : Nat → Int) (st : Int) (w : World) (hn : n ≤ 12) (hX : ∀ k, k < n → 1 ≤ X k ∧ X k ≤ 12) (hr : Sl w A n 1 X) :
    Calls Tryd.prog 36 #[.agg #[.slice A n c, .int .i64 st]] w fun e w' => e = .returned (.string (rowB X n)) ∧ Below w.heap.size w w' := by
  have HR := Lib.hid hr
  clear hr
  go_enter Tryd.func36, Tryd.ntmps36
  go_wp2_with fail
  refine (rowR_i A n c X _ hn hX (HR.out.below (K := w.heap.size) (by go_grown) (Nat.le_refl _))).mono ?_
  rintro e w1 ⟨rfl, hb⟩
  have g1 : Below w.heap.size w w1 := Below.trans (by go_grown) (hb.mono (by simp))
  clear hb
  go_wp2
  go_ret
  exact ⟨rfl, g1⟩

end Go.Proofs.YtopiecbldnhihaaDoor.twl
