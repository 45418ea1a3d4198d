/-
  Twills: one face, contracts of the model and of the program. No condition of a statement lies here.
-/
import Derived.Test.YtopiecbldnhihaaDoorQh
namespace Go.Proofs.YtopiecbldnhihaaDoor.twl
open Go.ChangeShapes Go.WideShapes Go.ChangeAt Go.RowKit Go.Deep Go.Proofs.YtopiecbldnhihaaDoor.mem Go.Proofs.YtopiecbldnhihaaDoor.rod Go.Proofs.YtopiecbldnhihaaDoor.nums Go.Proofs.YtopiecbldnhihaaDoor.shp Go.Proofs.YtopiecbldnhihaaDoor.wv Go.Proofs.YtopiecbldnhihaaDoor.wk
set_option linter.unusedVariables false
set_option maxRecDepth 100000

/-- one of the turns is the other text -/
def oneTurn (z y : ByteArray) : Bool := hasT (turnL z z.size) y
theorem oneTurn_iff {z y : ByteArray} : oneTurn z y = true ↔ ∃ i, i < z.size ∧ tB z i = y := by unfold oneTurn; rw [hasT_iff, turnL_mem]
theorem oneTurn_per {z y : ByteArray} {p : Nat} (h0 : 0 < z.size) (hp : Per z p) : hasT (turnL z p) y = oneTurn z y := by
  rw [Bool.eq_iff_iff, hasT_iff, turnL_mem, oneTurn_iff]
  have hpl := hp.le
  have hpp := hp.pos
  constructor
  · rintro ⟨j, hj, e⟩; exact ⟨j, by omega, e⟩
  · rintro ⟨i, hi, e⟩
    have hm := Nat.mod_lt i (show 0 < p by omega)
    exact ⟨i % p, hm, by rw [← e, turn_eq h0 hp (by omega) (by omega), Nat.mod_mod]⟩
/-- a turn of the first p letters, as the model writes it -/
theorem turn_pre {x : ByteArray} {p i : Nat} (hp : p ≤ x.size) (hi : i ≤ p) : x.extract i p ++ x.extract 0 i = tB (x.extract 0 p) i := by
  have hz := extract_size x (Nat.zero_le p) hp
  have a1 := extract_size x hi hp
  have a2 := extract_size x (Nat.zero_le i) (by omega)
  refine ext_byte (by rw [tB_size _ (by omega), ByteArray.size_append]; omega) fun k hk => ?_
  rw [ByteArray.size_append] at hk
  rw [tB_byte _ (by omega) (by omega), append_byte _ _ (by omega), a1]
  split
  · rename_i h
    rw [extract_byte x hp (by omega), cyc_lt (by omega), extract_byte x hp (by omega)]
    congr 1; omega
  · rename_i h
    rw [extract_byte x (by omega) (by omega), cyc_two (by omega) (by omega), extract_byte x hp (by omega)]
    congr 1; omega
/-- the answer of SameFace -/
def faceB (x y : ByteArray) (p q : Nat) (s1 s2 : Int) : Bool := decide (p = q) && (decide (s1 % (p : Int) = s2 % (p : Int)) && oneTurn (x.extract 0 p) (y.extract 0 p))
theorem faceB_no1 {x y : ByteArray} {p q : Nat} {s1 s2 : Int} (h : ¬ p = q) : faceB x y p q s1 s2 = false := by unfold faceB; rw [decide_eq_false h]; rfl
theorem faceB_no2 {x y : ByteArray} {p q : Nat} {s1 s2 : Int} (h : ¬ s1 % (p : Int) = s2 % (p : Int)) : faceB x y p q s1 s2 = false := by unfold faceB; rw [decide_eq_false h]; simp
theorem faceB_yes {x y : ByteArray} {p q : Nat} {s1 s2 : Int} (h : p = q) (h2 : s1 % (p : Int) = s2 % (p : Int)) : faceB x y p q s1 s2 = oneTurn (x.extract 0 p) (y.extract 0 p) := by unfold faceB; rw [decide_eq_true h, decide_eq_true h2]; simp

set_option maxHeartbeats 1000000 in
theorem face_i_no (A1 A2 : Option Addr) (n1 n2 c1 c2 : Nat) (X1 X2 : Nat → Int) (s1 s2 : Int) (w : World) (hn1 : n1 ≤ maxLen) (hn2 : n2 ≤ maxLen) (hr1 : Sl w A1 n1 1 X1) (hr2 : Sl w A2 n2 1 X2) (hv : (twB n1 X1 s1 && twB n2 X2 s2) = false) :
    Calls Tryd.prog 23 #[.agg #[.slice A1 n1 c1, .int .i64 s1], .agg #[.slice A2 n2 c2, .int .i64 s2]] w (fun e w' => e = .returned (.tuple #[.bool false, .int .i64 1]) ∧ Below w.heap.size w w') := by
  have H1 := Lib.hid hr1
  have H2 := Lib.hid hr2
  have HO1 := Lib.hid (fun W (hw : Below w.heap.size w W) => twval_i A1 n1 c1 X1 s1 W hn1 (H1.out.below hw (Nat.le_refl _)))
  have HO2 := Lib.hid (fun W (hw : Below w.heap.size w W) => twval_i A2 n2 c2 X2 s2 W hn2 (H2.out.below hw (Nat.le_refl _)))
  clear hr1 hr2
  cases h1 : twB n1 X1 s1
  · rw [h1] at HO1
    clear hv
    go_enter Tryd.func23, Tryd.ntmps23
    go_wp2_with fail
    refine (HO1.out _ (by go_grown)).mono ?_
    rintro e w1 ⟨rfl, hb⟩
    have b1 : Below w.heap.size w w1 := Below.trans (by go_grown) (hb.mono (by simp; omega))
    clear hb
    go_wp2
    go_returns
    exact ⟨rfl, b1⟩
  · have h2 : twB n2 X2 s2 = false := by rw [h1, Bool.true_and] at hv; exact hv
    rw [h1] at HO1
    rw [h2] at HO2
    clear hv
    go_enter Tryd.func23, Tryd.ntmps23
    go_wp2_with fail
    refine (HO1.out _ (by go_grown)).mono ?_
    rintro e w1 ⟨rfl, hb⟩
    have z1 := hb.size
    simp at z1
    have p2 : w1.cell? ⟨w.heap.size + 1, 0, none⟩ = some (.slice A2 n2 c2) := by rw [(bcell hb).1 _ _ (by first | (simp; done) | (simp; omega))]; go_simp
    have p3 : w1.cell? ⟨w.heap.size + 1, 1, none⟩ = some (.int .i64 s2) := by rw [(bcell hb).1 _ _ (by first | (simp; done) | (simp; omega))]; go_simp
    have b1 : Below w.heap.size w w1 := Below.trans (by go_grown) (hb.mono (by simp; omega))
    clear hb
    go_wp2_with fail
    refine (HO2.out _ b1).mono ?_
    rintro e w2 ⟨rfl, hb⟩
    have b2 : Below w.heap.size w w2 := b1.trans (hb.mono (by omega))
    clear hb
    go_wp2
    go_returns
    exact ⟨rfl, b2⟩

set_option maxHeartbeats 4000000 in
theorem face_i (A1 A2 : Option Addr) (n1 n2 c1 c2 : Nat) (X1 X2 : Nat → Int) (s1 s2 : Int) (w : World) (p q : Nat) (hr1 : Sl w A1 n1 1 X1) (hr2 : Sl w A2 n2 1 X2) (hv1 : twB n1 X1 s1 = true) (hv2 : twB n2 X2 s2 = true) (hp : Per (rowB X1 n1) p) (hq : Per (rowB X2 n2) q) :
    Calls Tryd.prog 23 #[.agg #[.slice A1 n1 c1, .int .i64 s1], .agg #[.slice A2 n2 c2, .int .i64 s2]] w (fun e w' => e = .returned (.tuple #[.bool (faceB (rowB X1 n1) (rowB X2 n2) p q s1 s2), .int .i64 0]) ∧ Below w.heap.size w w') := by
  have T1 := twB_of hv1
  have T2 := twB_of hv2
  have z1 := row_size T1
  have z2 := row_size T2
  have hw1 := T1.wide
  have hw2 := T2.wide
  have a1 := T1.st1
  have a2 := T2.st1
  have m1 := T1.n12
  have m2 := T2.n12
  have hn1 : n1 ≤ maxLen := by unfold maxLen; omega
  have hn2 : n2 ≤ maxLen := by unfold maxLen; omega
  have pp := hp.pos
  have pl := hp.le
  have qp := hq.pos
  have ql := hq.le
  have H1 := Lib.hid hr1
  have H2 := Lib.hid hr2
  have HO1 := Lib.hid (fun W (hw : Below w.heap.size w W) => twval_i A1 n1 c1 X1 s1 W hn1 (H1.out.below hw (Nat.le_refl _)))
  have HO2 := Lib.hid (fun W (hw : Below w.heap.size w W) => twval_i A2 n2 c2 X2 s2 W hn2 (H2.out.below hw (Nat.le_refl _)))
  rw [hv1] at HO1
  rw [hv2] at HO2
  have HR1 := Lib.hid (fun W (hw : Below w.heap.size w W) => row_i A1 n1 c1 X1 s1 W m1 T1.part (H1.out.below hw (Nat.le_refl _)))
  have HR2 := Lib.hid (fun W (hw : Below w.heap.size w W) => row_i A2 n2 c2 X2 s2 W m2 T2.part (H2.out.below hw (Nat.le_refl _)))
  have HP1 := Lib.hid (fun W => period_i (rowB X1 n1) p W (by omega) (by omega) hp)
  have HP2 := Lib.hid (fun W => period_i (rowB X2 n2) q W (by omega) (by omega) hq)
  have x12 : (rowB X1 n1).size ≤ 12 := by omega
  have y12 : (rowB X2 n2).size ≤ 12 := by omega
  clear hr1 hr2 z1 z2 T1 T2 hp hq hw1 hw2
  generalize rowB X1 n1 = x at *
  generalize rowB X2 n2 = y at *
  have pq0 : ((p : Int) == 0) = false := beq_false_of_ne (by omega)
  have pq2 : (p == 0) = false := beq_false_of_ne (by omega)
  have pq3 : ¬ p = 0 := by omega
  have t1 : s1.tmod (p : Int) = s1 % (p : Int) := Int.tmod_eq_emod_of_nonneg (by omega)
  have t2 : s2.tmod (p : Int) = s2 % (p : Int) := Int.tmod_eq_emod_of_nonneg (by omega)
  have pq1 : 1 ≤ (p : Int) := by omega
  have e1 : 0 ≤ s1 % (p : Int) := Int.emod_nonneg _ (by omega)
  have e2 : s1 % (p : Int) < (p : Int) := Int.emod_lt_of_pos _ (by omega)
  have e3 : 0 ≤ s2 % (p : Int) := Int.emod_nonneg _ (by omega)
  have e4 : s2 % (p : Int) < (p : Int) := Int.emod_lt_of_pos _ (by omega)
  have s1n : 0 ≤ s1 := by omega
  have s2n : 0 ≤ s2 := by omega
  by_cases hpq : p = q
  · by_cases hst : s1 % (p : Int) = s2 % (p : Int)
    · rw [faceB_yes hpq hst]
      have d1 : ((p : Int) != (q : Int)) = false := by rw [hpq]; simp
      have d2 : (s1 % (p : Int) != s2 % (p : Int)) = false := by rw [hst]; simp
      have d3 : (p != q) = false := by rw [hpq]; simp
      have hzz := extract_size x (Nat.zero_le p) pl
      have hyq : p ≤ y.size := by omega
      have hy12 : (y.extract 0 p).size ≤ 12 := by rw [extract_size y (Nat.zero_le p) hyq]; omega
      have hp0 : (0 : Int) ≤ (p : Int) := by omega
      have hp1 : (p : Int) ≤ (x.size : Int) := by omega
      have hp2 : (p : Int) ≤ (y.size : Int) := by omega
      obtain ⟨r, hr⟩ := Per.ex (s := x.extract 0 p) (by omega)
      have HTU := Lib.hid (fun W => turns_i (x.extract 0 p) r W (by omega) (by omega) hr)
      have HOT := Lib.hid (oneTurn_per (y := y.extract 0 p) (by omega : 0 < (x.extract 0 p).size) hr)
      clear hpq hst hr hzz hyq
      go_enter Tryd.func23, Tryd.ntmps23
      go_wp2_with fail
      refine (HO1.out _ (by go_grown)).mono ?_
      rintro e w1 ⟨rfl, hb⟩
      have z1 := hb.size
      simp at z1
      have k0 : w1.cell? ⟨w.heap.size, 0, none⟩ = some (.slice A1 n1 c1) := by rw [(bcell hb).1 _ _ (by first | (simp; done) | (simp; omega))]; go_simp
      have k1 : w1.cell? ⟨w.heap.size, 1, none⟩ = some (.int .i64 s1) := by rw [(bcell hb).1 _ _ (by first | (simp; done) | (simp; omega))]; go_simp
      have k2 : w1.cell? ⟨w.heap.size + 1, 0, none⟩ = some (.slice A2 n2 c2) := by rw [(bcell hb).1 _ _ (by first | (simp; done) | (simp; omega))]; go_simp
      have k3 : w1.cell? ⟨w.heap.size + 1, 1, none⟩ = some (.int .i64 s2) := by rw [(bcell hb).1 _ _ (by first | (simp; done) | (simp; omega))]; go_simp
      have b1 : Below w.heap.size w w1 := Below.trans (by go_grown) (hb.mono (by simp; omega))
      clear hb
      go_wp2_with fail
      refine (HO2.out _ b1).mono ?_
      rintro e w2 ⟨rfl, hb⟩
      have z2 := hb.size
      replace k0 := (hb.cell (p := ⟨w.heap.size, 0, none⟩) (by show w.heap.size < _; omega)).trans k0
      replace k1 := (hb.cell (p := ⟨w.heap.size, 1, none⟩) (by show w.heap.size < _; omega)).trans k1
      replace k2 := (hb.cell (p := ⟨w.heap.size + 1, 0, none⟩) (by show w.heap.size + 1 < _; omega)).trans k2
      replace k3 := (hb.cell (p := ⟨w.heap.size + 1, 1, none⟩) (by show w.heap.size + 1 < _; omega)).trans k3
      have b2 : Below w.heap.size w w2 := b1.trans (hb.mono (by omega))
      clear hb b1
      go_wp2_with fail
      refine (HR1.out _ b2).mono ?_
      rintro e w3 ⟨rfl, hb⟩
      have z3 := hb.size
      replace k0 := (hb.cell (p := ⟨w.heap.size, 0, none⟩) (by show w.heap.size < _; omega)).trans k0
      replace k1 := (hb.cell (p := ⟨w.heap.size, 1, none⟩) (by show w.heap.size < _; omega)).trans k1
      replace k2 := (hb.cell (p := ⟨w.heap.size + 1, 0, none⟩) (by show w.heap.size + 1 < _; omega)).trans k2
      replace k3 := (hb.cell (p := ⟨w.heap.size + 1, 1, none⟩) (by show w.heap.size + 1 < _; omega)).trans k3
      have b3 : Below w.heap.size w w3 := b2.trans (hb.mono (by omega))
      clear hb b2
      go_wp2_with fail
      refine (HP1.out _).mono ?_
      rintro e w5 ⟨rfl, hb⟩
      have z5 := hb.size
      replace k0 := (hb.cell (p := ⟨w.heap.size, 0, none⟩) (by show w.heap.size < _; omega)).trans k0
      replace k1 := (hb.cell (p := ⟨w.heap.size, 1, none⟩) (by show w.heap.size < _; omega)).trans k1
      replace k2 := (hb.cell (p := ⟨w.heap.size + 1, 0, none⟩) (by show w.heap.size + 1 < _; omega)).trans k2
      replace k3 := (hb.cell (p := ⟨w.heap.size + 1, 1, none⟩) (by show w.heap.size + 1 < _; omega)).trans k3
      have b5 : Below w.heap.size w w5 := b3.trans (hb.mono (by omega))
      clear hb b3 HO1 HO2 HP1
      go_wp2_with fail
      go_region_held3 (fun x => x.cell? ⟨w.heap.size, 0, none⟩ = some (.slice A1 n1 c1) ∧ x.cell? ⟨w.heap.size, 1, none⟩ = some (.int .i64 s1) ∧ x.cell? ⟨w.heap.size + 1, 0, none⟩ = some (.slice A2 n2 c2) ∧ x.cell? ⟨w.heap.size + 1, 1, none⟩ = some (.int .i64 s2)) (first | exact ⟨k0, k1, k2, k3⟩ | go_keep)
        (first
          | (go_at_call 36; refine (HR2.out _ b5.drew).mono ?_; rintro e w6 ⟨rfl, hb⟩
             have z6 := hb.size
             try simp at z6
             have s6 : Below w5.heap.size w5 w6 := Below.trans (Below.drew (Below.refl _ _)) (hb.mono (by first | omega | (simp; done)))
             have b6 : Below w.heap.size w w6 := b5.trans (s6.mono (by omega))
             replace k0 := (s6.cell (p := ⟨w.heap.size, 0, none⟩) (by show w.heap.size < _; omega)).trans k0
             replace k1 := (s6.cell (p := ⟨w.heap.size, 1, none⟩) (by show w.heap.size < _; omega)).trans k1
             replace k2 := (s6.cell (p := ⟨w.heap.size + 1, 0, none⟩) (by show w.heap.size + 1 < _; omega)).trans k2
             replace k3 := (s6.cell (p := ⟨w.heap.size + 1, 1, none⟩) (by show w.heap.size + 1 < _; omega)).trans k3
             clear hb s6)
          | (go_at_call 35; refine (HP2.out _).mono ?_; rintro e w7 ⟨rfl, hb⟩
             have z7 := hb.size
             have b7 : Below w.heap.size w w7 := b6.trans (hb.mono (by omega))
             replace k0 := (hb.cell (p := ⟨w.heap.size, 0, none⟩) (by show w.heap.size < _; omega)).trans k0
             replace k1 := (hb.cell (p := ⟨w.heap.size, 1, none⟩) (by show w.heap.size < _; omega)).trans k1
             replace k2 := (hb.cell (p := ⟨w.heap.size + 1, 0, none⟩) (by show w.heap.size + 1 < _; omega)).trans k2
             replace k3 := (hb.cell (p := ⟨w.heap.size + 1, 1, none⟩) (by show w.heap.size + 1 < _; omega)).trans k3
             clear hb))
      go_wp2_with fail
      go_region_held3 (fun x => x.cell? ⟨w.heap.size, 0, none⟩ = some (.slice A1 n1 c1) ∧ x.cell? ⟨w.heap.size, 1, none⟩ = some (.int .i64 s1) ∧ x.cell? ⟨w.heap.size + 1, 0, none⟩ = some (.slice A2 n2 c2) ∧ x.cell? ⟨w.heap.size + 1, 1, none⟩ = some (.int .i64 s2)) (first | exact ⟨k0, k1, k2, k3⟩ | go_keep)
        (first
          | (go_at_call_of 36 (Value.agg #[Value.slice A1 n1 c1, Value.int IntKind.i64 s1]); refine (HR1.out _ b7.drew).mono ?_; rintro e w8 ⟨rfl, hb⟩
             have z8 := hb.size
             try simp at z8
             have s8 : Below w7.heap.size w7 w8 := Below.trans (Below.drew (Below.refl _ _)) (hb.mono (by first | omega | (simp; done)))
             have b8 : Below w.heap.size w w8 := b7.trans (s8.mono (by omega))
             replace k0 := (s8.cell (p := ⟨w.heap.size, 0, none⟩) (by show w.heap.size < _; omega)).trans k0
             replace k1 := (s8.cell (p := ⟨w.heap.size, 1, none⟩) (by show w.heap.size < _; omega)).trans k1
             replace k2 := (s8.cell (p := ⟨w.heap.size + 1, 0, none⟩) (by show w.heap.size + 1 < _; omega)).trans k2
             replace k3 := (s8.cell (p := ⟨w.heap.size + 1, 1, none⟩) (by show w.heap.size + 1 < _; omega)).trans k3
             clear hb s8)
          | (go_at_call 57; refine (HTU.out _).mono ?_; rintro e w9 ⟨bm, rfl, hbm, htm, hb⟩
             have z9 := hb.size
             have b9 : Below w.heap.size w w9 := b8.trans (hb.mono (by omega))
             have HTM := Lib.hid htm
             replace k0 := (hb.cell (p := ⟨w.heap.size, 0, none⟩) (by show w.heap.size < _; omega)).trans k0
             replace k1 := (hb.cell (p := ⟨w.heap.size, 1, none⟩) (by show w.heap.size < _; omega)).trans k1
             replace k2 := (hb.cell (p := ⟨w.heap.size + 1, 0, none⟩) (by show w.heap.size + 1 < _; omega)).trans k2
             replace k3 := (hb.cell (p := ⟨w.heap.size + 1, 1, none⟩) (by show w.heap.size + 1 < _; omega)).trans k3
             clear hb htm)
          | (go_at_call_of 36 (Value.agg #[Value.slice A2 n2 c2, Value.int IntKind.i64 s2]); refine (HR2.out _ b9).mono ?_; rintro e w10 ⟨rfl, hb⟩
             have z10 := hb.size
             have b10 : Below w.heap.size w w10 := b9.trans (hb.mono (by omega))
             have hlk := TM.lookup (HTM.out.below hb HTM.out.lt) hy12
             rw [HOT.out] at hlk
             replace k0 := (hb.cell (p := ⟨w.heap.size, 0, none⟩) (by show w.heap.size < _; omega)).trans k0
             replace k1 := (hb.cell (p := ⟨w.heap.size, 1, none⟩) (by show w.heap.size < _; omega)).trans k1
             replace k2 := (hb.cell (p := ⟨w.heap.size + 1, 0, none⟩) (by show w.heap.size + 1 < _; omega)).trans k2
             replace k3 := (hb.cell (p := ⟨w.heap.size + 1, 1, none⟩) (by show w.heap.size + 1 < _; omega)).trans k3
             clear hb))
      go_wp2
      go_returns
      exact ⟨rfl, b10⟩
    · rw [faceB_no2 hst]
      have d1 : ((p : Int) != (q : Int)) = false := by rw [hpq]; simp
      have d2 : (s1 % (p : Int) != s2 % (p : Int)) = true := by rw [bne, beq_false_of_ne hst]; rfl
      have d3 : (p != q) = false := by rw [hpq]; simp
      clear hpq hst
      go_enter Tryd.func23, Tryd.ntmps23
      go_wp2_with fail
      refine (HO1.out _ (by go_grown)).mono ?_
      rintro e w1 ⟨rfl, hb⟩
      have z1 := hb.size
      simp at z1
      have k0 : w1.cell? ⟨w.heap.size, 0, none⟩ = some (.slice A1 n1 c1) := by rw [(bcell hb).1 _ _ (by first | (simp; done) | (simp; omega))]; go_simp
      have k1 : w1.cell? ⟨w.heap.size, 1, none⟩ = some (.int .i64 s1) := by rw [(bcell hb).1 _ _ (by first | (simp; done) | (simp; omega))]; go_simp
      have k2 : w1.cell? ⟨w.heap.size + 1, 0, none⟩ = some (.slice A2 n2 c2) := by rw [(bcell hb).1 _ _ (by first | (simp; done) | (simp; omega))]; go_simp
      have k3 : w1.cell? ⟨w.heap.size + 1, 1, none⟩ = some (.int .i64 s2) := by rw [(bcell hb).1 _ _ (by first | (simp; done) | (simp; omega))]; go_simp
      have b1 : Below w.heap.size w w1 := Below.trans (by go_grown) (hb.mono (by simp; omega))
      clear hb
      go_wp2_with fail
      refine (HO2.out _ b1).mono ?_
      rintro e w2 ⟨rfl, hb⟩
      have z2 := hb.size
      replace k0 := (hb.cell (p := ⟨w.heap.size, 0, none⟩) (by show w.heap.size < _; omega)).trans k0
      replace k1 := (hb.cell (p := ⟨w.heap.size, 1, none⟩) (by show w.heap.size < _; omega)).trans k1
      replace k2 := (hb.cell (p := ⟨w.heap.size + 1, 0, none⟩) (by show w.heap.size + 1 < _; omega)).trans k2
      replace k3 := (hb.cell (p := ⟨w.heap.size + 1, 1, none⟩) (by show w.heap.size + 1 < _; omega)).trans k3
      have b2 : Below w.heap.size w w2 := b1.trans (hb.mono (by omega))
      clear hb b1
      go_wp2_with fail
      refine (HR1.out _ b2).mono ?_
      rintro e w3 ⟨rfl, hb⟩
      have z3 := hb.size
      replace k0 := (hb.cell (p := ⟨w.heap.size, 0, none⟩) (by show w.heap.size < _; omega)).trans k0
      replace k1 := (hb.cell (p := ⟨w.heap.size, 1, none⟩) (by show w.heap.size < _; omega)).trans k1
      replace k2 := (hb.cell (p := ⟨w.heap.size + 1, 0, none⟩) (by show w.heap.size + 1 < _; omega)).trans k2
      replace k3 := (hb.cell (p := ⟨w.heap.size + 1, 1, none⟩) (by show w.heap.size + 1 < _; omega)).trans k3
      have b3 : Below w.heap.size w w3 := b2.trans (hb.mono (by omega))
      clear hb b2
      go_wp2_with fail
      refine (HP1.out _).mono ?_
      rintro e w5 ⟨rfl, hb⟩
      have z5 := hb.size
      replace k0 := (hb.cell (p := ⟨w.heap.size, 0, none⟩) (by show w.heap.size < _; omega)).trans k0
      replace k1 := (hb.cell (p := ⟨w.heap.size, 1, none⟩) (by show w.heap.size < _; omega)).trans k1
      replace k2 := (hb.cell (p := ⟨w.heap.size + 1, 0, none⟩) (by show w.heap.size + 1 < _; omega)).trans k2
      replace k3 := (hb.cell (p := ⟨w.heap.size + 1, 1, none⟩) (by show w.heap.size + 1 < _; omega)).trans k3
      have b5 : Below w.heap.size w w5 := b3.trans (hb.mono (by omega))
      clear hb b3 HO1 HO2 HP1
      go_wp2_with fail
      go_region_held3 (fun x => x.cell? ⟨w.heap.size, 0, none⟩ = some (.slice A1 n1 c1) ∧ x.cell? ⟨w.heap.size, 1, none⟩ = some (.int .i64 s1) ∧ x.cell? ⟨w.heap.size + 1, 0, none⟩ = some (.slice A2 n2 c2) ∧ x.cell? ⟨w.heap.size + 1, 1, none⟩ = some (.int .i64 s2)) (first | exact ⟨k0, k1, k2, k3⟩ | go_keep)
        (first
          | (go_at_call 36; refine (HR2.out _ b5.drew).mono ?_; rintro e w6 ⟨rfl, hb⟩
             have z6 := hb.size
             try simp at z6
             have s6 : Below w5.heap.size w5 w6 := Below.trans (Below.drew (Below.refl _ _)) (hb.mono (by first | omega | (simp; done)))
             have b6 : Below w.heap.size w w6 := b5.trans (s6.mono (by omega))
             replace k0 := (s6.cell (p := ⟨w.heap.size, 0, none⟩) (by show w.heap.size < _; omega)).trans k0
             replace k1 := (s6.cell (p := ⟨w.heap.size, 1, none⟩) (by show w.heap.size < _; omega)).trans k1
             replace k2 := (s6.cell (p := ⟨w.heap.size + 1, 0, none⟩) (by show w.heap.size + 1 < _; omega)).trans k2
             replace k3 := (s6.cell (p := ⟨w.heap.size + 1, 1, none⟩) (by show w.heap.size + 1 < _; omega)).trans k3
             clear hb s6)
          | (go_at_call 35; refine (HP2.out _).mono ?_; rintro e w7 ⟨rfl, hb⟩
             have z7 := hb.size
             have b7 : Below w.heap.size w w7 := b6.trans (hb.mono (by omega))
             replace k0 := (hb.cell (p := ⟨w.heap.size, 0, none⟩) (by show w.heap.size < _; omega)).trans k0
             replace k1 := (hb.cell (p := ⟨w.heap.size, 1, none⟩) (by show w.heap.size < _; omega)).trans k1
             replace k2 := (hb.cell (p := ⟨w.heap.size + 1, 0, none⟩) (by show w.heap.size + 1 < _; omega)).trans k2
             replace k3 := (hb.cell (p := ⟨w.heap.size + 1, 1, none⟩) (by show w.heap.size + 1 < _; omega)).trans k3
             clear hb))
      go_wp2
      go_returns
      exact ⟨rfl, b7⟩
  · rw [faceB_no1 hpq]
    have d1 : ((p : Int) != (q : Int)) = true := by rw [bne, beq_false_of_ne (by omega)]; rfl
    have d3 : (p != q) = true := by rw [bne, beq_false_of_ne hpq]; rfl
    clear hpq
    go_enter Tryd.func23, Tryd.ntmps23
    go_wp2_with fail
    refine (HO1.out _ (by go_grown)).mono ?_
    rintro e w1 ⟨rfl, hb⟩
    have z1 := hb.size
    simp at z1
    have k0 : w1.cell? ⟨w.heap.size, 0, none⟩ = some (.slice A1 n1 c1) := by rw [(bcell hb).1 _ _ (by first | (simp; done) | (simp; omega))]; go_simp
    have k1 : w1.cell? ⟨w.heap.size, 1, none⟩ = some (.int .i64 s1) := by rw [(bcell hb).1 _ _ (by first | (simp; done) | (simp; omega))]; go_simp
    have k2 : w1.cell? ⟨w.heap.size + 1, 0, none⟩ = some (.slice A2 n2 c2) := by rw [(bcell hb).1 _ _ (by first | (simp; done) | (simp; omega))]; go_simp
    have k3 : w1.cell? ⟨w.heap.size + 1, 1, none⟩ = some (.int .i64 s2) := by rw [(bcell hb).1 _ _ (by first | (simp; done) | (simp; omega))]; go_simp
    have b1 : Below w.heap.size w w1 := Below.trans (by go_grown) (hb.mono (by simp; omega))
    clear hb
    go_wp2_with fail
    refine (HO2.out _ b1).mono ?_
    rintro e w2 ⟨rfl, hb⟩
    have z2 := hb.size
    replace k0 := (hb.cell (p := ⟨w.heap.size, 0, none⟩) (by show w.heap.size < _; omega)).trans k0
    replace k1 := (hb.cell (p := ⟨w.heap.size, 1, none⟩) (by show w.heap.size < _; omega)).trans k1
    replace k2 := (hb.cell (p := ⟨w.heap.size + 1, 0, none⟩) (by show w.heap.size + 1 < _; omega)).trans k2
    replace k3 := (hb.cell (p := ⟨w.heap.size + 1, 1, none⟩) (by show w.heap.size + 1 < _; omega)).trans k3
    have b2 : Below w.heap.size w w2 := b1.trans (hb.mono (by omega))
    clear hb b1
    go_wp2_with fail
    refine (HR1.out _ b2).mono ?_
    rintro e w3 ⟨rfl, hb⟩
    have z3 := hb.size
    replace k0 := (hb.cell (p := ⟨w.heap.size, 0, none⟩) (by show w.heap.size < _; omega)).trans k0
    replace k1 := (hb.cell (p := ⟨w.heap.size, 1, none⟩) (by show w.heap.size < _; omega)).trans k1
    replace k2 := (hb.cell (p := ⟨w.heap.size + 1, 0, none⟩) (by show w.heap.size + 1 < _; omega)).trans k2
    replace k3 := (hb.cell (p := ⟨w.heap.size + 1, 1, none⟩) (by show w.heap.size + 1 < _; omega)).trans k3
    have b3 : Below w.heap.size w w3 := b2.trans (hb.mono (by omega))
    clear hb b2
    go_wp2_with fail
    refine (HP1.out _).mono ?_
    rintro e w5 ⟨rfl, hb⟩
    have z5 := hb.size
    replace k0 := (hb.cell (p := ⟨w.heap.size, 0, none⟩) (by show w.heap.size < _; omega)).trans k0
    replace k1 := (hb.cell (p := ⟨w.heap.size, 1, none⟩) (by show w.heap.size < _; omega)).trans k1
    replace k2 := (hb.cell (p := ⟨w.heap.size + 1, 0, none⟩) (by show w.heap.size + 1 < _; omega)).trans k2
    replace k3 := (hb.cell (p := ⟨w.heap.size + 1, 1, none⟩) (by show w.heap.size + 1 < _; omega)).trans k3
    have b5 : Below w.heap.size w w5 := b3.trans (hb.mono (by omega))
    clear hb b3 HO1 HO2 HP1
    go_wp2_with fail
    refine wp_region_held_drew (S := fun x => x.cell? ⟨w.heap.size, 0, none⟩ = some (.slice A1 n1 c1) ∧ x.cell? ⟨w.heap.size, 1, none⟩ = some (.int .i64 s1) ∧ x.cell? ⟨w.heap.size + 1, 0, none⟩ = some (.slice A2 n2 c2) ∧ x.cell? ⟨w.heap.size + 1, 1, none⟩ = some (.int .i64 s2)) (by kernel_rfl) ⟨k0, k1, k2, k3⟩ (fun hHeld => ?_)
    refine wpAnyH_take (i := 0) (v := .int .i64 (p : Int)) rfl (by kernel_rfl) (by kernel_rfl) (by kernel_rfl) (fun _ _ _ h => h) (Or.inl ⟨by rfl, by intro w hSw; go_simp⟩) (by assumption) ?_
    simp only [Act.put, List.getElem_toArray, List.getElem_cons_zero, List.setIfInBounds_toArray, List.set_cons_succ, List.set_cons_zero]
    refine wpAnyH_take (i := 1) (v := .agg #[.slice A2 n2 c2, .int .i64 s2]) rfl (by kernel_rfl) (by kernel_rfl) (by kernel_rfl) (fun _ _ _ h => h) (Or.inl ⟨by rfl, by intro w hSw; obtain ⟨_, _, h2, h3⟩ := hSw; go_simp⟩) (by assumption) ?_
    simp only [Act.put, List.getElem_toArray, List.getElem_cons_succ, List.getElem_cons_zero, List.setIfInBounds_toArray, List.set_cons_succ, List.set_cons_zero]
    refine wpAnyH_ready (rs := [2]) (by kernel_rfl) (by simp) ?_
    refine AllReadyH.cons (o := _) rfl (fun K hK => ?_) AllReadyH.nil
    go_simp
    refine (HR2.out _ b5.drew).mono ?_
    rintro e w6 ⟨rfl, hb⟩
    have z6 := hb.size
    try simp at z6
    have s6 : Below w5.heap.size w5 w6 := Below.trans (Below.drew (Below.refl _ _)) (hb.mono (by first | omega | (simp; done)))
    have b6 : Below w.heap.size w w6 := b5.trans (s6.mono (by omega))
    replace k0 := (s6.cell (p := ⟨w.heap.size, 0, none⟩) (by show w.heap.size < _; omega)).trans k0
    replace k1 := (s6.cell (p := ⟨w.heap.size, 1, none⟩) (by show w.heap.size < _; omega)).trans k1
    replace k2 := (s6.cell (p := ⟨w.heap.size + 1, 0, none⟩) (by show w.heap.size + 1 < _; omega)).trans k2
    replace k3 := (s6.cell (p := ⟨w.heap.size + 1, 1, none⟩) (by show w.heap.size + 1 < _; omega)).trans k3
    clear hb s6
    go_wp2_with fail
    refine hK.out _ _ ⟨k0, k1, k2, k3⟩ (fun hHeld => ?_)
    clear hK K
    try simp only [Act.put, List.getElem_toArray, List.getElem_cons_succ, List.getElem_cons_zero, List.setIfInBounds_toArray, List.set_cons_succ, List.set_cons_zero]
    refine wpAnyH_ready (rs := [3]) (by kernel_rfl) (by simp) ?_
    refine AllReadyH.cons (o := _) rfl (fun K hK => ?_) AllReadyH.nil
    go_simp
    refine (HP2.out _).mono ?_
    rintro e w7 ⟨rfl, hb⟩
    have z7 := hb.size
    have b7 : Below w.heap.size w w7 := b6.trans (hb.mono (by omega))
    replace k0 := (hb.cell (p := ⟨w.heap.size, 0, none⟩) (by show w.heap.size < _; omega)).trans k0
    replace k1 := (hb.cell (p := ⟨w.heap.size, 1, none⟩) (by show w.heap.size < _; omega)).trans k1
    replace k2 := (hb.cell (p := ⟨w.heap.size + 1, 0, none⟩) (by show w.heap.size + 1 < _; omega)).trans k2
    replace k3 := (hb.cell (p := ⟨w.heap.size + 1, 1, none⟩) (by show w.heap.size + 1 < _; omega)).trans k3
    clear hb
    go_wp2_with fail
    refine hK.out _ _ ⟨k0, k1, k2, k3⟩ (fun hHeld => ?_)
    clear hK K
    try simp only [Act.put, List.getElem_toArray, List.getElem_cons_succ, List.getElem_cons_zero, List.setIfInBounds_toArray, List.set_cons_succ, List.set_cons_zero]
    refine wpAnyH_take (i := 4) (v := .bool true) rfl (by kernel_rfl) (by kernel_rfl) (by kernel_rfl) (fun _ _ _ h => h) (Or.inl ⟨by rfl, by intro w hSw; go_simp⟩) (by assumption) ?_
    simp only [Act.put, List.getElem_toArray, List.getElem_cons_succ, List.getElem_cons_zero, List.setIfInBounds_toArray, List.set_cons_succ, List.set_cons_zero]
    refine wpAnyH_take (i := 5) (v := .bool true) rfl (by kernel_rfl) (by kernel_rfl) (by kernel_rfl) (fun _ _ _ h => h) (Or.inl ⟨by rfl, by intro w hSw; go_simp⟩) (by assumption) ?_
    simp only [Act.put, List.getElem_toArray, List.getElem_cons_succ, List.getElem_cons_zero, List.setIfInBounds_toArray, List.set_cons_succ, List.set_cons_zero]
    refine wpAnyH_take (i := 6) (v := undef) rfl (by kernel_rfl) (by kernel_rfl) (by kernel_rfl) (fun _ _ _ h => h) (Or.inr ⟨by rfl, rfl⟩) (by assumption) ?_
    simp only [Act.put, List.getElem_toArray, List.getElem_cons_succ, List.getElem_cons_zero, List.setIfInBounds_toArray, List.set_cons_succ, List.set_cons_zero]
    refine wpAnyH_take (i := 7) (v := undef) rfl (by kernel_rfl) (by kernel_rfl) (by kernel_rfl) (fun _ _ _ h => h) (Or.inr ⟨by rfl, rfl⟩) (by assumption) ?_
    simp only [Act.put, List.getElem_toArray, List.getElem_cons_succ, List.getElem_cons_zero, List.setIfInBounds_toArray, List.set_cons_succ, List.set_cons_zero]
    refine wpAnyH_take (i := 8) (v := undef) rfl (by kernel_rfl) (by kernel_rfl) (by kernel_rfl) (fun _ _ _ h => h) (Or.inr ⟨by rfl, rfl⟩) (by assumption) ?_
    simp only [Act.put, List.getElem_toArray, List.getElem_cons_succ, List.getElem_cons_zero, List.setIfInBounds_toArray, List.set_cons_succ, List.set_cons_zero]
    refine wpAnyH_take (i := 9) (v := undef) rfl (by kernel_rfl) (by kernel_rfl) (by kernel_rfl) (fun _ _ _ h => h) (Or.inr ⟨by rfl, rfl⟩) (by assumption) ?_
    simp only [Act.put, List.getElem_toArray, List.getElem_cons_succ, List.getElem_cons_zero, List.setIfInBounds_toArray, List.set_cons_succ, List.set_cons_zero]
    refine wpAnyH_take (i := 10) (v := undef) rfl (by kernel_rfl) (by kernel_rfl) (by kernel_rfl) (fun _ _ _ h => h) (Or.inr ⟨by rfl, rfl⟩) (by assumption) ?_
    simp only [Act.put, List.getElem_toArray, List.getElem_cons_succ, List.getElem_cons_zero, List.setIfInBounds_toArray, List.set_cons_succ, List.set_cons_zero]
    refine wpAnyH_take (i := 11) (v := undef) rfl (by kernel_rfl) (by kernel_rfl) (by kernel_rfl) (fun _ _ _ h => h) (Or.inr ⟨by rfl, rfl⟩) (by assumption) ?_
    simp only [Act.put, List.getElem_toArray, List.getElem_cons_succ, List.getElem_cons_zero, List.setIfInBounds_toArray, List.set_cons_succ, List.set_cons_zero]
    refine wpAnyH_take (i := 12) (v := undef) rfl (by kernel_rfl) (by kernel_rfl) (by kernel_rfl) (fun _ _ _ h => h) (Or.inr ⟨by rfl, rfl⟩) (by assumption) ?_
    simp only [Act.put, List.getElem_toArray, List.getElem_cons_succ, List.getElem_cons_zero, List.setIfInBounds_toArray, List.set_cons_succ, List.set_cons_zero]
    refine wpAnyH_take (i := 13) (v := undef) rfl (by kernel_rfl) (by kernel_rfl) (by kernel_rfl) (fun _ _ _ h => h) (Or.inr ⟨by rfl, rfl⟩) (by assumption) ?_
    simp only [Act.put, List.getElem_toArray, List.getElem_cons_succ, List.getElem_cons_zero, List.setIfInBounds_toArray, List.set_cons_succ, List.set_cons_zero]
    refine wpAnyH_take (i := 14) (v := undef) rfl (by kernel_rfl) (by kernel_rfl) (by kernel_rfl) (fun _ _ _ h => h) (Or.inr ⟨by rfl, rfl⟩) (by assumption) ?_
    simp only [Act.put, List.getElem_toArray, List.getElem_cons_succ, List.getElem_cons_zero, List.setIfInBounds_toArray, List.set_cons_succ, List.set_cons_zero]
    refine wpAnyH_ready (rs := [15]) (by kernel_rfl) (by simp) ?_
    refine AllReadyH.cons (o := _) rfl (fun K hK => ?_) AllReadyH.nil
    go_simp
    refine hK.out _ _ ⟨k0, k1, k2, k3⟩ (fun hHeld => ?_)
    clear hK K
    refine wpAnyH_done (by kernel_rfl) ?_ _
    go_wp2
    go_returns
    exact ⟨rfl, b7⟩

end Go.Proofs.YtopiecbldnhihaaDoor.twl
