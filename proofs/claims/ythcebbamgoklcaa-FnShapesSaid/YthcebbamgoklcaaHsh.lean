/-
  The law on shapes, walked. No condition of a statement lies here.
-/
import Derived.Test.YthcebbamgoklcaaHz
import Derived.Test.YthcebbamgoklcaaHy
import Derived.Test.YthcebbamgoklcaaHb
import Derived.Lib.MinMax
import Derived.BigQuiet
import Derived.BigRegion
import Derived.Test.YthcebbamgoklcaaOpen
import Derived.Test.YthcebbamgoklcaaNums
import Derived.Test.YthcebbamgoklcaaIn
namespace Go.Proofs.Ythcebbamgoklcaa.shp
open Go.ChangeShapes Go.WideShapes Go.ChangeAt Go.RowKit Go.Proofs.Ythcebbamgoklcaa.mem Go.Proofs.Ythcebbamgoklcaa.rod Go.Proofs.Ythcebbamgoklcaa.nums Go.Proofs.Ythcebbamgoklcaa.src
set_option linter.unusedVariables false
set_option maxRecDepth 100000

theorem Rng.okM {X : Nat → Int} {lo up : Int} {k : Nat} {good : Bool} {least most u v : Int} (h : Rng X lo up k good least most) (l0 : 1 ≤ lo) (h0 : 1 ≤ up) (he : Ends (goodB (X k) lo up) u v 0) : Rng X lo up (k + 1) good (max least u) (min most v) := by
  have := h.ok l0 h0 he
  rw [Int.max_def, Int.min_def]
  exact this
/-- a shape as the law has it: a new row of N levels -/
theorem shape_n (A : Option Addr) (n c : Nat) (X : Nat → Int) (w : World) (hn : n ≤ 3000) (hx : Sb w A n X) :
    Calls Try.prog 38 #[.slice A n c] w fun e w' => ∃ (N : Nat) (Y : Nat → Int) (A' : Option Addr) (c' : Nat), e = .returned (.slice A' N c') ∧ N ≤ 7 ∧ shpB N Y = true ∧ N ≤ c' ∧ Row w' w.heap.size w'.heap.size A' N 1 2 Y ∧ Below w.heap.size w w' :=
  (shape_c A n c X w hn hx).mono fun e w' ⟨l, hl, ⟨A', c', h1, h2, h3, h4⟩, h5⟩ => ⟨l.length, _, A', c', h1, hl.2.1, hl.shp, h2, h4, h5⟩
theorem apt_of {lo up : Int} (h1 : 10 ≤ lo) (h2 : lo ≤ up) (h3 : up ≤ 100) : aptB lo up = true := by
  unfold aptB
  rw [inB_yes (by omega) (by omega), inB_yes h2 (by omega)]; rfl
/-- what the law asks of the ends of a range -/
theorem ends_fact {a lo up u v : Int} (l0 : 1 ≤ lo) (lu : lo ≤ up) (he : Ends (goodB a lo up) u v 0) : 3 ≤ u ∧ u ≤ v ∧ v ≤ 60 ∧ a ≤ u * up ∧ v * lo ≤ a ∧ (3 < u → (u - 1) * up < a) ∧ (v < 60 → a < (v + 1) * lo) := by
  obtain ⟨h1, h2, h3, h4, h5, h6⟩ := ends_iff l0 (by omega) he
  have g4 := good_of h4
  have g5 := good_of h5
  refine ⟨h1, h2, h3, g4.2, g5.1, fun h => ?_, fun h => ?_⟩
  · apply Int.not_le.1
    intro hc
    have h8 : (u - 1) * lo ≤ a := by rw [Int.sub_mul]; omega
    have := (h6 (u - 1) (by omega) (by omega)).1 (inB_yes h8 hc)
    omega
  · apply Int.not_le.1
    intro hc
    have h8 : a ≤ (v + 1) * up := by
      have h9 : v * up ≥ v * lo := Int.mul_le_mul_of_nonneg_left lu (by omega)
      have h10 : a ≤ v * up := g5.2
      rw [Int.add_mul]; omega
    have := (h6 (v + 1) (by omega) (by omega)).1 (inB_yes hc h8)
    omega
theorem frac_fact {a s : Int} (a1 : 1 ≤ a) (s1 : 1 ≤ s) : 1 ≤ s / gcdI a s ∧ s / gcdI a s ≤ s ∧ 0 ≤ a / gcdI a s ∧ a / gcdI a s ≤ a ∧ a / gcdI a s * s = a * (s / gcdI a s) := by
  have g0 := gcdI_pos (x := a) s1
  have d1 : gcdI a s ∣ a := Int.gcd_dvd_left a s
  have d2 : gcdI a s ∣ s := Int.gcd_dvd_right a s
  generalize gcdI a s = g at *
  obtain ⟨x, rfl⟩ := d1
  obtain ⟨y, rfl⟩ := d2
  have gx : 0 < g := by omega
  rw [Int.mul_ediv_cancel_left _ (by omega), Int.mul_ediv_cancel_left _ (by omega)]
  have hx : 0 < x := Int.pos_of_mul_pos_right (by omega : 0 < g * x) (by omega)
  have hy : 0 < y := Int.pos_of_mul_pos_right (by omega : 0 < g * y) (by omega)
  refine ⟨by omega, ?_, by omega, ?_, by rw [Int.mul_left_comm x g y, Int.mul_assoc]⟩
  · have := Int.mul_le_mul_of_nonneg_right g0 (Int.le_of_lt hy)
    rw [Int.one_mul] at this; exact this
  · have := Int.mul_le_mul_of_nonneg_right g0 (Int.le_of_lt hx)
    rw [Int.one_mul] at this; exact this

set_option maxHeartbeats 20000000 in
set_option maxRecDepth 1000000 in
theorem shapes_walk (A : Option Addr) (n c : Nat) (X : Nat → Int) (A2 : Option Addr) (m c2 : Nat) (X2 : Nat → Int) (w : World) (hn : n ≤ 3000) (hm : m ≤ 3000) (sl : Sb w A n X) (sl2 : Sb w A2 m X2) :
    Calls Try.prog 12 #[.slice A n c, .slice A2 m c2] w fun e w' => e = .returned (.bool true) ∧ Below w.heap.size w w' := by
  have HSL := Lib.hid sl
  have HSL2 := Lib.hid sl2
  clear sl sl2
  go_enter Try.func12, Try.ntmps12
  go_wp2_with fail
  refine (long_c A A2 n m c c2 _ hn hm).mono ?_
  rintro e w' ⟨rfl, rfl⟩
  go_wp2_with fail
  refine (shape_n A n c X _ hn HSL.out).mono ?_
  rintro e w2 ⟨N, Y, A1, c1, rfl, hN7, hshp, hc1, hrow, hb2⟩
  obtain ⟨n0, n12, hY⟩ := shpB_of hshp
  obtain ⟨g1, rfl, g10, g11, ho1⟩ := hrow n0
  have z2 := hb2.size
  have HB2 := Lib.hid hb2
  have HSH := Lib.hid hshp
  have HYB := Lib.hid hY
  have CY := Lib.hid (fun (w' : World) (k : Nat) (hb : Below w2.heap.size w2 w') (hk : k < N) => (hb.cell (p := ⟨g1, k, none⟩) g11).trans (ho1.cell (j := k) (by omega)))
  have SLY := Lib.hid (show ∀ w' : World, Below w2.heap.size w2 w' → Sl w' (some ⟨g1, 0, none⟩) N 1 Y from fun w' hb _ => ⟨g1, 0, rfl, by have := hb.size; omega, fun j hj => by rw [Nat.zero_add]; exact CY.out w' j hb (by omega)⟩)
  have S2 := Lib.hid (HSL2.out.below HB2.out (Nat.le_refl _))
  have hNm : N ≤ maxLen := by unfold maxLen; omega
  clear hrow ho1 hb2 hshp hY HSL HSL2
  go_wp2_with fail
  refine (at_c A2 m c2 X2 0 30 29 _ hm (by omega) (by omega) (by omega) S2.out).mono ?_
  rintro e w' ⟨v1, rfl, v10, v11, rfl⟩
  go_wp2_with fail
  refine (at_c A2 m c2 X2 1 30 29 _ hm (by omega) (by omega) (by omega) S2.out).mono ?_
  rintro e w' ⟨v2, rfl, v20, v21, rfl⟩
  go_wp2_with fail
  obtain ⟨lo, hlo⟩ : ∃ lo, 10 + v1 = lo := ⟨_, rfl⟩
  rw [hlo]
  obtain ⟨up, hup⟩ : ∃ up, lo + v2 = up := ⟨_, rfl⟩
  rw [hup]
  have l10 : 10 ≤ lo := by omega
  have lu : lo ≤ up := by omega
  have u100 : up ≤ 100 := by omega
  have HAP := Lib.hid (apt_of l10 lu u100)
  clear hlo hup v10 v11 v20 v21
  obtain ⟨P, code1, hpl⟩ := PlanIs.ex N Y lo up
  obtain ⟨u, v, code2, hen⟩ := Ends.ex (fun s => okAll (rsp Y lo up) s N)
  rcases hpl with ⟨hp, rfl⟩ | ⟨hp, rfl, rfl⟩
  · have HPL := Lib.hid (show PlanIs N Y lo up P 0 from .inl ⟨hp, rfl⟩)
    have HPN := Lib.hid (top_good n0 hp).len
    have HTP := Lib.hid hp
    rcases ends_code hen with rfl | rfl
    · have HEN := Lib.hid hen
      clear hp hen
      as_aux_lemma =>
        refine (plan_i _ N c1 Y lo up P 0 _ hNm (SLY.out _ (Below.refl _ _)) HSH.out HAP.out HPL.out).mono ?_
        rintro e w5 ⟨A5, c5, he5, k5, m5, row5, hb5⟩
        rw [HPN.out] at he5 k5 row5
        subst he5
        have z5 := hb5.size
        have HB5 := Lib.hid hb5
        have R5 := Lib.hid row5
        clear hb5 row5
        go_wp2_with fail
        refine (one_i _ N c1 Y lo up u v 0 _ hNm (SLY.out _ HB5.out) HSH.out HAP.out HEN.out).mono ?_
        rintro e w6 ⟨rfl, hb6⟩
        have z6 := hb6.size
        have HB6 := Lib.hid (HB5.out.trans (hb6.mono z5))
        have HB56 := Lib.hid hb6
        clear hb6
        go_wp2_with fail
        go_loopw [12, 13, 14, 15] (fun g ls ms t wr => ∃ (k : Nat) (good : Bool) (least most : Int), k ≤ N ∧ t = .int .i64 k ∧ g = .bool good ∧ ls = .int .i64 least ∧ ms = .int .i64 most ∧ Hid (Rng Y lo up k good least most) ∧ Below w6.heap.size w6 wr) (fun _ _ _ t _ => N - (intOf t).toNat)
        case atStart => exact ⟨0, true, 3, 60, by omega, rfl, rfl, rfl, rfl, Rng.zero Y lo up, by go_grown⟩
        case round =>
          obtain ⟨k, good, least, most, hk, rfl, rfl, rfl, rfl, HR, hbl⟩ := hrel
          have HB := Lib.hid hbl
          have zr := hbl.size
          clear hbl
          by_cases hlt : k < N
          · as_aux_lemma =>
              have hlt' : (k : Int) < (N : Int) := by omega
              have hk0 : (0 : Int) ≤ (k : Int) := by omega
              have HW := Lib.hid (HB6.out.trans (HB.out.mono (by omega)))
              have p0 := CY.out wr k HW.out hlt
              obtain ⟨y1, y2⟩ := HYB.out k hlt
              have hin := inB_yes y1 y2
              have HIN := Lib.hid hin
              clear hin
              obtain ⟨a, b, cc, he⟩ := Ends.ex (goodB (Y k) lo up)
              rcases ends_code he with rfl | rfl
              · obtain ⟨f1, f2, f3, f4, f5, f6, f7⟩ := ends_fact (by omega) lu he
                have HE := Lib.hid he
                have HN := Lib.hid (HR.out.okM (by omega) (by omega) he)
                have m1 := mul_bd (a := a) (b := up) (h := 60) (k := 100) (by omega) (by omega) (by omega) (by omega)
                have m2 := mul_bd (a := b) (b := lo) (h := 60) (k := 100) (by omega) (by omega) (by omega) (by omega)
                have m3 := mul_bd (a := a - 1) (b := up) (h := 60) (k := 100) (by omega) (by omega) (by omega) (by omega)
                have m4 := mul_bd (a := b + 1) (b := lo) (h := 61) (k := 100) (by omega) (by omega) (by omega) (by omega)
                have e1 : IntKind.i64.wrap (a * up) = a * up := by rw [IntKind.wrap_i64]; omega
                have e2 : IntKind.i64.wrap (b * lo) = b * lo := by rw [IntKind.wrap_i64]; omega
                have e3 : IntKind.i64.wrap ((a - 1) * up) = (a - 1) * up := by rw [IntKind.wrap_i64]; omega
                have e4 : IntKind.i64.wrap ((b + 1) * lo) = (b + 1) * lo := by rw [IntKind.wrap_i64]; omega
                have d1 : decide (a < 3) = false := by simp; omega
                have d2 : decide (b < a) = false := by simp; omega
                have d3 : decide (60 < b) = false := by simp; omega
                have d4 : decide (a * up < Y k) = false := by simp; omega
                have d5 : decide (Y k < b * lo) = false := by simp; omega
                have ha60 : a ≤ 60 := by omega
                have hia := Lib.hid (inB_yes f1 ha60)
                have q6 : (decide (3 < a) = true ∧ decide (Y k ≤ (a - 1) * up) = false) ∨ decide (3 < a) = false := by
                  by_cases h : 3 < a
                  · left; have := f6 h; simp; omega
                  · right; simp; omega
                have q7 : (decide (b < 60) = true ∧ decide ((b + 1) * lo ≤ Y k) = false) ∨ decide (b < 60) = false := by
                  by_cases h : b < 60
                  · left; have := f7 h; simp; omega
                  · right; simp; omega
                obtain ⟨r1, r2, r3, r4, r5⟩ := frac_fact (a := Y k) (s := a) y1 (by omega)
                have HFR := Lib.hid (show (Y k / gcdI (Y k) a) = (Y k / gcdI (Y k) a) from rfl)
                clear he m1 m2 m3 m4 f4 f5 f6 f7
                rcases q6 with ⟨q61, q62⟩ | q61 <;> rcases q7 with ⟨q71, q72⟩ | q71
                all_goals
                  go_wp2_with fail
                  refine (range_i (Y k) lo up a b 0 _ HIN.out HAP.out HE.out).mono ?_
                  rintro e w7 ⟨rfl, hb7⟩
                  have z7 := hb7.size
                  have HB7 := Lib.hid (HB.out.trans (hb7.mono zr))
                  have HW7 := Lib.hid (HW.out.trans (hb7.mono (by omega)))
                  have p1 := CY.out w7 k HW7.out hlt
                  clear hb7 p0
                  go_wp2_with fail
                  refine (spacing_i _ N c1 Y a k _ hNm (SLY.out _ HW7.out) HSH.out hia.out hlt).mono ?_
                  rintro e w8 ⟨rfl, hb8⟩
                  have z8 := hb8.size
                  have HB8 := Lib.hid (HB7.out.trans (hb8.mono (by omega)))
                  have HW8 := Lib.hid (HW7.out.trans (hb8.mono (by omega)))
                  have p2 := CY.out w8 k HW8.out hlt
                  have hg8 : g1 < w8.heap.size := by omega
                  clear hb8 p1 e1 e2 e3 e4
                  generalize Y k / gcdI (Y k) a = num at *
                  generalize a / gcdI (Y k) a = den at *
                  have e5 : IntKind.i64.wrap (num * a) = num * a := by have := mul_bd (a := num) (b := a) (h := 5000) (k := 60) (by omega) (by omega) (by omega) (by omega); rw [IntKind.wrap_i64]; omega
                  have e6 : IntKind.i64.wrap (Y k * den) = Y k * den := by have := mul_bd (a := Y k) (b := den) (h := 5000) (k := 60) (by omega) (by omega) (by omega) (by omega); rw [IntKind.wrap_i64]; omega
                  have d6 : decide (den < 1) = false := by simp; omega
                  have d7 : (num * a == Y k * den) = true := by simpa using r5
                  have d8 : (num * a != Y k * den) = false := by simpa using r5
                  have p3 : (w8.alloc (Obj.cells #[.int .i64 num, .int .i64 den] 27)).cell? ⟨g1, k, none⟩ = some (.int .i64 (Y k)) := ((show Below w8.heap.size w8 (w8.alloc (Obj.cells #[.int .i64 num, .int .i64 den] 27)) by go_grown).cell (p := ⟨g1, k, none⟩) hg8).trans p2
                  clear r5 p2
                  go_wp2_with fail
                  go_quiet (fail)
                  clear e5 e6 d7 d8
                  go_wp2
                  go_roundw
                  case rel => exact ⟨k + 1, good, max least a, min most b, by omega, by go_num, rfl, rfl, rfl, HN.out, by go_grown; exact drewN_below (HB8.out.alloc (by omega) _) _⟩
                  case measure => simp [intOf]; omega
              · have HE := Lib.hid he
                clear he
                go_wp2_with fail
                refine (range_i (Y k) lo up a b 3 _ HIN.out HAP.out HE.out).mono ?_
                rintro e w7 ⟨rfl, hb7⟩
                have HN := Lib.hid (HR.out.bad HE.out)
                have HB7 := Lib.hid (HB.out.trans (hb7.mono zr))
                clear hb7 p0
                go_wp2
                go_roundw
                case rel => exact ⟨k + 1, false, least, most, by omega, by go_num, rfl, rfl, rfl, HN.out, HB7.out⟩
                case measure => simp [intOf]; omega
          · obtain rfl : N = k := by omega
            obtain ⟨t1, t2, t3⟩ := HR.out.last n0 HEN.out
            as_aux_lemma =>
              have hgl : good = true ∧ least ≤ most := t1.1 rfl
              have hul : u = least := t2 rfl
              obtain ⟨rfl, hle⟩ := hgl
              subst hul
              obtain ⟨g5, rfl, g50, g51, ho5⟩ := R5.out n0
              have CP := Lib.hid (fun (w' : World) (k : Nat) (hb : Below w5.heap.size w5 w') (hk : k < N) => (hb.cell (p := ⟨g5, k, none⟩) g51).trans (ho5.cell (j := k) (by omega)))
              have HGP := Lib.hid (top_good n0 HTP.out)
              have HZ := Lib.hid (zero_iff n0 n12 HTP.out HEN.out)
              have HBY := Lib.hid (HB6.out.trans (HB.out.mono (by omega)))
              have HBP := Lib.hid (HB56.out.trans (HB.out.mono (by omega)))
              clear t1 t2 t3 ho5 hlt hk
              go_wp2_with fail
              rename World => w9
              go_loopw [21, 22] (fun sm t wr => ∃ k : Nat, k ≤ N ∧ t = .int .i64 k ∧ sm = .int .i64 (chs (fun j => P.getD j 0) (k - 1)) ∧ Below w9.heap.size w9 wr) (fun _ t _ => N - (intOf t).toNat)
              case atStart => exact ⟨0, by omega, rfl, rfl, Below.refl _ _⟩
              case round =>
                obtain ⟨k, hk, rfl, rfl, hbl⟩ := hrel
                have HB9 := Lib.hid hbl
                have z9 := hbl.size
                clear hbl
                by_cases hlt : k < N
                · have hlt' : (k : Int) < (N : Int) := by omega
                  have hk0 : (0 : Int) ≤ (k : Int) := by omega
                  have zw : w5.heap.size ≤ w9.heap.size := HBP.out.size
                  have zw2 : w2.heap.size ≤ w9.heap.size := HBY.out.size
                  have py := CY.out wr k (HBY.out.trans (HB9.out.mono zw2)) hlt
                  have pp := CP.out wr k (HBP.out.trans (HB9.out.mono zw)) hlt
                  obtain ⟨b1, b2, b3, b4⟩ := HGP.out.bd k hlt
                  obtain ⟨y1, y2⟩ := HYB.out k hlt
                  by_cases hk00 : k = 0
                  · subst hk00
                    rw [show ((0 : Nat) : Int) = 0 from rfl]
                    generalize hpk : P.getD 0 0 = pk at *
                    have m1 := mul_bd (a := pk) (b := lo) (h := 60) (k := 100) (by omega) (by omega) (by omega) (by omega)
                    have m2 := mul_bd (a := pk) (b := up) (h := 60) (k := 100) (by omega) (by omega) (by omega) (by omega)
                    have e1 : IntKind.i64.wrap (pk * lo) = pk * lo := by rw [IntKind.wrap_i64]; omega
                    have e2 : IntKind.i64.wrap (pk * up) = pk * up := by rw [IntKind.wrap_i64]; omega
                    have d1 : decide (pk < 3) = false := by simp; omega
                    have d2 : decide (60 < pk) = false := by simp; omega
                    have d3 : decide (Y 0 < pk * lo) = false := by simp; omega
                    have d4 : decide (pk * up < Y 0) = false := by simp; omega
                    have n0' : (0 : Int) < (N : Int) := by omega
                    have HPK := Lib.hid hpk
                    clear m1 m2 b1 b2 b3 b4 hpk
                    go_wp2_with fail
                    go_quiet (fail)
                    clear e1 e2 d1 d2 d3 d4
                    go_wp2
                    go_roundw
                    case rel => exact ⟨1, by omega, by go_num, rfl, drewN_below HB9.out _⟩
                    case measure => simp [intOf]; omega
                  · obtain ⟨q, hq⟩ : ∃ q, k = q + 1 := ⟨k - 1, by omega⟩
                    have pq := CP.out wr q (HBP.out.trans (HB9.out.mono zw)) (by omega)
                    obtain ⟨a1, a2, _, _⟩ := HGP.out.bd q (by omega)
                    have hnr := HGP.out.near q (by omega)
                    rw [← hq] at hnr
                    have hcb := chs_bd (X := fun j => P.getD j 0) (l := 3) (h := 60) (n := q) (fun j hj => ⟨(HGP.out.bd j (by omega)).1, (HGP.out.bd j (by omega)).2.1⟩)
                    have hcb2 : (q : Int) * (60 - 3) ≤ 1000 := by omega
                    have hcs : chs (fun j => P.getD j 0) k = chs (fun j => P.getD j 0) q + dst (P.getD q 0) (P.getD k 0) := by rw [hq]; rfl
                    rw [show k - 1 = q by omega]
                    have hkp : (0 : Int) < (k : Int) := by omega
                    have hq0 : (0 : Int) ≤ (q : Int) := by omega
                    have hqN : (q : Int) < (N : Int) := by omega
                    have H_hqw := Lib.hid (show IntKind.i64.wrap ((k : Int) - 1) = (q : Int) from by rw [IntKind.wrap_i64]; omega)
                    generalize hpk : P.getD k 0 = pk at *
                    generalize hpq : P.getD q 0 = pv at *
                    generalize hS : chs (fun j => P.getD j 0) q = S at *
                    have hmx : max (pk - pv) (pv - pk) = dst pv pk := by rw [Int.max_def]; unfold dst; split <;> split <;> omega
                    have m1 := mul_bd (a := pk) (b := lo) (h := 60) (k := 100) (by omega) (by omega) (by omega) (by omega)
                    have m2 := mul_bd (a := pk) (b := up) (h := 60) (k := 100) (by omega) (by omega) (by omega) (by omega)
                    have H_e1 := Lib.hid (show IntKind.i64.wrap (pk * lo) = pk * lo from by rw [IntKind.wrap_i64]; omega)
                    have H_e2 := Lib.hid (show IntKind.i64.wrap (pk * up) = pk * up from by rw [IntKind.wrap_i64]; omega)
                    have H_e3 := Lib.hid (show IntKind.i64.wrap (pk - pv) = pk - pv from by rw [IntKind.wrap_i64]; omega)
                    have H_e4 := Lib.hid (show IntKind.i64.wrap (pv - pk) = pv - pk from by rw [IntKind.wrap_i64]; omega)
                    have hdn := dst_nn pv pk
                    have H_e5 := Lib.hid (show IntKind.i64.wrap (S + dst pv pk) = S + dst pv pk from by rw [IntKind.wrap_i64]; omega)
                    have H_d1 := Lib.hid (show decide (pk < 3) = false from by simp; omega)
                    have H_d2 := Lib.hid (show decide (60 < pk) = false from by simp; omega)
                    have H_d3 := Lib.hid (show decide (Y k < pk * lo) = false from by simp; omega)
                    have H_d4 := Lib.hid (show decide (pk * up < Y k) = false from by simp; omega)
                    have H_d5 := Lib.hid (show decide (6 < dst pv pk) = false from by simp; omega)
                    have HCS := Lib.hid hcs
                    have HMX := Lib.hid hmx
                    have HQQ := Lib.hid hq
                    clear m1 m2 b1 b2 b3 b4 hpk hpq hS hcs hmx hcb hcb2 hq hk00 hnr a1 a2
                    have e1 := H_e1.out
                    have e2 := H_e2.out
                    have d1 := H_d1.out
                    have d2 := H_d2.out
                    have d3 := H_d3.out
                    have d4 := H_d4.out
                    have PP := Lib.hid pp
                    have PQ := Lib.hid pq
                    go_wp2_with fail
                    go_quiet (fail)
                    clear e1 e2 d1 d2 d3 d4
                    clear pq pp py hdn HMX HZ HTP HEN HPL HPN
                    go_upto_region 41 with (fail)
                    have pp := PP.out
                    have pq := PQ.out
                    have hqw := H_hqw.out
                    have e3 := H_e3.out
                    have e4 := H_e4.out
                    go_region
                    clear e3 e4 hqw pp pq
                    have hmx : max (pk - pv) (pv - pk) = dst pv pk := by rw [Int.max_def]; unfold dst; split <;> split <;> omega
                    first | rw [hmx] | (have f3 : wrap64 (pk - pv) = pk - pv := by (have := H_e3.out; simpa using this)
                                        have f4 : wrap64 (pv - pk) = pv - pk := by (have := H_e4.out; simpa using this)
                                        rw [f3, f4, hmx])
                    clear hmx
                    have e5 := H_e5.out
                    have d5 := H_d5.out
                    go_wp2
                    go_roundw
                    case rel => exact ⟨k + 1, by omega, by go_num, by rw [Nat.add_sub_cancel, HCS.out], by first | exact drewN_below HB9.out _ | (go_grown; exact drewN_below HB9.out _) | exact drewN_below (drewN_below HB9.out _) _⟩
                    case measure => simp [intOf]; omega
                · obtain rfl : N = k := by omega
                  have hall := allIn_of (l := 3) (h := 60) (X := fun j => P.getD j 0) (n := N) (fun j hj => ⟨(HGP.out.bd j hj).1, (HGP.out.bd j hj).2.1⟩)
                  have hS0 : chs (fun j => P.getD j 0) (N - 1) = chg P := by unfold chg; rw [HGP.out.len]
                  have hz := HZ.out
                  rw [← hS0] at hz
                  have zw : w5.heap.size ≤ w9.heap.size := HBP.out.size
                  have zw2 : w2.heap.size ≤ w9.heap.size := HBY.out.size
                  have SLP := Lib.hid (show Sl wr (some ⟨g5, 0, none⟩) N 1 (fun j => P.getD j 0) from fun _ => ⟨g5, 0, rfl, by omega, fun j hj => by rw [Nat.zero_add]; exact CP.out wr j (HBP.out.trans (HB9.out.mono zw)) (by omega)⟩)
                  have HBE := Lib.hid (HB2.out.trans ((HBY.out.trans (HB9.out.mono zw2)).mono z2))
                  have HAL := Lib.hid hall
                  have HS0 := Lib.hid (show chs (fun j => P.getD j 0) (N - 1) = 0 from hz.2 (by first | rfl | trivial))
                  clear hS0 hall hz
                  go_wp2_with fail
                  refine (changesOf_i _ N c5 (fun j => P.getD j 0) _ n12 SLP.out HAL.out).mono ?_
                  rintro e w11 ⟨rfl, hb11⟩
                  have HB11 := Lib.hid (HBE.out.trans (hb11.mono HBE.out.size))
                  clear hb11
                  generalize chs (fun j => P.getD j 0) (N - 1) = S at *
                  obtain rfl : S = 0 := HS0.out
                  go_wp2
                  go_ret
                  exact ⟨by simp, HB11.out⟩
    · have HEN := Lib.hid hen
      clear hp hen
      as_aux_lemma =>
        refine (plan_i _ N c1 Y lo up P 0 _ hNm (SLY.out _ (Below.refl _ _)) HSH.out HAP.out HPL.out).mono ?_
        rintro e w5 ⟨A5, c5, he5, k5, m5, row5, hb5⟩
        rw [HPN.out] at he5 k5 row5
        subst he5
        have z5 := hb5.size
        have HB5 := Lib.hid hb5
        have R5 := Lib.hid row5
        clear hb5 row5
        go_wp2_with fail
        refine (one_i _ N c1 Y lo up u v 3 _ hNm (SLY.out _ HB5.out) HSH.out HAP.out HEN.out).mono ?_
        rintro e w6 ⟨rfl, hb6⟩
        have z6 := hb6.size
        have HB6 := Lib.hid (HB5.out.trans (hb6.mono z5))
        have HB56 := Lib.hid hb6
        clear hb6
        go_wp2_with fail
        go_loopw [12, 13, 14, 15] (fun g ls ms t wr => ∃ (k : Nat) (good : Bool) (least most : Int), k ≤ N ∧ t = .int .i64 k ∧ g = .bool good ∧ ls = .int .i64 least ∧ ms = .int .i64 most ∧ Hid (Rng Y lo up k good least most) ∧ Below w6.heap.size w6 wr) (fun _ _ _ t _ => N - (intOf t).toNat)
        case atStart => exact ⟨0, true, 3, 60, by omega, rfl, rfl, rfl, rfl, Rng.zero Y lo up, by go_grown⟩
        case round =>
          obtain ⟨k, good, least, most, hk, rfl, rfl, rfl, rfl, HR, hbl⟩ := hrel
          have HB := Lib.hid hbl
          have zr := hbl.size
          clear hbl
          by_cases hlt : k < N
          · as_aux_lemma =>
              have hlt' : (k : Int) < (N : Int) := by omega
              have hk0 : (0 : Int) ≤ (k : Int) := by omega
              have HW := Lib.hid (HB6.out.trans (HB.out.mono (by omega)))
              have p0 := CY.out wr k HW.out hlt
              obtain ⟨y1, y2⟩ := HYB.out k hlt
              have hin := inB_yes y1 y2
              have HIN := Lib.hid hin
              clear hin
              obtain ⟨a, b, cc, he⟩ := Ends.ex (goodB (Y k) lo up)
              rcases ends_code he with rfl | rfl
              · obtain ⟨f1, f2, f3, f4, f5, f6, f7⟩ := ends_fact (by omega) lu he
                have HE := Lib.hid he
                have HN := Lib.hid (HR.out.okM (by omega) (by omega) he)
                have m1 := mul_bd (a := a) (b := up) (h := 60) (k := 100) (by omega) (by omega) (by omega) (by omega)
                have m2 := mul_bd (a := b) (b := lo) (h := 60) (k := 100) (by omega) (by omega) (by omega) (by omega)
                have m3 := mul_bd (a := a - 1) (b := up) (h := 60) (k := 100) (by omega) (by omega) (by omega) (by omega)
                have m4 := mul_bd (a := b + 1) (b := lo) (h := 61) (k := 100) (by omega) (by omega) (by omega) (by omega)
                have e1 : IntKind.i64.wrap (a * up) = a * up := by rw [IntKind.wrap_i64]; omega
                have e2 : IntKind.i64.wrap (b * lo) = b * lo := by rw [IntKind.wrap_i64]; omega
                have e3 : IntKind.i64.wrap ((a - 1) * up) = (a - 1) * up := by rw [IntKind.wrap_i64]; omega
                have e4 : IntKind.i64.wrap ((b + 1) * lo) = (b + 1) * lo := by rw [IntKind.wrap_i64]; omega
                have d1 : decide (a < 3) = false := by simp; omega
                have d2 : decide (b < a) = false := by simp; omega
                have d3 : decide (60 < b) = false := by simp; omega
                have d4 : decide (a * up < Y k) = false := by simp; omega
                have d5 : decide (Y k < b * lo) = false := by simp; omega
                have ha60 : a ≤ 60 := by omega
                have hia := Lib.hid (inB_yes f1 ha60)
                have q6 : (decide (3 < a) = true ∧ decide (Y k ≤ (a - 1) * up) = false) ∨ decide (3 < a) = false := by
                  by_cases h : 3 < a
                  · left; have := f6 h; simp; omega
                  · right; simp; omega
                have q7 : (decide (b < 60) = true ∧ decide ((b + 1) * lo ≤ Y k) = false) ∨ decide (b < 60) = false := by
                  by_cases h : b < 60
                  · left; have := f7 h; simp; omega
                  · right; simp; omega
                obtain ⟨r1, r2, r3, r4, r5⟩ := frac_fact (a := Y k) (s := a) y1 (by omega)
                have HFR := Lib.hid (show (Y k / gcdI (Y k) a) = (Y k / gcdI (Y k) a) from rfl)
                clear he m1 m2 m3 m4 f4 f5 f6 f7
                rcases q6 with ⟨q61, q62⟩ | q61 <;> rcases q7 with ⟨q71, q72⟩ | q71
                all_goals
                  go_wp2_with fail
                  refine (range_i (Y k) lo up a b 0 _ HIN.out HAP.out HE.out).mono ?_
                  rintro e w7 ⟨rfl, hb7⟩
                  have z7 := hb7.size
                  have HB7 := Lib.hid (HB.out.trans (hb7.mono zr))
                  have HW7 := Lib.hid (HW.out.trans (hb7.mono (by omega)))
                  have p1 := CY.out w7 k HW7.out hlt
                  clear hb7 p0
                  go_wp2_with fail
                  refine (spacing_i _ N c1 Y a k _ hNm (SLY.out _ HW7.out) HSH.out hia.out hlt).mono ?_
                  rintro e w8 ⟨rfl, hb8⟩
                  have z8 := hb8.size
                  have HB8 := Lib.hid (HB7.out.trans (hb8.mono (by omega)))
                  have HW8 := Lib.hid (HW7.out.trans (hb8.mono (by omega)))
                  have p2 := CY.out w8 k HW8.out hlt
                  have hg8 : g1 < w8.heap.size := by omega
                  clear hb8 p1 e1 e2 e3 e4
                  generalize Y k / gcdI (Y k) a = num at *
                  generalize a / gcdI (Y k) a = den at *
                  have e5 : IntKind.i64.wrap (num * a) = num * a := by have := mul_bd (a := num) (b := a) (h := 5000) (k := 60) (by omega) (by omega) (by omega) (by omega); rw [IntKind.wrap_i64]; omega
                  have e6 : IntKind.i64.wrap (Y k * den) = Y k * den := by have := mul_bd (a := Y k) (b := den) (h := 5000) (k := 60) (by omega) (by omega) (by omega) (by omega); rw [IntKind.wrap_i64]; omega
                  have d6 : decide (den < 1) = false := by simp; omega
                  have d7 : (num * a == Y k * den) = true := by simpa using r5
                  have d8 : (num * a != Y k * den) = false := by simpa using r5
                  have p3 : (w8.alloc (Obj.cells #[.int .i64 num, .int .i64 den] 27)).cell? ⟨g1, k, none⟩ = some (.int .i64 (Y k)) := ((show Below w8.heap.size w8 (w8.alloc (Obj.cells #[.int .i64 num, .int .i64 den] 27)) by go_grown).cell (p := ⟨g1, k, none⟩) hg8).trans p2
                  clear r5 p2
                  go_wp2_with fail
                  go_quiet (fail)
                  clear e5 e6 d7 d8
                  go_wp2
                  go_roundw
                  case rel => exact ⟨k + 1, good, max least a, min most b, by omega, by go_num, rfl, rfl, rfl, HN.out, by go_grown; exact drewN_below (HB8.out.alloc (by omega) _) _⟩
                  case measure => simp [intOf]; omega
              · have HE := Lib.hid he
                clear he
                go_wp2_with fail
                refine (range_i (Y k) lo up a b 3 _ HIN.out HAP.out HE.out).mono ?_
                rintro e w7 ⟨rfl, hb7⟩
                have HN := Lib.hid (HR.out.bad HE.out)
                have HB7 := Lib.hid (HB.out.trans (hb7.mono zr))
                clear hb7 p0
                go_wp2
                go_roundw
                case rel => exact ⟨k + 1, false, least, most, by omega, by go_num, rfl, rfl, rfl, HN.out, HB7.out⟩
                case measure => simp [intOf]; omega
          · obtain rfl : N = k := by omega
            obtain ⟨t1, t2, t3⟩ := HR.out.last n0 HEN.out
            as_aux_lemma =>
              have hgt : good = true := by
                cases hgd : good
                · have := t3 hgd; rw [HTP.out] at this; cases this
                · rfl
              subst hgt
              have hle : ¬ least ≤ most := fun h => by have := t1.2 ⟨rfl, h⟩; omega
              obtain ⟨g5, rfl, g50, g51, ho5⟩ := R5.out n0
              have CP := Lib.hid (fun (w' : World) (k : Nat) (hb : Below w5.heap.size w5 w') (hk : k < N) => (hb.cell (p := ⟨g5, k, none⟩) g51).trans (ho5.cell (j := k) (by omega)))
              have HGP := Lib.hid (top_good n0 HTP.out)
              have HZ := Lib.hid (zero_iff n0 n12 HTP.out HEN.out)
              have HBY := Lib.hid (HB6.out.trans (HB.out.mono (by omega)))
              have HBP := Lib.hid (HB56.out.trans (HB.out.mono (by omega)))
              clear t1 t2 t3 ho5 hlt hk
              go_wp2_with fail
              rename World => w9
              go_loopw [21, 22] (fun sm t wr => ∃ k : Nat, k ≤ N ∧ t = .int .i64 k ∧ sm = .int .i64 (chs (fun j => P.getD j 0) (k - 1)) ∧ Below w9.heap.size w9 wr) (fun _ t _ => N - (intOf t).toNat)
              case atStart => exact ⟨0, by omega, rfl, rfl, Below.refl _ _⟩
              case round =>
                obtain ⟨k, hk, rfl, rfl, hbl⟩ := hrel
                have HB9 := Lib.hid hbl
                have z9 := hbl.size
                clear hbl
                by_cases hlt : k < N
                · have hlt' : (k : Int) < (N : Int) := by omega
                  have hk0 : (0 : Int) ≤ (k : Int) := by omega
                  have zw : w5.heap.size ≤ w9.heap.size := HBP.out.size
                  have zw2 : w2.heap.size ≤ w9.heap.size := HBY.out.size
                  have py := CY.out wr k (HBY.out.trans (HB9.out.mono zw2)) hlt
                  have pp := CP.out wr k (HBP.out.trans (HB9.out.mono zw)) hlt
                  obtain ⟨b1, b2, b3, b4⟩ := HGP.out.bd k hlt
                  obtain ⟨y1, y2⟩ := HYB.out k hlt
                  by_cases hk00 : k = 0
                  · subst hk00
                    rw [show ((0 : Nat) : Int) = 0 from rfl]
                    generalize hpk : P.getD 0 0 = pk at *
                    have m1 := mul_bd (a := pk) (b := lo) (h := 60) (k := 100) (by omega) (by omega) (by omega) (by omega)
                    have m2 := mul_bd (a := pk) (b := up) (h := 60) (k := 100) (by omega) (by omega) (by omega) (by omega)
                    have e1 : IntKind.i64.wrap (pk * lo) = pk * lo := by rw [IntKind.wrap_i64]; omega
                    have e2 : IntKind.i64.wrap (pk * up) = pk * up := by rw [IntKind.wrap_i64]; omega
                    have d1 : decide (pk < 3) = false := by simp; omega
                    have d2 : decide (60 < pk) = false := by simp; omega
                    have d3 : decide (Y 0 < pk * lo) = false := by simp; omega
                    have d4 : decide (pk * up < Y 0) = false := by simp; omega
                    have n0' : (0 : Int) < (N : Int) := by omega
                    have HPK := Lib.hid hpk
                    clear m1 m2 b1 b2 b3 b4 hpk
                    go_wp2_with fail
                    go_quiet (fail)
                    clear e1 e2 d1 d2 d3 d4
                    go_wp2
                    go_roundw
                    case rel => exact ⟨1, by omega, by go_num, rfl, drewN_below HB9.out _⟩
                    case measure => simp [intOf]; omega
                  · obtain ⟨q, hq⟩ : ∃ q, k = q + 1 := ⟨k - 1, by omega⟩
                    have pq := CP.out wr q (HBP.out.trans (HB9.out.mono zw)) (by omega)
                    obtain ⟨a1, a2, _, _⟩ := HGP.out.bd q (by omega)
                    have hnr := HGP.out.near q (by omega)
                    rw [← hq] at hnr
                    have hcb := chs_bd (X := fun j => P.getD j 0) (l := 3) (h := 60) (n := q) (fun j hj => ⟨(HGP.out.bd j (by omega)).1, (HGP.out.bd j (by omega)).2.1⟩)
                    have hcb2 : (q : Int) * (60 - 3) ≤ 1000 := by omega
                    have hcs : chs (fun j => P.getD j 0) k = chs (fun j => P.getD j 0) q + dst (P.getD q 0) (P.getD k 0) := by rw [hq]; rfl
                    rw [show k - 1 = q by omega]
                    have hkp : (0 : Int) < (k : Int) := by omega
                    have hq0 : (0 : Int) ≤ (q : Int) := by omega
                    have hqN : (q : Int) < (N : Int) := by omega
                    have H_hqw := Lib.hid (show IntKind.i64.wrap ((k : Int) - 1) = (q : Int) from by rw [IntKind.wrap_i64]; omega)
                    generalize hpk : P.getD k 0 = pk at *
                    generalize hpq : P.getD q 0 = pv at *
                    generalize hS : chs (fun j => P.getD j 0) q = S at *
                    have hmx : max (pk - pv) (pv - pk) = dst pv pk := by rw [Int.max_def]; unfold dst; split <;> split <;> omega
                    have m1 := mul_bd (a := pk) (b := lo) (h := 60) (k := 100) (by omega) (by omega) (by omega) (by omega)
                    have m2 := mul_bd (a := pk) (b := up) (h := 60) (k := 100) (by omega) (by omega) (by omega) (by omega)
                    have H_e1 := Lib.hid (show IntKind.i64.wrap (pk * lo) = pk * lo from by rw [IntKind.wrap_i64]; omega)
                    have H_e2 := Lib.hid (show IntKind.i64.wrap (pk * up) = pk * up from by rw [IntKind.wrap_i64]; omega)
                    have H_e3 := Lib.hid (show IntKind.i64.wrap (pk - pv) = pk - pv from by rw [IntKind.wrap_i64]; omega)
                    have H_e4 := Lib.hid (show IntKind.i64.wrap (pv - pk) = pv - pk from by rw [IntKind.wrap_i64]; omega)
                    have hdn := dst_nn pv pk
                    have H_e5 := Lib.hid (show IntKind.i64.wrap (S + dst pv pk) = S + dst pv pk from by rw [IntKind.wrap_i64]; omega)
                    have H_d1 := Lib.hid (show decide (pk < 3) = false from by simp; omega)
                    have H_d2 := Lib.hid (show decide (60 < pk) = false from by simp; omega)
                    have H_d3 := Lib.hid (show decide (Y k < pk * lo) = false from by simp; omega)
                    have H_d4 := Lib.hid (show decide (pk * up < Y k) = false from by simp; omega)
                    have H_d5 := Lib.hid (show decide (6 < dst pv pk) = false from by simp; omega)
                    have HCS := Lib.hid hcs
                    have HMX := Lib.hid hmx
                    have HQQ := Lib.hid hq
                    clear m1 m2 b1 b2 b3 b4 hpk hpq hS hcs hmx hcb hcb2 hq hk00 hnr a1 a2
                    have e1 := H_e1.out
                    have e2 := H_e2.out
                    have d1 := H_d1.out
                    have d2 := H_d2.out
                    have d3 := H_d3.out
                    have d4 := H_d4.out
                    have PP := Lib.hid pp
                    have PQ := Lib.hid pq
                    go_wp2_with fail
                    go_quiet (fail)
                    clear e1 e2 d1 d2 d3 d4
                    clear pq pp py hdn HMX HZ HTP HEN HPL HPN
                    go_upto_region 41 with (fail)
                    have pp := PP.out
                    have pq := PQ.out
                    have hqw := H_hqw.out
                    have e3 := H_e3.out
                    have e4 := H_e4.out
                    go_region
                    clear e3 e4 hqw pp pq
                    have hmx : max (pk - pv) (pv - pk) = dst pv pk := by rw [Int.max_def]; unfold dst; split <;> split <;> omega
                    first | rw [hmx] | (have f3 : wrap64 (pk - pv) = pk - pv := by (have := H_e3.out; simpa using this)
                                        have f4 : wrap64 (pv - pk) = pv - pk := by (have := H_e4.out; simpa using this)
                                        rw [f3, f4, hmx])
                    clear hmx
                    have e5 := H_e5.out
                    have d5 := H_d5.out
                    go_wp2
                    go_roundw
                    case rel => exact ⟨k + 1, by omega, by go_num, by rw [Nat.add_sub_cancel, HCS.out], by first | exact drewN_below HB9.out _ | (go_grown; exact drewN_below HB9.out _) | exact drewN_below (drewN_below HB9.out _) _⟩
                    case measure => simp [intOf]; omega
                · obtain rfl : N = k := by omega
                  have hall := allIn_of (l := 3) (h := 60) (X := fun j => P.getD j 0) (n := N) (fun j hj => ⟨(HGP.out.bd j hj).1, (HGP.out.bd j hj).2.1⟩)
                  have hS0 : chs (fun j => P.getD j 0) (N - 1) = chg P := by unfold chg; rw [HGP.out.len]
                  have hz := HZ.out
                  rw [← hS0] at hz
                  have zw : w5.heap.size ≤ w9.heap.size := HBP.out.size
                  have zw2 : w2.heap.size ≤ w9.heap.size := HBY.out.size
                  have SLP := Lib.hid (show Sl wr (some ⟨g5, 0, none⟩) N 1 (fun j => P.getD j 0) from fun _ => ⟨g5, 0, rfl, by omega, fun j hj => by rw [Nat.zero_add]; exact CP.out wr j (HBP.out.trans (HB9.out.mono zw)) (by omega)⟩)
                  have HBE := Lib.hid (HB2.out.trans ((HBY.out.trans (HB9.out.mono zw2)).mono z2))
                  have HAL := Lib.hid hall
                  have HS0 := Lib.hid (show ¬ chs (fun j => P.getD j 0) (N - 1) = 0 from fun h => by have := hz.1 h; omega)
                  clear hS0 hall hz
                  go_wp2_with fail
                  refine (changesOf_i _ N c5 (fun j => P.getD j 0) _ n12 SLP.out HAL.out).mono ?_
                  rintro e w11 ⟨rfl, hb11⟩
                  have HB11 := Lib.hid (HBE.out.trans (hb11.mono HBE.out.size))
                  clear hb11
                  generalize chs (fun j => P.getD j 0) (N - 1) = S at *
                  have q1 : (S == 0) = false := by simpa using HS0.out
                  go_wp2
                  go_ret
                  exact ⟨by simp, HB11.out⟩
  · have HPL := Lib.hid (show PlanIs N Y lo up [] 3 from .inr ⟨hp, rfl, rfl⟩)
    have HPN := Lib.hid (show ([] : List Int).length = 0 from rfl)
    have HTP := Lib.hid hp
    obtain rfl : code2 = 3 := by
      rcases ends_code hen with rfl | rfl
      · exact absurd hp (one_plan n0 n12 hen)
      · rfl
    have HEN := Lib.hid hen
    clear hp hen
    as_aux_lemma =>
      refine (plan_i _ N c1 Y lo up [] 3 _ hNm (SLY.out _ (Below.refl _ _)) HSH.out HAP.out HPL.out).mono ?_
      rintro e w5 ⟨A5, c5, he5, k5, m5, row5, hb5⟩
      rw [HPN.out] at he5 k5 row5
      subst he5
      have z5 := hb5.size
      have HB5 := Lib.hid hb5
      have R5 := Lib.hid row5
      clear hb5 row5
      go_wp2_with fail
      refine (one_i _ N c1 Y lo up u v 3 _ hNm (SLY.out _ HB5.out) HSH.out HAP.out HEN.out).mono ?_
      rintro e w6 ⟨rfl, hb6⟩
      have z6 := hb6.size
      have HB6 := Lib.hid (HB5.out.trans (hb6.mono z5))
      have HB56 := Lib.hid hb6
      clear hb6
      go_wp2_with fail
      go_loopw [12, 13, 14, 15] (fun g ls ms t wr => ∃ (k : Nat) (good : Bool) (least most : Int), k ≤ N ∧ t = .int .i64 k ∧ g = .bool good ∧ ls = .int .i64 least ∧ ms = .int .i64 most ∧ Hid (Rng Y lo up k good least most) ∧ Below w6.heap.size w6 wr) (fun _ _ _ t _ => N - (intOf t).toNat)
      case atStart => exact ⟨0, true, 3, 60, by omega, rfl, rfl, rfl, rfl, Rng.zero Y lo up, by go_grown⟩
      case round =>
        obtain ⟨k, good, least, most, hk, rfl, rfl, rfl, rfl, HR, hbl⟩ := hrel
        have HB := Lib.hid hbl
        have zr := hbl.size
        clear hbl
        by_cases hlt : k < N
        · as_aux_lemma =>
            have hlt' : (k : Int) < (N : Int) := by omega
            have hk0 : (0 : Int) ≤ (k : Int) := by omega
            have HW := Lib.hid (HB6.out.trans (HB.out.mono (by omega)))
            have p0 := CY.out wr k HW.out hlt
            obtain ⟨y1, y2⟩ := HYB.out k hlt
            have hin := inB_yes y1 y2
            have HIN := Lib.hid hin
            clear hin
            obtain ⟨a, b, cc, he⟩ := Ends.ex (goodB (Y k) lo up)
            rcases ends_code he with rfl | rfl
            · obtain ⟨f1, f2, f3, f4, f5, f6, f7⟩ := ends_fact (by omega) lu he
              have HE := Lib.hid he
              have HN := Lib.hid (HR.out.okM (by omega) (by omega) he)
              have m1 := mul_bd (a := a) (b := up) (h := 60) (k := 100) (by omega) (by omega) (by omega) (by omega)
              have m2 := mul_bd (a := b) (b := lo) (h := 60) (k := 100) (by omega) (by omega) (by omega) (by omega)
              have m3 := mul_bd (a := a - 1) (b := up) (h := 60) (k := 100) (by omega) (by omega) (by omega) (by omega)
              have m4 := mul_bd (a := b + 1) (b := lo) (h := 61) (k := 100) (by omega) (by omega) (by omega) (by omega)
              have e1 : IntKind.i64.wrap (a * up) = a * up := by rw [IntKind.wrap_i64]; omega
              have e2 : IntKind.i64.wrap (b * lo) = b * lo := by rw [IntKind.wrap_i64]; omega
              have e3 : IntKind.i64.wrap ((a - 1) * up) = (a - 1) * up := by rw [IntKind.wrap_i64]; omega
              have e4 : IntKind.i64.wrap ((b + 1) * lo) = (b + 1) * lo := by rw [IntKind.wrap_i64]; omega
              have d1 : decide (a < 3) = false := by simp; omega
              have d2 : decide (b < a) = false := by simp; omega
              have d3 : decide (60 < b) = false := by simp; omega
              have d4 : decide (a * up < Y k) = false := by simp; omega
              have d5 : decide (Y k < b * lo) = false := by simp; omega
              have ha60 : a ≤ 60 := by omega
              have hia := Lib.hid (inB_yes f1 ha60)
              have q6 : (decide (3 < a) = true ∧ decide (Y k ≤ (a - 1) * up) = false) ∨ decide (3 < a) = false := by
                by_cases h : 3 < a
                · left; have := f6 h; simp; omega
                · right; simp; omega
              have q7 : (decide (b < 60) = true ∧ decide ((b + 1) * lo ≤ Y k) = false) ∨ decide (b < 60) = false := by
                by_cases h : b < 60
                · left; have := f7 h; simp; omega
                · right; simp; omega
              obtain ⟨r1, r2, r3, r4, r5⟩ := frac_fact (a := Y k) (s := a) y1 (by omega)
              have HFR := Lib.hid (show (Y k / gcdI (Y k) a) = (Y k / gcdI (Y k) a) from rfl)
              clear he m1 m2 m3 m4 f4 f5 f6 f7
              rcases q6 with ⟨q61, q62⟩ | q61 <;> rcases q7 with ⟨q71, q72⟩ | q71
              all_goals
                go_wp2_with fail
                refine (range_i (Y k) lo up a b 0 _ HIN.out HAP.out HE.out).mono ?_
                rintro e w7 ⟨rfl, hb7⟩
                have z7 := hb7.size
                have HB7 := Lib.hid (HB.out.trans (hb7.mono zr))
                have HW7 := Lib.hid (HW.out.trans (hb7.mono (by omega)))
                have p1 := CY.out w7 k HW7.out hlt
                clear hb7 p0
                go_wp2_with fail
                refine (spacing_i _ N c1 Y a k _ hNm (SLY.out _ HW7.out) HSH.out hia.out hlt).mono ?_
                rintro e w8 ⟨rfl, hb8⟩
                have z8 := hb8.size
                have HB8 := Lib.hid (HB7.out.trans (hb8.mono (by omega)))
                have HW8 := Lib.hid (HW7.out.trans (hb8.mono (by omega)))
                have p2 := CY.out w8 k HW8.out hlt
                have hg8 : g1 < w8.heap.size := by omega
                clear hb8 p1 e1 e2 e3 e4
                generalize Y k / gcdI (Y k) a = num at *
                generalize a / gcdI (Y k) a = den at *
                have e5 : IntKind.i64.wrap (num * a) = num * a := by have := mul_bd (a := num) (b := a) (h := 5000) (k := 60) (by omega) (by omega) (by omega) (by omega); rw [IntKind.wrap_i64]; omega
                have e6 : IntKind.i64.wrap (Y k * den) = Y k * den := by have := mul_bd (a := Y k) (b := den) (h := 5000) (k := 60) (by omega) (by omega) (by omega) (by omega); rw [IntKind.wrap_i64]; omega
                have d6 : decide (den < 1) = false := by simp; omega
                have d7 : (num * a == Y k * den) = true := by simpa using r5
                have d8 : (num * a != Y k * den) = false := by simpa using r5
                have p3 : (w8.alloc (Obj.cells #[.int .i64 num, .int .i64 den] 27)).cell? ⟨g1, k, none⟩ = some (.int .i64 (Y k)) := ((show Below w8.heap.size w8 (w8.alloc (Obj.cells #[.int .i64 num, .int .i64 den] 27)) by go_grown).cell (p := ⟨g1, k, none⟩) hg8).trans p2
                clear r5 p2
                go_wp2_with fail
                go_quiet (fail)
                clear e5 e6 d7 d8
                go_wp2
                go_roundw
                case rel => exact ⟨k + 1, good, max least a, min most b, by omega, by go_num, rfl, rfl, rfl, HN.out, by go_grown; exact drewN_below (HB8.out.alloc (by omega) _) _⟩
                case measure => simp [intOf]; omega
            · have HE := Lib.hid he
              clear he
              go_wp2_with fail
              refine (range_i (Y k) lo up a b 3 _ HIN.out HAP.out HE.out).mono ?_
              rintro e w7 ⟨rfl, hb7⟩
              have HN := Lib.hid (HR.out.bad HE.out)
              have HB7 := Lib.hid (HB.out.trans (hb7.mono zr))
              clear hb7 p0
              go_wp2
              go_roundw
              case rel => exact ⟨k + 1, false, least, most, by omega, by go_num, rfl, rfl, rfl, HN.out, HB7.out⟩
              case measure => simp [intOf]; omega
        · obtain rfl : N = k := by omega
          obtain ⟨t1, t2, t3⟩ := HR.out.last n0 HEN.out
          as_aux_lemma =>
            have hng : good = false ∨ good = true ∧ ¬ least ≤ most := by
              cases hgd : good
              · exact .inl rfl
              · exact .inr ⟨rfl, fun h => by have := t1.2 ⟨hgd, h⟩; omega⟩
            have HBE := Lib.hid (HB2.out.trans (HB6.out.trans (HB.out.mono (by omega)) |>.mono z2))
            clear t1 t2 t3
            rcases hng with rfl | ⟨rfl, hle⟩
            · go_wp2
              go_ret
              exact ⟨rfl, HBE.out⟩
            · go_wp2
              go_ret
              exact ⟨rfl, HBE.out⟩

end Go.Proofs.Ythcebbamgoklcaa.shp
