/-
  Contracts of BestCuts, of the model's and of the program's.
-/
import Derived.Test.YtcpaenmhnoagdabHarvestW
import Derived.Test.YtcpaenmhnoagdabYieldOfPlan
import Derived.Test.YtcpaenmhnoagdabCutForW
import Derived.Test.YtcpaenmhnoagdabMarkBeds
namespace Go.Proofs.Ytcpaenmhnoagdab.rod
open Go.ChangeShapes Go.WideShapes Go.ChangeAt Go.RowKit Go.Proofs.Ytcpaenmhnoagdab.mem Go.Proofs.Ytcpaenmhnoagdab.nums
set_option linter.unusedVariables false

section
variable (m : Nat) (Y : Nat → Int) (a : Int) (N : Nat)
/-- the best of the first b sets -/
def topS : Nat → Nat
  | 0 => 0
  | b + 1 => if ky (pls m Y a (topS b) N).1 (topS b) < ky (pls m Y a b N).1 b then b else topS b
end
theorem topS_max {m : Nat} {Y : Nat → Int} {a : Int} {N : Nat} : ∀ b x, x < b → ky (pls m Y a x N).1 x ≤ ky (pls m Y a (topS m Y a N b) N).1 (topS m Y a N b)
  | 0, x, h => by omega
  | b + 1, x, h => by
    have ih := fun y (hy : y < b) => topS_max (m := m) (Y := Y) (a := a) (N := N) b y hy
    simp only [topS]
    by_cases hc : ky (pls m Y a (topS m Y a N b) N).1 (topS m Y a N b) < ky (pls m Y a b N).1 b
    · rw [if_pos hc]
      by_cases e : x = b
      · subst e; exact Int.le_refl _
      · have := ih x (by omega); omega
    · rw [if_neg hc]
      by_cases e : x = b
      · subst e; omega
      · exact ih x (by omega)
theorem topS_lt {m : Nat} {Y : Nat → Int} {a : Int} {N : Nat} : ∀ b, 0 < b → topS m Y a N b < b
  | 0, h => by omega
  | b + 1, _ => by
    simp only [topS]
    split
    · omega
    · rcases Nat.eq_zero_or_pos b with h | h
      · subst h; exact Nat.zero_lt_one
      · have := topS_lt (m := m) (Y := Y) (a := a) (N := N) b h; omega
theorem pls_zero {m : Nat} {Y : Nat → Int} {a : Int} : ∀ y, (pls m Y a 0 y).1 = 0
  | 0 => rfl
  | y + 1 => by rw [pls_no (by simp)]; exact pls_zero y

/-- numbers of a set, a sum and a code -/
def BestSaid (w : World) (l : List Int) (v code : Int) (e : Ending) (w' : World) : Prop :=
  ∃ A c, e = .returned (.tuple #[.slice A l.length c, .int .i64 v, .int .i64 code]) ∧ l.length ≤ c ∧ c ≤ maxLen ∧ Row w' w.heap.size w'.heap.size A l.length 1 2 (fun j => l.getD j 0) ∧ Below w.heap.size w w'
/-- what is wrong with the arguments -/
def BestNo (m : Nat) (Y : Nat → Int) (a : Int) (years code : Int) : Prop := bedB m Y a = false ∧ code = 1 ∨ bedB m Y a = true ∧ inB years 1 12 = false ∧ code = 2

set_option maxHeartbeats 2000000 in
theorem bestCuts_s_no (A : Option Addr) (m c : Nat) (Y : Nat → Int) (a years code : Int) (w : World) (hm : m ≤ maxLen) (h : Sl w A m 1 Y) (hv : BestNo m Y a years code) :
    Calls Try.prog 48 #[.agg #[.slice A m c, .int .i64 a], .int .i64 years] w (BestSaid w [] 0 code) := by
  have HN := Lib.hid (bedAt_new (c := c) (a := a) 65 h)
  clear h
  rcases hv with ⟨hv, rfl⟩ | ⟨hv, hy, rfl⟩
  all_goals
    go_enter Try.func48, Try.ntmps48
    go_wp2_with fail
    refine (bedOne_s _ _ m Y a _ hm HN.out).mono ?_
    rintro e w' ⟨rfl, k, rfl⟩
    rw [hv]
    go_wp2_with (go_at_call 96; refine (years_s _ _).mono ?_; rintro e w' ⟨rfl, rfl⟩)
    go_ret3
    exact ⟨none, 0, rfl, Nat.le_refl _, by unfold maxLen; omega, Row.none_, drewN_below (by go_grown) _⟩

set_option maxHeartbeats 2000000 in
theorem bestCuts_i_no (A : Option Addr) (m c : Nat) (Y : Nat → Int) (a years code : Int) (w : World) (hm : m ≤ maxLen) (h : Sl w A m 1 Y) (hv : BestNo m Y a years code) :
    Calls Try.prog 50 #[.agg #[.slice A m c, .int .i64 a], .int .i64 years] w (BestSaid w [] 0 code) := by
  have H := Lib.hid h
  clear h
  rcases hv with ⟨hv, rfl⟩ | ⟨hv, hy, rfl⟩
  all_goals
    go_enter Try.func50, Try.ntmps50
    go_wp2_with fail
    refine (bedOne_i A m c Y a _ hm (Sl.below H.out (K := w.heap.size) (by go_grown) (Nat.le_refl _))).mono ?_
    rintro e w1 ⟨rfl, hb1⟩
    rw [hv]
    have g1 : Below w.heap.size w w1 := Below.trans (by go_grown) (hb1.mono (by simp))
    clear hb1
    go_wp2_with (go_at_call 88; refine (in_i _ _ _ _).mono ?_; rintro e w' ⟨rfl, rfl⟩)
    go_ret3
    exact ⟨none, 0, rfl, Nat.le_refl _, by unfold maxLen; omega, Row.none_, g1⟩

set_option maxHeartbeats 4000000 in
theorem bestCuts_i (A : Option Addr) (m c : Nat) (Y : Nat → Int) (a N : Nat) (w : World) (hN1 : 1 ≤ N) (hN : N ≤ 12) (h : Sl w A m 1 Y) (hv : bedB m Y a = true) :
    Calls Try.prog 50 #[.agg #[.slice A m c, .int .i64 a], .int .i64 N] w (BestSaid w (idxs (topS m Y a N (2 ^ N)).testBit N) (pls m Y a (topS m Y a N (2 ^ N)) N).1 0) := by
  obtain ⟨⟨m1, m5⟩, m2, hY⟩ := bedB_of hv
  have hq := topS_lt (m := m) (Y := Y) (a := (a : Int)) (N := N) (2 ^ N) (Nat.two_pow_pos N)
  have hbest := hv_best (m := m) (Y := Y) (N := N) (a := a) m1 m5 hN (by omega) hq (fun b hb => topS_max (2 ^ N) b hb)
  generalize topS m Y (a : Int) N (2 ^ N) = q at *
  generalize (pls m Y (a : Int) q N).1 = v at *
  have HY := Lib.hid hY
  have HV := Lib.hid hv
  have H := Lib.hid h
  have HBE := Lib.hid hbest
  have hy : inB N 1 12 = true := inB_yes (by omega) (by omega)
  have HYR := Lib.hid hy
  clear hY hv h hbest hy
  go_enter Try.func50, Try.ntmps50
  go_wp2_with fail
  refine (bedOne_i A m c Y a _ (by unfold maxLen; omega) (Sl.below H.out (K := w.heap.size) (by go_grown) (Nat.le_refl _))).mono ?_
  rintro e w1 ⟨rfl, hb1⟩
  rw [HV.out]
  have z1 := hb1.size
  simp at z1
  have g1 : Below w.heap.size w w1 := Below.trans (by go_grown) (hb1.mono (by simp))
  have c0 : w1.cell? ⟨w.heap.size, 0, none⟩ = some (.slice A m c) := by rw [(bcell hb1).1 _ _ (by simp)]; go_simp
  have c1 : w1.cell? ⟨w.heap.size, 1, none⟩ = some (.int .i64 a) := by rw [(bcell hb1).1 _ _ (by simp)]; go_simp
  have HG1 := Lib.hid g1
  clear hb1 g1
  go_wp2_with (go_at_call 88; refine (in_i _ _ _ _).mono ?_; rintro e w' ⟨rfl, rfl⟩; rw [HYR.out])
  refine (harvest_i A m c Y a N _ m1 m5 HY.out (by omega) hN (H.out.below HG1.out (Nat.le_refl _))).mono ?_
  rintro e w2 ⟨rfl, hb2⟩
  rw [HBE.out]
  have g2 : Below w.heap.size w w2 := HG1.out.trans (hb2.mono (by omega))
  have HG2 := Lib.hid g2
  have z2 := g2.size
  clear hb2 g2 c0 c1
  have hq16 : q < 2 ^ 32 := Nat.lt_of_lt_of_le hq (Nat.pow_le_pow_right (by decide) (by omega))
  have HNU := Lib.hid (fun W => numbers_i q N W (by omega) hq)
  go_wp2_with fail
  have p0 : (w2.alloc (Obj.cells #[.int .u32 q, .int .i64 v] 115)).cell? ⟨w2.heap.size, 0, none⟩ = some (.int .u32 q) := by go_simp
  have p1 : (w2.alloc (Obj.cells #[.int .u32 q, .int .i64 v] 115)).cell? ⟨w2.heap.size, 1, none⟩ = some (.int .i64 v) := by go_simp
  go_region_held3 (fun x => x.cell? ⟨w2.heap.size, 0, none⟩ = some (.int .u32 q) ∧ x.cell? ⟨w2.heap.size, 1, none⟩ = some (.int .i64 v)) (first | exact ⟨p0, p1⟩ | go_keep)
    (first
      | (go_at_call 101; refine (HNU.out _).mono ?_; rintro e w3 ⟨A3, c3, rfl, k3, m3, hr, hb⟩
         have hz3 := hb.size
         simp at hz3
         have g3 : Below w.heap.size w w3 := Below.trans (HG2.out.trans (by go_grown)) (hb.mono (by simp; omega))
         have HR3 := Lib.hid (hr.wide (lo' := w.heap.size) (by simp; omega) (Nat.le_refl _))
         replace p0 := (hb.cell (p := ⟨w2.heap.size, 0, none⟩) (by simp)).trans p0
         replace p1 := (hb.cell (p := ⟨w2.heap.size, 1, none⟩) (by simp)).trans p1
         clear hb hr))
  go_wp2
  go_ret3
  exact ⟨A3, c3, rfl, k3, m3, HR3.out, g3⟩

section
variable {m : Nat} {Y : Nat → Int} {a : Int} {N b : Nat}
theorem topS_cmp (hN : N ≤ 12) (hb : b < 2 ^ N) (hX : topS m Y a N b < 2 ^ N) : (ky (pls m Y a (topS m Y a N b) N).1 (topS m Y a N b) < ky (pls m Y a b N).1 b) ↔ ((pls m Y a (topS m Y a N b) N).1 < (pls m Y a b N).1 ∨ (pls m Y a b N).1 = (pls m Y a (topS m Y a N b) N).1 ∧ befB N b (topS m Y a N b) = true) := by
  have p16 : (2 : Nat) ^ N ≤ 2 ^ 16 := Nat.pow_le_pow_right (by decide) (by omega)
  rw [← ky_iff (by omega) (by omega), ← befB_more hb hX (by omega), befB_iff (by omega) (by omega)]
  rfl
theorem topS_new (hN : N ≤ 12) (hb : b < 2 ^ N) (hX : topS m Y a N b < 2 ^ N) (h : (pls m Y a (topS m Y a N b) N).1 < (pls m Y a b N).1 ∨ (pls m Y a b N).1 = (pls m Y a (topS m Y a N b) N).1 ∧ befB N b (topS m Y a N b) = true) : topS m Y a N (b + 1) = b := by
  show (if _ then _ else _) = _; rw [if_pos ((topS_cmp hN hb hX).2 h)]
theorem topS_old (hN : N ≤ 12) (hb : b < 2 ^ N) (hX : topS m Y a N b < 2 ^ N) (h : (pls m Y a b N).1 < (pls m Y a (topS m Y a N b) N).1 ∨ (pls m Y a b N).1 = (pls m Y a (topS m Y a N b) N).1 ∧ befB N b (topS m Y a N b) = false) : topS m Y a N (b + 1) = topS m Y a N b := by
  show (if _ then _ else _) = _
  rw [if_neg]
  rw [topS_cmp hN hb hX]
  rintro (h1 | ⟨h1, h2⟩)
  · rcases h with h | ⟨h, _⟩ <;> omega
  · rcases h with h | ⟨_, h⟩
    · omega
    · rw [h] at h2; cases h2
theorem topS_one : topS m Y a N 1 = 0 := by
  show (if _ then _ else _) = _
  rw [if_neg]
  · rfl
  show ¬ ky (pls m Y a 0 N).1 0 < ky (pls m Y a 0 N).1 0
  omega
end

set_option maxHeartbeats 4000000 in
theorem bestCuts_s (A : Option Addr) (m c : Nat) (Y : Nat → Int) (a N : Nat) (w : World) (hN1 : 1 ≤ N) (hN : N ≤ 12) (h : Sl w A m 1 Y) (hv : bedB m Y a = true) :
    Calls Try.prog 48 #[.agg #[.slice A m c, .int .i64 a], .int .i64 N] w (BestSaid w (idxs (topS m Y a N (2 ^ N)).testBit N) (pls m Y a (topS m Y a N (2 ^ N)) N).1 0) := by
  obtain ⟨⟨m1, m5⟩, m2, hY⟩ := bedB_of hv
  clear hY
  obtain ⟨q, hq⟩ : ∃ q : Nat, 2 ^ N = q := ⟨_, rfl⟩
  have hq4096 : q ≤ 4096 := by rw [← hq]; exact Nat.pow_le_pow_right (n := 2) (by decide) hN
  have hq1 : 1 < q := by rw [← hq]; exact Nat.one_lt_two_pow (by omega)
  have hw : wrap64 (2 ^ N) = (q : Int) := by
    have : (2 : Int) ^ N = (q : Int) := by rw [← hq]; simp
    rw [this]
    exact IntWalk.wrap64_in _ ⟨by omega, by omega⟩
  have HQ := Lib.hid hq
  have HV := Lib.hid hv
  have HN := Lib.hid (bedAt_new (c := c) (a := a) 65 h)
  have hy : inB N 1 12 = true := inB_yes (by omega) (by omega)
  have HYR := Lib.hid hy
  have hn63 : (N : Int) < 64 := by omega
  have hp0 : (0 : Int) ≤ N := by omega
  clear hv hq hy h
  go_enter Try.func48, Try.ntmps48
  go_wp2_with fail
  refine (bedOne_s _ _ m Y a _ (by unfold maxLen; omega) HN.out).mono ?_
  rintro e w' ⟨rfl, k0, rfl⟩
  rw [HV.out]
  go_wp2_with (go_at_call 96; refine (years_s _ _).mono ?_; rintro e w' ⟨rfl, rfl⟩; rw [HYR.out])
  go_loopw [9, 7, 8] (fun s v f wr => ∃ (b : Nat) (A3 : Option Addr) (L c3 : Nat) (u : Int), 1 ≤ b ∧ b ≤ q ∧ s = .int .i64 b ∧ v = .slice A3 L c3 ∧ f = .int .i64 u ∧ Hid (u = (pls m Y a (topS m Y a N b) N).1) ∧ Hid (L = (idxs (topS m Y a N b).testBit N).length) ∧ L ≤ c3 ∧ c3 ≤ maxLen ∧ Hid (Row wr w.heap.size wr.heap.size A3 L 1 2 (fun j => (idxs (topS m Y a N b).testBit N).getD j 0)) ∧ Hid (BedAt wr w.heap.size 0 m Y a) ∧ w.heap.size < wr.heap.size ∧ Below w.heap.size w wr) (fun s _ _ _ => q - (intOf s).toNat)
  case atStart =>
    exact ⟨1, _, 0, 0, 0, by omega, by omega, rfl, rfl, rfl, by show (0 : Int) = _; rw [topS_one, pls_zero], by show 0 = (idxs (topS m Y a N 1).testBit N).length; rw [topS_one, idxs_zero]; rfl, Nat.le_refl _, by unfold maxLen; omega, Row.none_, (BedAt.drew ⟨k0, rfl⟩ HN.out).below (by go_grown) (by simp), by simp; omega, by go_grown; exact drewN_below (by go_grown) _⟩
  case round =>
    obtain ⟨b, A3, L, c3, u, hb1, hb, rfl, rfl, rfl, HU, HL, k3, m3, HRow, HBed, hbz, hbl⟩ := hrel
    have hzz := hbl.size
    have HBL := Lib.hid hbl
    clear hbl
    by_cases hlt : b < q
    · have hlt' : (b : Int) < (q : Int) := by omega
      have hbq : b < 2 ^ N := by have := HQ.out; omega
      have hXq : topS m Y a N b < 2 ^ N := by have := topS_lt (m := m) (Y := Y) (a := a) (N := N) b (by omega); omega
      have hpl := plan_s w.heap.size 0 m Y a b N wr (by omega) hN HV.out HBed.out
      obtain ⟨v, hvv⟩ : ∃ v, v = (pls m Y a b N).1 := ⟨_, rfl⟩
      have HVV := Lib.hid hvv
      rw [← hvv] at hpl
      have HPL := Lib.hid hpl
      clear hpl
      by_cases h1 : v < u
      · have HT := Lib.hid (topS_old (m := m) (Y := Y) (a := a) hN hbq hXq (.inl (by have := HU.out; omega)))
        clear hvv
        go_wp2_with fail
        refine HPL.out.mono ?_
        rintro e w2 ⟨rfl, k2, rfl⟩
        go_wp2_with fail
        go_roundw
        case rel => exact ⟨b + 1, A3, L, c3, u, by omega, by omega, by go_num, rfl, rfl, by rw [HT.out]; exact HU.out, by rw [HT.out]; exact HL.out, k3, m3, by rw [HT.out]; exact HRow.out.wide (Nat.le_refl _) (by simp), BedAt.drew ⟨k2, rfl⟩ HBed.out, by simpa using hbz, drewN_below HBL.out _⟩
        case measure => simp [intOf]; omega
      · by_cases h2 : u < v
        · have HT := Lib.hid (topS_new (m := m) (Y := Y) (a := a) hN hbq hXq (.inl (by have := HU.out; omega)))
          clear hvv
          go_wp2_with fail
          refine HPL.out.mono ?_
          rintro e w2 ⟨rfl, k2, rfl⟩
          have HBL2 := Lib.hid (drewN_below HBL.out k2)
          have HBed2 := Lib.hid (BedAt.drew (w := wr) ⟨k2, rfl⟩ HBed.out)
          go_wp2_with fail
          refine (list_s b N _ (by omega) (by omega)).mono ?_
          rintro e w3 ⟨A4, c4, rfl, k4, m4, hr4, hb4⟩
          have hz4 := hb4.size
          simp at hz4
          have HG4 := Lib.hid (HBL2.out.trans (hb4.mono (by simp; omega)))
          have HBed4 := Lib.hid (HBed2.out.below hb4 (by simp; omega))
          have HR4 := Lib.hid (hr4.wide (lo' := w.heap.size) (by simp; omega) (Nat.le_refl _))
          clear hr4 hb4
          generalize hL4 : (idxs b.testBit N).length = L4 at *
          have HL4 := Lib.hid hL4
          clear hL4
          go_wp2_with fail
          go_roundw
          case rel => exact ⟨b + 1, A4, L4, c4, v, by omega, by omega, by go_num, rfl, rfl, by rw [HT.out]; exact HVV.out, by rw [HT.out]; exact HL4.out.symm, k4, m4, by rw [HT.out]; exact HR4.out, HBed4.out, by omega, HG4.out⟩
          case measure => simp [intOf]; omega
        · have he : v = u := by omega
          obtain ⟨X, hX⟩ : ∃ X, X = topS m Y a N b := ⟨_, rfl⟩
          have HX := Lib.hid hX
          have hl2 := HL.out
          have hr2 := HRow.out
          rw [← hX] at hl2 hr2
          have HLX := Lib.hid hl2
          have HRX := Lib.hid hr2
          cases hbf : befB N b X
          · have HT := Lib.hid (topS_old (m := m) (Y := Y) (a := a) hN hbq hXq (.inr ⟨by have := HU.out; omega, hX ▸ hbf⟩))
            have HBF := Lib.hid hbf
            clear hvv hbf hX hl2 hr2
            clear HVV
            subst he
            go_wp2_with fail
            refine HPL.out.mono ?_
            rintro e w2 ⟨rfl, k2, rfl⟩
            have HBL2 := Lib.hid (drewN_below HBL.out k2)
            have HBed2 := Lib.hid (BedAt.drew (w := wr) ⟨k2, rfl⟩ HBed.out)
            go_wp2_with fail
            refine (list_s b N _ (by omega) (by omega)).mono ?_
            rintro e w3 ⟨A4, c4, rfl, k4, m4, hr4, hb4⟩
            have hz4 := hb4.size
            simp at hz4
            have HG4 := Lib.hid (HBL2.out.trans (hb4.mono (by simp; omega)))
            have HBed4 := Lib.hid (HBed2.out.below hb4 (by simp; omega))
            have HR4 := Lib.hid (hr4.wide (lo' := w.heap.size) (by simp; omega) (Nat.le_refl _))
            have hb5 : Below wr.heap.size wr w3 := Below.trans (drewN_below (Below.refl _ _) k2) (hb4.mono (by simp))
            have HR3 := Lib.hid (HRX.out.below hb5 (Nat.le_refl _))
            clear hb5
            clear hr4 hb4
            generalize hL4 : (idxs b.testBit N).length = L4 at *
            have HL4 := Lib.hid hL4
            clear hL4
            go_wp2_with fail
            refine (less_s A4 A3 N b X L4 L c4 c3 _ HL4.out HLX.out.symm (by omega) HR4.out.sl HR3.out.sl).mono ?_
            rintro e w6 ⟨rfl, m6, rfl⟩
            rw [HBF.out]
            go_wp2_with fail
            go_roundw
            case rel => exact ⟨b + 1, A3, L, c3, v, by omega, by omega, by go_num, rfl, rfl, by rw [HT.out]; exact HU.out, by rw [HT.out]; exact HL.out, k3, m3, by rw [HT.out, ← HX.out]; exact (HR3.out.wide (Nat.le_refl _) (by simp; omega)), BedAt.drew ⟨m6, rfl⟩ HBed4.out, by simp; omega, drewN_below HG4.out _⟩
            case measure => simp [intOf]; omega
          · have HT := Lib.hid (topS_new (m := m) (Y := Y) (a := a) hN hbq hXq (.inr ⟨by have := HU.out; omega, hX ▸ hbf⟩))
            have HBF := Lib.hid hbf
            clear hvv hbf hX hl2 hr2
            have HVU := Lib.hid (show v = (pls m Y a b N).1 from HVV.out)
            clear HVV
            subst he
            go_wp2_with fail
            refine HPL.out.mono ?_
            rintro e w2 ⟨rfl, k2, rfl⟩
            have HBL2 := Lib.hid (drewN_below HBL.out k2)
            have HBed2 := Lib.hid (BedAt.drew (w := wr) ⟨k2, rfl⟩ HBed.out)
            go_wp2_with fail
            refine (list_s b N _ (by omega) (by omega)).mono ?_
            rintro e w3 ⟨A4, c4, rfl, k4, m4, hr4, hb4⟩
            have hz4 := hb4.size
            simp at hz4
            have HG4 := Lib.hid (HBL2.out.trans (hb4.mono (by simp; omega)))
            have HBed4 := Lib.hid (HBed2.out.below hb4 (by simp; omega))
            have HR4 := Lib.hid (hr4.wide (lo' := w.heap.size) (by simp; omega) (Nat.le_refl _))
            have hb5 : Below wr.heap.size wr w3 := Below.trans (drewN_below (Below.refl _ _) k2) (hb4.mono (by simp))
            have HR3 := Lib.hid (HRX.out.below hb5 (Nat.le_refl _))
            clear hb5
            clear hr4 hb4
            generalize hL4 : (idxs b.testBit N).length = L4 at *
            have HL4 := Lib.hid hL4
            clear hL4
            go_wp2_with fail
            refine (less_s A4 A3 N b X L4 L c4 c3 _ HL4.out HLX.out.symm (by omega) HR4.out.sl HR3.out.sl).mono ?_
            rintro e w6 ⟨rfl, m6, rfl⟩
            rw [HBF.out]
            go_wp2_with fail
            go_roundw
            case rel => exact ⟨b + 1, A4, L4, c4, v, by omega, by omega, by go_num, rfl, rfl, by rw [HT.out]; exact HVU.out, by rw [HT.out]; exact HL4.out.symm, k4, m4, by rw [HT.out]; exact (HR4.out.wide (Nat.le_refl _) (by simp)), BedAt.drew ⟨m6, rfl⟩ HBed4.out, by simp; omega, drewN_below HG4.out _⟩
            case measure => simp [intOf]; omega
    · obtain rfl : b = q := by omega
      go_wp2
      go_ret3
      rw [HQ.out]
      have hLL := HL.out
      exact ⟨A3, c3, by rw [← hLL, ← HU.out]; rfl, by omega, m3, by rw [← hLL]; exact HRow.out, HBL.out⟩

theorem wroteIn_below {w w' : World} {lo hi : Nat} (h : Below w.heap.size w w') : WroteIn w w' lo hi := ⟨h.os, h.tape, h.output, h.size, fun k hk _ => h.block k hk⟩
set_option maxHeartbeats 1000000 in
theorem markBed_c (A : Option Addr) (m c lo hi : Nat) (q : Int) (X : Nat → Int) (a : Int) (w : World) (hm : m ≤ 1048576) (q0 : 0 ≤ q) (q1 : q ≤ 1000000000) (hr : Row w lo hi A m 1 2 X) :
    Calls Try.prog 52 #[.agg #[.slice A m c, .int .i64 a], .int .i64 q] w (Marked w lo hi A m 1 2 (q + m) (fun j => q + j)) := by
  have HR := Lib.hid hr
  clear hr
  go_enter Try.func52, Try.ntmps52
  go_wp2_with fail
  refine (markInts_c A m c lo hi q X _ hm q0 q1 (HR.out.wrote (lo' := hi) (hi' := hi) (wroteIn_below (by go_grown)) (.inl (Nat.le_refl _)))).mono ?_
  rintro e w2 ⟨rfl, hr2, hw2⟩
  have HR2 := Lib.hid hr2
  have g2 : WroteIn w w2 lo hi := WroteIn.trans (wroteIn_below (by go_grown)) hw2 (.inl ⟨Nat.le_refl _, Nat.le_refl _⟩)
  have HG2 := Lib.hid g2
  clear hr2 hw2 g2
  go_wp2
  go_ret
  exact ⟨rfl, HR2.out, HG2.out⟩

end Go.Proofs.Ytcpaenmhnoagdab.rod
