/-
  Contracts of YieldOfPlan, of the model's and of the program's.
-/
import Derived.Test.YtcpaenmhnoagdabPlan
namespace Go.Proofs.Ytcpaenmhnoagdab.rod
open Go.ChangeShapes Go.WideShapes Go.ChangeAt Go.RowKit Go.Proofs.Ytcpaenmhnoagdab.mem Go.Proofs.Ytcpaenmhnoagdab.nums
set_option linter.unusedVariables false

set_option maxHeartbeats 1000000 in
theorem years_s (n : Int) (w : World) :
    Calls Try.prog 96 #[.int .i64 n] w fun e w' => e = .returned (.bool (inB n 1 12)) ∧ w = w' := by
  go_enter Try.func96, Try.ntmps96
  go_wp2_with (go_at_call 87; refine (in_s _ _ _ _).mono ?_; rintro e w' ⟨rfl, rfl⟩)
  go_ret
  exact ⟨rfl, rfl⟩

/-- years and cuts of a plan are as told -/
def planB (n : Nat) (C : Nat → Int) (years : Int) : Bool := inB years 1 12 && risL 0 (years - 1) C n
theorem planB_of {n : Nat} {C : Nat → Int} {years : Int} (h : planB n C years = true) : (1 ≤ years ∧ years ≤ 12) ∧ risL 0 (years - 1) C n = true := by
  unfold planB at h
  simp only [Bool.and_eq_true] at h
  exact ⟨inB_of h.1, h.2⟩

/-- the year of the cut before, and the sum of what the first cuts yield -/
def lst (a : Int) (C : Nat → Int) : Nat → Int
  | 0 => -a
  | i + 1 => C i
def isum (m : Nat) (Y : Nat → Int) (a : Int) (C : Nat → Int) : Nat → Int
  | 0 => 0
  | i + 1 => isum m Y a C i + yl m Y (C i - lst a C i)
theorem lst_bd {a hi : Int} {C : Nat → Int} {n i : Nat} (h : risL 0 hi C n = true) (ha : 0 ≤ a) (hi' : i < n) : 0 ≤ C i - lst a C i ∧ C i ≤ hi ∧ -a ≤ lst a C i ∧ (lst a C i ≤ hi ∨ i = 0) := by
  have h1 := risL_in hi' h
  cases i with
  | zero => simp only [lst]; omega
  | succ i =>
    have h2 := risL_up hi' h
    have h3 := risL_in (i := i) (by omega) h
    simp only [lst]; omega
theorem isum_bd {m : Nat} {Y : Nat → Int} {a hi : Int} {C : Nat → Int} {n : Nat} (hm : 1 ≤ m) (hY : ∀ i, i < m → 0 ≤ Y i ∧ Y i ≤ 10000) (ha : 0 ≤ a) (h : risL 0 hi C n = true) : ∀ i : Nat, i ≤ n → 0 ≤ isum m Y a C i ∧ isum m Y a C i ≤ 10000 * i
  | 0, _ => by simp [isum]
  | i + 1, hi' => by
    obtain ⟨h1, h2⟩ := isum_bd hm hY ha h i (by omega)
    have h3 := yl_bd (t := C i - lst a C i) hm hY (lst_bd h ha (by omega)).1
    simp only [isum]
    omega
theorem pls_isum {m : Nat} {Y : Nat → Int} {a hi : Int} {C : Nat → Int} {n : Nat} (ha : 0 ≤ a) (h : risL 0 hi C n = true) : ∀ (y i : Nat), i ≤ n → (∀ j, j < i → C j < y) → (∀ j, i ≤ j → j < n → (y : Int) ≤ C j) →
    pls m Y a (orC C n) y = (isum m Y a C i, y - lst a C i)
  | 0, i, hi', h1, h2 => by
    have : i = 0 := by
      rcases Nat.eq_zero_or_pos i with e | e
      · exact e
      · have := h1 0 e
        have := risL_in (i := 0) (by omega) h
        omega
    subst this
    simp [pls, isum, lst]
  | y + 1, i, hi', h1, h2 => by
    by_cases hc : 0 < i ∧ C (i - 1) = y
    · obtain ⟨i0, hc⟩ := hc
      obtain ⟨k, rfl⟩ : ∃ k, i = k + 1 := ⟨i - 1, by omega⟩
      simp only [Nat.add_sub_cancel] at hc
      have hb : (orC C n).testBit y = true := orC_bit.2 ⟨k, by omega, by omega⟩
      have ih := pls_isum (m := m) (Y := Y) ha h y k (by omega) (fun j hj => by have := risL_lt (k := k) (by omega) hj h; omega) (fun j hj hjn => by
        by_cases e : j = k
        · subst e; omega
        · have := risL_lt (k := j) (i := k) hjn (by omega) h; omega)
      rw [pls_yes hb, ih]
      simp only [isum, lst, hc]
      ext <;> simp <;> omega
    · have h3 : ∀ j, j < i → C j < y := fun j hj => by
        have a1 := h1 j hj
        by_cases e : j = i - 1
        · subst e
          have : ¬ C (i - 1) = y := fun e => hc ⟨by omega, e⟩
          omega
        · have a2 := risL_lt (k := i - 1) (i := j) (by omega) (by omega) h
          have a3 := h1 (i - 1) (by omega)
          omega
      have hb : (orC C n).testBit y = false := by
        cases e : (orC C n).testBit y
        · rfl
        · obtain ⟨j, hj, e2⟩ := orC_bit.1 e
          have hj0 := risL_in hj h
          rcases Nat.lt_or_ge j i with hlt | hge
          · have := h3 j hlt; omega
          · have := h2 j hge hj; omega
      rw [pls_no hb, pls_isum ha h y i hi' h3 (fun j hj hjn => by have := h2 j hj hjn; omega)]
      ext <;> simp <;> omega

theorem or_step {C : Nat → Int} {i : Nat} (h : orC C i < 2 ^ 12) (ht : (C i).toNat < 12) : Value.int .i64 (bits .or .i64 (orC C i : Nat) (wrap64 (2 ^ (C i).toNat))) = .int .i64 ((orC C (i + 1) : Nat) : Int) := by
  have h1 : 2 ^ (C i).toNat < 2 ^ 12 := Nat.pow_lt_pow_right (by decide) ht
  obtain ⟨q, hq⟩ : ∃ q : Nat, 2 ^ (C i).toNat = q := ⟨_, rfl⟩
  have h2 : (2 : Int) ^ (C i).toNat = (q : Int) := by rw [← hq]; simp
  rw [hq] at h1
  rw [h2, IntWalk.wrap64_in _ ⟨by omega, by omega⟩, i64_or_nat (by omega) (by omega), ← hq]
  rfl

set_option maxHeartbeats 2000000 in
theorem yop_s_no (A : Option Addr) (m c : Nat) (Y : Nat → Int) (a : Int) (A2 : Option Addr) (n c2 : Nat) (C : Nat → Int) (years code : Int) (w : World) (hm : m ≤ maxLen) (hn : n ≤ maxLen) (h : Sl w A m 1 Y) (h2 : Sl w A2 n 1 C)
    (hv : bedB m Y a = false ∧ code = 1 ∨ bedB m Y a = true ∧ planB n C years = false ∧ code = 2) :
    Calls Try.prog 65 #[.agg #[.slice A m c, .int .i64 a], .slice A2 n c2, .int .i64 years] w fun e w' => e = .returned (.tuple #[.int .i64 0, .int .i64 code]) ∧ Below w.heap.size w w' := by
  have HN := Lib.hid (bedAt_new (c := c) (a := a) 65 h)
  have H2 := Lib.hid (Sl.below h2 (w' := w.alloc (Obj.cells #[.slice A m c, .int .i64 a] 65)) (K := w.heap.size) (by go_grown) (Nat.le_refl _))
  clear h h2
  rcases hv with ⟨hv, rfl⟩ | ⟨hv, hp, rfl⟩
  · go_enter Try.func65, Try.ntmps65
    go_wp2_with fail
    refine (bedOne_s _ _ m Y a _ hm HN.out).mono ?_
    rintro e w' ⟨rfl, k, rfl⟩
    rw [hv]
    go_wp2
    go_ret2
    exact ⟨rfl, drewN_below (by go_grown) _⟩
  · unfold planB at hp
    cases hy : inB years 1 12
    · go_enter Try.func65, Try.ntmps65
      go_wp2_with fail
      refine (bedOne_s _ _ m Y a _ hm HN.out).mono ?_
      rintro e w' ⟨rfl, k, rfl⟩
      rw [hv]
      go_wp2_with (go_at_call 96; refine (years_s _ _).mono ?_; rintro e w' ⟨rfl, rfl⟩)
      go_ret2
      exact ⟨rfl, drewN_below (by go_grown) _⟩
    · rw [hy, Bool.true_and] at hp
      obtain ⟨y1, y2⟩ := inB_of hy
      go_enter Try.func65, Try.ntmps65
      go_wp2_with fail
      refine (bedOne_s _ _ m Y a _ hm HN.out).mono ?_
      rintro e w' ⟨rfl, k, rfl⟩
      rw [hv]
      go_wp2_with (first | (go_at_call 96; refine (years_s _ _).mono ?_; rintro e w' ⟨rfl, rfl⟩) | (go_at_call 105; refine (risesL_s A2 n c2 C _ _ _ hn (Drew.sl ⟨k, rfl⟩ H2.out)).mono ?_; rintro e w' ⟨rfl, k2, rfl⟩))
      go_ret2
      exact ⟨rfl, drewN_below (by go_grown) _⟩

set_option maxHeartbeats 2000000 in
theorem yop_s (A : Option Addr) (m c : Nat) (Y : Nat → Int) (a : Int) (A2 : Option Addr) (n c2 : Nat) (C : Nat → Int) (years : Nat) (w : World) (hm : m ≤ maxLen) (hn : n ≤ maxLen) (h : Sl w A m 1 Y) (h2 : Sl w A2 n 1 C)
    (hv : bedB m Y a = true) (hp : planB n C years = true) :
    Calls Try.prog 65 #[.agg #[.slice A m c, .int .i64 a], .slice A2 n c2, .int .i64 years] w fun e w' => e = .returned (.tuple #[.int .i64 (pls m Y a (orC C n) years).1, .int .i64 0]) ∧ Below w.heap.size w w' := by
  have HN := Lib.hid (bedAt_new (c := c) (a := a) 65 h)
  have H2 := Lib.hid (Sl.below h2 (w' := w.alloc (Obj.cells #[.slice A m c, .int .i64 a] 65)) (K := w.heap.size) (by go_grown) (Nat.le_refl _))
  clear h h2
  obtain ⟨⟨y1, y2⟩, hr⟩ := planB_of hp
  have hy := inB_yes y1 y2
  have HR := Lib.hid hr
  clear hr hp
  have HV := Lib.hid hv
  have HC := Lib.hid (show ∀ i, i ≤ n → orC C i < 2 ^ 12 from fun i hi => orC_lt fun j hj => by have := risL_in (i := j) (by omega) HR.out; omega)
  go_enter Try.func65, Try.ntmps65
  go_wp2_with fail
  refine (bedOne_s _ _ m Y a _ hm HN.out).mono ?_
  rintro e w' ⟨rfl, k, rfl⟩
  rw [HV.out]
  go_wp2_with (first | (go_at_call 96; refine (years_s _ _).mono ?_; rintro e w' ⟨rfl, rfl⟩) | (go_at_call 105; refine (risesL_s A2 n c2 C _ _ _ hn (Drew.sl ⟨k, rfl⟩ H2.out)).mono ?_; rintro e w' ⟨rfl, k2, rfl⟩; rw [HR.out]))
  clear hv
  go_loopw [8, 9] (fun s t wr => ∃ i : Nat, i ≤ n ∧ s = .int .i64 (orC C i : Nat) ∧ t = .int .i64 i ∧ Drew (w.alloc (Obj.cells #[.slice A m c, .int .i64 a] 65)) wr) (fun _ t _ => n - (intOf t).toNat)
  case atStart => exact ⟨0, by omega, rfl, rfl, ⟨_, rfl⟩⟩
  case round =>
    unfold maxLen at hn
    obtain ⟨i, hi, rfl, rfl, hd⟩ := hrel
    have HD := Lib.hid hd
    by_cases hlt : i < n
    · have hlt' : (i : Int) < (n : Int) := by omega
      obtain ⟨b2, o2, rfl, hb2, hX⟩ := (hd.sl H2.out) (by omega)
      have h0 := hX i (by omega)
      obtain ⟨e1, e2⟩ := risL_in hlt HR.out
      have e3 : C i ≤ 11 := by omega
      clear hX hd
      have HE := Lib.hid (or_step (C := C) (i := i) (HC.out i hi) (by omega))
      go_wp2_with fail
      go_roundw
      case rel => exact ⟨i + 1, by omega, HE.out, by go_num, HD.out⟩
      case measure => simp [intOf]; omega
    · obtain rfl : i = n := by omega
      clear hd
      go_wp2_with fail
      refine (plan_s _ _ m Y a (orC C i) years _ (HC.out i (by omega)) (by omega) HV.out (HN.out.drew HD.out)).mono ?_
      rintro e w' ⟨rfl, k3, rfl⟩
      go_wp2
      go_ret2
      obtain ⟨k4, e4⟩ := HD.out
      exact ⟨rfl, by rw [e4]; exact drewN_below (drewN_below (by go_grown) _) _⟩

set_option maxHeartbeats 2000000 in
theorem yop_i_no (A : Option Addr) (m c : Nat) (Y : Nat → Int) (a : Int) (A2 : Option Addr) (n c2 : Nat) (C : Nat → Int) (years code : Int) (w : World) (hm : m ≤ maxLen) (hn : n ≤ maxLen) (h : Sl w A m 1 Y) (h2 : Sl w A2 n 1 C)
    (hv : bedB m Y a = false ∧ code = 1 ∨ bedB m Y a = true ∧ planB n C years = false ∧ code = 2) :
    Calls Try.prog 64 #[.agg #[.slice A m c, .int .i64 a], .slice A2 n c2, .int .i64 years] w fun e w' => e = .returned (.tuple #[.int .i64 0, .int .i64 code]) ∧ Below w.heap.size w w' := by
  rcases hv with ⟨hv, rfl⟩ | ⟨hv, hp, rfl⟩
  · go_enter Try.func64, Try.ntmps64
    go_wp2_with fail
    refine (bedOne_i A m c Y a _ hm (Sl.below h (K := w.heap.size) (by go_grown) (Nat.le_refl _))).mono ?_
    rintro e w1 ⟨rfl, hb1⟩
    rw [hv]
    have g1 : Below w.heap.size w w1 := Below.trans (by go_grown) (hb1.mono (by simp))
    clear hb1
    go_wp2
    go_ret2
    exact ⟨rfl, g1⟩
  · unfold planB at hp
    cases hy : inB years 1 12
    · go_enter Try.func64, Try.ntmps64
      go_wp2_with fail
      refine (bedOne_i A m c Y a _ hm (Sl.below h (K := w.heap.size) (by go_grown) (Nat.le_refl _))).mono ?_
      rintro e w1 ⟨rfl, hb1⟩
      rw [hv]
      have g1 : Below w.heap.size w w1 := Below.trans (by go_grown) (hb1.mono (by simp))
      clear hb1
      go_wp2_with (go_at_call 88; refine (in_i _ _ _ _).mono ?_; rintro e w' ⟨rfl, rfl⟩)
      go_ret2
      exact ⟨rfl, g1⟩
    · rw [hy, Bool.true_and] at hp
      obtain ⟨y1, y2⟩ := inB_of hy
      have HP := Lib.hid hp
      have H2 := Lib.hid h2
      clear hp h2
      go_enter Try.func64, Try.ntmps64
      go_wp2_with fail
      refine (bedOne_i A m c Y a _ hm (Sl.below h (K := w.heap.size) (by go_grown) (Nat.le_refl _))).mono ?_
      rintro e w1 ⟨rfl, hb1⟩
      rw [hv]
      have g1 : Below w.heap.size w w1 := Below.trans (by go_grown) (hb1.mono (by simp))
      clear hb1
      go_wp2_with (first | (go_at_call 88; refine (in_i _ _ _ _).mono ?_; rintro e w' ⟨rfl, rfl⟩) | (go_at_call 107; refine (incr_i A2 n c2 C 0 (years - 1) _ hn (by omega) (by omega) (by omega) (Sl.below H2.out g1 (Nat.le_refl _))).mono ?_; rintro e w' ⟨rfl, rfl⟩; rw [HP.out]))
      go_ret2
      exact ⟨rfl, g1⟩

set_option maxHeartbeats 2000000 in
theorem yop_i (A : Option Addr) (m c : Nat) (Y : Nat → Int) (a : Int) (A2 : Option Addr) (n c2 : Nat) (C : Nat → Int) (years : Nat) (w : World) (hm : m ≤ maxLen) (hn : n ≤ maxLen) (h : Sl w A m 1 Y) (h2 : Sl w A2 n 1 C)
    (hv : bedB m Y a = true) (hp : planB n C years = true) :
    Calls Try.prog 64 #[.agg #[.slice A m c, .int .i64 a], .slice A2 n c2, .int .i64 years] w fun e w' => e = .returned (.tuple #[.int .i64 (pls m Y a (orC C n) years).1, .int .i64 0]) ∧ Below w.heap.size w w' := by
  obtain ⟨⟨y1, y2⟩, hr⟩ := planB_of hp
  have hy := inB_yes y1 y2
  obtain ⟨⟨m1, m5⟩, m2, hYY⟩ := bedB_of hv
  have hx := pls_isum (m := m) (Y := Y) m2.1 hr years n (Nat.le_refl _) (fun j hj => by have := risL_in hj hr; omega) (fun j hj hjn => absurd hjn (by omega))
  have n12 : n ≤ 12 := by
    rcases Nat.lt_or_ge 12 n with h | h
    · exfalso
      have key : ∀ j, j < n → (j : Int) ≤ C j := by
        intro j
        induction j with
        | zero => intro hj; have := risL_in hj hr; omega
        | succ j ih => intro hj; have := risL_up hj hr; have := ih (by omega); omega
      have h1 := key 12 h
      have h2 := risL_in h hr
      omega
    · exact h
  rw [hx]
  have HY := Lib.hid hYY
  have HV := Lib.hid hv
  have HR := Lib.hid hr
  have H1 := Lib.hid h
  have H2 := Lib.hid h2
  clear hx hYY hv hr hp h h2
  go_enter Try.func64, Try.ntmps64
  go_wp2_with fail
  refine (bedOne_i A m c Y a _ hm (Sl.below H1.out (K := w.heap.size) (by go_grown) (Nat.le_refl _))).mono ?_
  rintro e w1 ⟨rfl, hb1⟩
  rw [HV.out]
  have z1 := hb1.size
  simp at z1
  have g1 : Below w.heap.size w w1 := Below.trans (by go_grown) (hb1.mono (by simp))
  have c0 : w1.cell? ⟨w.heap.size, 0, none⟩ = some (.slice A m c) := by rw [(bcell hb1).1 _ _ (by simp)]; go_simp
  have c1 : w1.cell? ⟨w.heap.size, 1, none⟩ = some (.int .i64 a) := by rw [(bcell hb1).1 _ _ (by simp)]; go_simp
  clear hb1
  go_wp2_with (first | (go_at_call 88; refine (in_i _ _ _ _).mono ?_; rintro e w' ⟨rfl, rfl⟩) | (go_at_call 107; refine (incr_i A2 n c2 C 0 (years - 1) _ hn (by omega) (by omega) (by omega) (Sl.below H2.out g1 (Nat.le_refl _))).mono ?_; rintro e w' ⟨rfl, rfl⟩; rw [HR.out]))
  clear hy
  go_loopw [8, 9, 30] (fun s t u wr => ∃ i : Nat, i ≤ n ∧ s = .int .i64 (isum m Y a C i) ∧ t = .int .i64 (lst a C i) ∧ u = .int .i64 i ∧ Below w1.heap.size w1 wr) (fun _ _ u _ => n - (intOf u).toNat)
  case atStart => exact ⟨0, by omega, rfl, rfl, rfl, Below.refl _ _⟩
  case round =>
    unfold maxLen at hn
    obtain ⟨i, hi, rfl, rfl, rfl, hbl⟩ := hrel
    have hzz := hbl.size
    have hbs := isum_bd m1 HY.out m2.1 HR.out i hi
    by_cases hlt : i < n
    · have hlt' : (i : Int) < (n : Int) := by omega
      have gr : Below w.heap.size w wr := g1.trans (hbl.mono (by omega))
      obtain ⟨b2, o2, rfl, hb2, hX⟩ := (Sl.below H2.out gr (Nat.le_refl _)) (by omega)
      have h0 := hX i (by omega)
      obtain ⟨l0, l1, l2, l3⟩ := lst_bd HR.out m2.1 hlt
      have q0 := (hbl.cell (p := ⟨w.heap.size, 0, none⟩) z1).trans c0
      have q1 := (hbl.cell (p := ⟨w.heap.size, 1, none⟩) z1).trans c1
      have HS := Lib.hid (Sl.below H1.out gr (Nat.le_refl _))
      have HI := Lib.hid (show isum m Y a C (i + 1) = isum m Y a C i + yl m Y (C i - lst a C i) from rfl)
      have HL := Lib.hid (show lst a C (i + 1) = C i from rfl)
      have hyb := yl_bd (t := C i - lst a C i) m1 HY.out l0
      have HB := Lib.hid hbl
      clear hX c0 c1 hbl
      generalize isum m Y a C i = S at *
      generalize lst a C i = T at *
      generalize C i = X at *
      go_wp2_with fail
      refine (yield_i A m c Y a (X - T) _ m1 m5 l0 HS.out).mono ?_
      rintro e w2 ⟨rfl, hb3⟩
      have g2 : Below w1.heap.size w1 w2 := HB.out.trans (hb3.mono (by omega))
      clear hb3 q0 q1 h0
      go_wp2
      go_roundw
      case rel => exact ⟨i + 1, by omega, by rw [HI.out], by rw [HL.out], by go_num, g2⟩
      case measure => simp [intOf]; omega
    · obtain rfl : i = n := by omega
      have HB := Lib.hid hbl
      clear hbl
      go_wp2
      go_ret2
      exact ⟨rfl, g1.trans (HB.out.mono (by omega))⟩

end Go.Proofs.Ytcpaenmhnoagdab.rod
