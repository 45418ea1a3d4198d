/-
  Contracts of AfterYear, of the model and of the program.
-/
import Derived.Test.YtcpaenmhnoagdacAfterS
namespace Go.Proofs.Ytcpaenmhnoagdac.rod
open Go.ChangeShapes Go.WideShapes Go.ChangeAt Go.RowKit Go.Proofs.Ytcpaenmhnoagdac.mem Go.Proofs.Ytcpaenmhnoagdac.nums
set_option linter.unusedVariables false

/-- the answer is a new slice of n beds, and a code -/
def BedsCode (w : World) (n : Nat) (M : Nat → Nat) (Y : Nat → Nat → Int) (G : Nat → Int) (code : Int) (e : Ending) (w' : World) : Prop :=
  ∃ A c, e = .returned (.tuple #[.slice A n c, .int .i64 code]) ∧ n ≤ c ∧ c ≤ maxLen ∧ RowBs w' w.heap.size w'.heap.size A n M Y G ∧ Below w.heap.size w w'
/-- what is wrong with the arguments -/
def AfterNo (n : Nat) (M : Nat → Nat) (Y : Nat → Nat → Int) (G : Nat → Int) (k : Nat) (C : Nat → Int) (code : Int) : Prop :=
  bedsB n M Y G = false ∧ code = 1 ∨ bedsB n M Y G = true ∧ risL 0 ((n : Int) - 1) C k = false ∧ code = 2
theorem hasC_bits {C : Nat → Int} {k j : Nat} {hi : Int} (h : risL 0 hi C k = true) : hasC C j k = (orC C k).testBit j := by
  cases e : (orC C k).testBit j
  · cases e2 : hasC C j k
    · rfl
    · exfalso
      have : ∃ i, i < k ∧ C i = j := by
        clear e h
        induction k with
        | zero => simp [hasC] at e2
        | succ k ih =>
          simp only [hasC, Bool.or_eq_true, decide_eq_true_eq] at e2
          rcases e2 with e2 | e2
          · obtain ⟨i, hi, e⟩ := ih e2; exact ⟨i, by omega, e⟩
          · exact ⟨k, by omega, e2⟩
      obtain ⟨i, hi, e3⟩ := this
      have : (orC C k).testBit j = true := orC_bit.2 ⟨i, hi, by omega⟩
      rw [e] at this
      cases this
  · obtain ⟨i, hi, e3⟩ := orC_bit.1 e
    have := risL_in hi h
    exact hasC_yes hi (by omega)

set_option maxHeartbeats 2000000 in
theorem afterYear_s_no (A : Option Addr) (n c : Nat) (M : Nat → Nat) (Y : Nat → Nat → Int) (G : Nat → Int) (A2 : Option Addr) (k c2 : Nat) (C : Nat → Int) (code : Int) (w : World) (hn : n ≤ maxLen) (hM : ∀ j, j < n → M j ≤ maxLen) (hk : k ≤ maxLen) (hs : Beds w A n M Y G) (h2 : Sl w A2 k 1 C) (hv : AfterNo n M Y G k C code) :
    Calls Try.prog 19 #[.slice A n c, .slice A2 k c2] w (BedsCode w 0 M Y G code) := by
  have hn' := hn
  unfold maxLen at hn'
  have HS := Lib.hid hs
  have HM := Lib.hid hM
  have H2 := Lib.hid h2
  clear hs hM h2
  rcases hv with ⟨hv, rfl⟩ | ⟨hv, hr, rfl⟩
  · go_enter Try.func19, Try.ntmps19
    go_wp2_with fail
    refine (bedsOk_s A n c M Y G _ hn HM.out HS.out).mono ?_
    rintro e w' ⟨rfl, m, rfl⟩
    rw [hv]
    go_wp2
    go_ret2
    exact ⟨none, 0, rfl, Nat.le_refl _, by unfold maxLen; omega, fun h => absurd h (by omega), drewN_below (Below.refl _ _) _⟩
  · go_enter Try.func19, Try.ntmps19
    go_wp2_with fail
    refine (bedsOk_s A n c M Y G _ hn HM.out HS.out).mono ?_
    rintro e w' ⟨rfl, m, rfl⟩
    rw [hv]
    go_wp2_with (go_at_call 66; refine (risesL_s A2 k c2 C _ _ _ hk (Drew.sl ⟨m, rfl⟩ H2.out)).mono ?_; rintro e w' ⟨rfl, k2, rfl⟩; rw [hr])
    go_ret2
    exact ⟨none, 0, rfl, Nat.le_refl _, by unfold maxLen; omega, fun h => absurd h (by omega), drewN_below (Below.refl _ _) _⟩

set_option maxHeartbeats 2000000 in
theorem afterYear_s (A : Option Addr) (n c : Nat) (M : Nat → Nat) (Y : Nat → Nat → Int) (G : Nat → Int) (A2 : Option Addr) (k c2 : Nat) (C : Nat → Int) (w : World) (hk : k ≤ maxLen) (hs : Beds w A n M Y G) (h2 : Sl w A2 k 1 C) (hv : bedsB n M Y G = true) (hr : risL 0 ((n : Int) - 1) C k = true) :
    Calls Try.prog 19 #[.slice A n c, .slice A2 k c2] w (BedsCode w n M Y (later M G fun j => hasC C j k) 0) := by
  obtain ⟨n8, hall⟩ := bedsB_of hv
  have hM : ∀ j, j < n → M j ≤ maxLen := fun j hj => by have := (bedB_of (hall j hj)).1; unfold maxLen; omega
  have HS := Lib.hid hs
  have HM := Lib.hid hM
  have H2 := Lib.hid h2
  have HR := Lib.hid hr
  have HV := Lib.hid hv
  clear hs hM h2 hr hv hall
  go_enter Try.func19, Try.ntmps19
  go_wp2_with fail
  refine (bedsOk_s A n c M Y G _ (by unfold maxLen; omega) HM.out HS.out).mono ?_
  rintro e w' ⟨rfl, m, rfl⟩
  rw [HV.out]
  go_wp2_with (go_at_call 66; refine (risesL_s A2 k c2 C _ _ _ hk (Drew.sl ⟨m, rfl⟩ H2.out)).mono ?_; rintro e w' ⟨rfl, k2, rfl⟩; rw [HR.out])
  refine (after_s A n c M Y G A2 k c2 C _ HV.out hk (HS.out.drew ⟨_, rfl⟩) (Drew.sl ⟨_, rfl⟩ H2.out)).mono ?_
  rintro e w3 ⟨A3, c3, rfl, k3, m3, hr3, hb3⟩
  have HR3 := Lib.hid hr3
  have HB3 := Lib.hid hb3
  clear hr3 hb3
  go_wp2
  go_ret2
  exact ⟨A3, c3, rfl, k3, m3, HR3.out.wide (by simp) (Nat.le_refl _), (drewN_below (Below.refl _ _) (m + k2)).trans (HB3.out.mono (by simp))⟩

set_option maxHeartbeats 2000000 in
theorem afterYear_i_no (A : Option Addr) (n c : Nat) (M : Nat → Nat) (Y : Nat → Nat → Int) (G : Nat → Int) (A2 : Option Addr) (k c2 : Nat) (C : Nat → Int) (code : Int) (w : World) (hn : n ≤ maxLen) (hM : ∀ j, j < n → M j ≤ maxLen) (hk : k ≤ maxLen) (hs : Beds w A n M Y G) (h2 : Sl w A2 k 1 C) (hv : AfterNo n M Y G k C code) :
    Calls Try.prog 18 #[.slice A n c, .slice A2 k c2] w (BedsCode w 0 M Y G code) := by
  have hn' := hn
  unfold maxLen at hn'
  have HS := Lib.hid hs
  have HM := Lib.hid hM
  have H2 := Lib.hid h2
  clear hs hM h2
  rcases hv with ⟨hv, rfl⟩ | ⟨hv, hr, rfl⟩
  · go_enter Try.func18, Try.ntmps18
    go_wp2_with fail
    refine (validBeds_i A n c M Y G _ hn HM.out HS.out).mono ?_
    rintro e w' ⟨rfl, hb⟩
    rw [hv]
    go_wp2
    go_ret2
    exact ⟨none, 0, rfl, Nat.le_refl _, by unfold maxLen; omega, fun h => absurd h (by omega), hb⟩
  · have n8 := (bedsB_of hv).1
    go_enter Try.func18, Try.ntmps18
    go_wp2_with fail
    refine (validBeds_i A n c M Y G _ hn HM.out HS.out).mono ?_
    rintro e w' ⟨rfl, hb⟩
    have HB := Lib.hid hb
    rw [hv]
    clear hb
    go_wp2_with (go_at_call 61; refine (incr_i A2 k c2 C 0 ((n : Int) - 1) _ hk (by omega) (by omega) (by omega) (H2.out.below HB.out (Nat.le_refl _))).mono ?_; rintro e w' ⟨rfl, rfl⟩; rw [hr])
    go_ret2
    exact ⟨none, 0, rfl, Nat.le_refl _, by unfold maxLen; omega, fun h => absurd h (by omega), HB.out⟩

set_option maxHeartbeats 4000000 in
theorem afterYear_i (A : Option Addr) (n c : Nat) (M : Nat → Nat) (Y : Nat → Nat → Int) (G : Nat → Int) (A2 : Option Addr) (k c2 : Nat) (C : Nat → Int) (w : World) (hk : k ≤ maxLen) (hs : Beds w A n M Y G) (h2 : Sl w A2 k 1 C) (hv : bedsB n M Y G = true) (hr : risL 0 ((n : Int) - 1) C k = true) :
    Calls Try.prog 18 #[.slice A n c, .slice A2 k c2] w (BedsCode w n M Y (later M G fun j => hasC C j k) 0) := by
  obtain ⟨n8, hall⟩ := bedsB_of hv
  have hM : ∀ j, j < n → M j ≤ maxLen := fun j hj => by have := (bedB_of (hall j hj)).1; unfold maxLen; omega
  have he : (fun j : Nat => hasC C j k) = (fun j : Nat => (orC C k).testBit j) := funext fun j => hasC_bits hr
  rw [he]
  have hC16 : ∀ i, i < k → 0 ≤ C i ∧ C i < 32 := fun i hi => by have := risL_in hi hr; omega
  have hB16 : orC C k < 2 ^ 32 := orC_lt fun j hj => by have := hC16 j hj; omega
  have HS := Lib.hid hs
  have HM := Lib.hid hM
  have H2 := Lib.hid h2
  have HR := Lib.hid hr
  have HV := Lib.hid hv
  have HA := Lib.hid hall
  have HC := Lib.hid hC16
  generalize hD : later M G (fun j => (orC C k).testBit j) = D
  have HD := Lib.hid hD
  clear hs hM h2 hr hv hall he hC16 hD
  go_enter Try.func18, Try.ntmps18
  go_wp2_with fail
  refine (validBeds_i A n c M Y G _ (by unfold maxLen; omega) HM.out HS.out).mono ?_
  rintro e w1 ⟨rfl, hb1⟩
  have HB1 := Lib.hid hb1
  have z1 := hb1.size
  rw [HV.out]
  clear hb1
  go_wp2_with (first
    | (go_at_call 61; refine (incr_i A2 k c2 C 0 ((n : Int) - 1) _ hk (by omega) (by omega) (by omega) (H2.out.below HB1.out (Nat.le_refl _))).mono ?_; rintro e w' ⟨rfl, rfl⟩; rw [HR.out])
    | (go_at_call 63; refine (picksOf_i A2 k c2 C _ hk HC.out (H2.out.below HB1.out (Nat.le_refl _))).mono ?_; rintro e w' ⟨rfl, rfl⟩))
  refine (aged_i A n c M Y G (orC C k) _ hB16 HV.out (HS.out.below HB1.out)).mono ?_
  rintro e w2 ⟨A3, c3, P0, C0, rfl, k3, m3, hf, hsl, hb2⟩
  rw [HD.out] at hf
  have hz2 := hb2.size
  have hb2' : Below w.heap.size w w2 := HB1.out.trans (hb2.mono (by omega))
  have HF := Lib.hid hf
  have HL := Lib.hid hsl
  have HB2 := Lib.hid hb2'
  have HB2b := Lib.hid hb2
  clear hf hsl hb2 hb2'
  go_wp2_with fail
  go_loopw [24] (fun s wr => ∃ (i : Nat) (P : Nat → Option Addr) (Cc : Nat → Nat), i ≤ n ∧ s = .int .i64 i ∧ (0 < n → ∃ g, A3 = some ⟨g, 0, none⟩ ∧ w1.heap.size ≤ g ∧ g < w2.heap.size ∧ OwnV wr g 26 (n * 2) (fun j => if j < i * 2 then bedV P M Cc D j else bedV P0 M C0 D j)) ∧ (∀ j, j < i → Row wr w.heap.size wr.heap.size (P j) (M j) 1 2 (Y j)) ∧ Dis i M P ∧ Below w.heap.size w wr ∧ w2.heap.size ≤ wr.heap.size ∧ Below w1.heap.size w1 wr) (fun s _ => n - (intOf s).toNat)
  case atStart => exact ⟨0, fun _ => none, fun _ => 0, by omega, rfl, fun h => by obtain ⟨g, e, a, b, ho⟩ := HF.out h; exact ⟨g, e, a, b, ho.congr fun j _ => by simp⟩, fun j hj => absurd hj (by omega), fun i j _ hj => absurd hj (by omega), HB2.out, Nat.le_refl _, HB2b.out⟩
  case round =>
    obtain ⟨i, P, Cc, hi, rfl, hown, hrows, hdis, hbl, hsz, hsl⟩ := hrel
    have hzz := hbl.size
    have HO := Lib.hid hown
    have HRows := Lib.hid hrows
    have HDis := Lib.hid hdis
    have HBL := Lib.hid hbl
    have HSL := Lib.hid hsl
    clear hown hrows hdis hbl hsl
    by_cases hlt : i < n
    · have hlt' : (i : Int) < (n : Int) := by omega
      obtain ⟨g, rfl, g1, g2, ho⟩ := HO.out (by omega)
      obtain ⟨m1, m2, -⟩ := bedB_of (HA.out i hlt)
      obtain ⟨b2, o2, e2, hb2, hI⟩ := ((HL.out i hlt).below HSL.out (Nat.le_refl _)) (by omega)
      have d0 := ho.cell (j := i * 2) (by omega)
      have d1 := ho.cell (j := i * 2 + 1) (by omega)
      rw [if_neg (by omega)] at d0 d1
      rw [bedV_0, e2] at d0
      rw [bedV_1] at d1
      have HO2 := Lib.hid ho
      have HI := Lib.hid hI
      have hgl := ho.lt
      clear ho hI e2
      go_wp2_with fail
      refine (clone_i b2 o2 (M i) (C0 i) (Y i) _ (by omega) (by simp; omega) (HI.out.below (K := wr.heap.size) (by go_grown) hb2)).mono ?_
      rintro e w4 ⟨A4, c4, rfl, k4, m4, hr4, hb4⟩
      have hz4 := hb4.size
      simp at hz4
      have g4 : Below wr.heap.size wr w4 := Below.trans (by go_grown) (hb4.mono (by simp))
      have o4 := HO2.out.below g4 hgl
      have e0 := o4.cell (j := i * 2) (by omega)
      have f0 := o4.frozen (i * 2)
      rw [if_neg (by omega), bedV_0] at e0
      have HO4 := Lib.hid o4
      have HR4 := Lib.hid hr4
      have HG4 := Lib.hid g4
      clear hb4 hr4 o4 g4 d0 d1
      go_wp2
      go_roundw
      case rel =>
        refine ⟨i + 1, fun j => if j = i then A4 else P j, fun j => if j = i then c4 else Cc j, by omega, by go_num, fun _ => ⟨g, rfl, g1, g2, (HO4.out.set (i * 2) (.slice A4 (M i) c4)).congr ?_⟩, ?_, HDis.out.of_old HRows.out (HR4.out.wide (by simp) (Nat.le_refl _)), ?_, ?_, ?_⟩
        · intro j hj
          by_cases e0 : j = i * 2
          · subst e0; rw [if_pos rfl, if_pos (by omega), bedV_0]; simp
          rw [if_neg e0]
          by_cases e1 : j = i * 2 + 1
          · subst e1; rw [if_neg (by omega), if_pos (by omega), bedV_1, bedV_1]
          by_cases e3 : j < i * 2
          · rw [if_pos e3, if_pos (by omega)]
            exact bedV_upd e3
          · rw [if_neg e3, if_neg (by omega)]
        · intro j hj
          refine Row.wide (hi := w4.heap.size) ?_ (Nat.le_refl _) (by simp)
          show Row _ _ _ (if j = i then A4 else P j) _ _ _ _
          by_cases e : j = i
          · subst e
            rw [if_pos rfl]
            exact row_setBed (HR4.out.wide (by simp; omega) (Nat.le_refl _)) HO4.out
          · rw [if_neg e]
            exact row_setBed (((HRows.out j (by omega)).below HG4.out (Nat.le_refl _)).wide (Nat.le_refl _) (by omega)) HO4.out
        · exact Below.setCell (HBL.out.trans (HG4.out.mono hzz)) (show w.heap.size ≤ g by omega) _
        · simp; omega
        · exact Below.setCell (HSL.out.trans (HG4.out.mono (by omega))) (show w1.heap.size ≤ g by omega) _
      case measure => simp [intOf]; omega
    · obtain rfl : i = n := by omega
      go_wp2
      go_ret2
      exact ⟨A3, c3, rfl, k3, m3, fun h => by obtain ⟨g, e, a, b, ho⟩ := HO.out h; exact ⟨g, P, Cc, e, by omega, by omega, ho.congr fun j hj => by rw [if_pos hj], HRows.out, HDis.out⟩, HBL.out⟩

end Go.Proofs.Ytcpaenmhnoagdac.rod
