/-
  Contracts of the search for a steady need, of the model's and of the program's.
-/
import Derived.Test.YtcpaenmhnoagdacSteady
namespace Go.Proofs.Ytcpaenmhnoagdac.rod
open Go.ChangeShapes Go.WideShapes Go.ChangeAt Go.RowKit Go.Proofs.Ytcpaenmhnoagdac.mem Go.Proofs.Ytcpaenmhnoagdac.nums
set_option linter.unusedVariables false

theorem meets_no {n y : Nat} {M : Nat → Nat} {Y : Nat → Nat → Int} {G : Nat → Int} {d : Int} (h : ∀ b, b < 2 ^ n → ¬ (d ≤ ysum M Y G b n ∧ meets n M Y y (aft M G b) d = true)) : meets n M Y (y + 1) G d = false := by
  unfold meets
  exact decide_eq_false fun ⟨b, hb, h1, h2⟩ => h b hb ⟨h1, h2⟩
theorem meets_yes {n y b : Nat} {M : Nat → Nat} {Y : Nat → Nat → Int} {G : Nat → Int} {d : Int} (hb : b < 2 ^ n) (h1 : d ≤ ysum M Y G b n) (h2 : meets n M Y y (aft M G b) d = true) : meets n M Y (y + 1) G d = true := by
  unfold meets
  exact decide_eq_true ⟨b, hb, h1, h2⟩
/-- none of the first k cuts meets a need -/
def NoMeet (n : Nat) (M : Nat → Nat) (Y : Nat → Nat → Int) (G : Nat → Int) (d : Int) (y k : Nat) : Prop := ∀ b, b < k → ¬ (d ≤ ysum M Y G b n ∧ meets n M Y y (aft M G b) d = true)
theorem noMeet_succ {n : Nat} {M : Nat → Nat} {Y : Nat → Nat → Int} {G : Nat → Int} {d : Int} {y k : Nat} (h : NoMeet n M Y G d y k) (h2 : ¬ d ≤ ysum M Y G k n ∨ meets n M Y y (aft M G k) d = false) : NoMeet n M Y G d y (k + 1) := fun b hb hc => by
  by_cases e : b = k
  · subst e
    rcases h2 with h2 | h2
    · exact h2 hc.1
    · rw [h2] at hc; exact absurd hc.2 (by decide)
  · exact h b (by omega) hc
theorem pow_le4 {n : Nat} (h : n ≤ 4) : 2 ^ n ≤ 16 := Nat.pow_le_pow_right (by decide) h

set_option maxHeartbeats 4000000 in
theorem meets_s (n : Nat) (M : Nat → Nat) (Y : Nat → Nat → Int) (d : Int) (hn : n ≤ 4) : ∀ (y : Nat), y ≤ 3 → ∀ (A : Option Addr) (c : Nat) (G : Nat → Int) (Z : Int) (w : World), Z = y → bedsB n M Y G = true → Beds w A n M Y G →
    Calls Try.prog 74 #[.slice A n c, .int .i64 Z, .int .i64 d] w fun e w' => e = .returned (.bool (meets n M Y y G d)) ∧ Below w.heap.size w w' := by
  intro y
  induction y with
  | zero =>
    intro _ A c G Z w hZ _ _
    obtain rfl : Z = 0 := hZ
    go_enter Try.func74, Try.ntmps74
    go_wp2_with fail
    go_ret
    exact ⟨rfl, Below.refl _ _⟩
  | succ y ih =>
    intro hy A c G Z w hZ hv hs
    have IH := Lib.hid ih
    have z1 : 1 ≤ Z := by omega
    have z3 : Z ≤ 3 := by omega
    have HZ := Lib.hid (show Z - 1 = (y : Int) by omega)
    have e0 : (Z == 0) = false := by simp; omega
    clear hZ
    have HS := Lib.hid hs
    have HV := Lib.hid hv
    obtain ⟨q, hq⟩ : ∃ q : Nat, 2 ^ n = q := ⟨_, rfl⟩
    have hq16 : q ≤ 16 := by rw [← hq]; exact pow_le4 hn
    have hw : wrap64 (2 ^ n) = (q : Int) := by
      have : (2 : Int) ^ n = (q : Int) := by rw [← hq]; simp
      rw [this]
      exact IntWalk.wrap64_in _ ⟨by omega, by omega⟩
    have hM : ∀ j, j < n → M j ≤ maxLen := fun j hj => by have := (bedB_of ((bedsB_of hv).2 j hj)).1; unfold maxLen; omega
    have hM2 : ∀ j, j < n → M j ≤ 1048576 := fun j hj => by have := (bedB_of ((bedsB_of hv).2 j hj)).1; omega
    have HQ := Lib.hid hq
    have HW := Lib.hid hw
    have hn63 : (n : Int) < 64 := by omega
    clear ih hs hv hq hM hM2
    go_enter Try.func74, Try.ntmps74
    go_wp2_with fail
    go_loopw [7] (fun s wr => ∃ b : Nat, b ≤ q ∧ s = .int .i64 b ∧ Hid (NoMeet n M Y G d y b) ∧ Below w.heap.size w wr) (fun s _ => q - (intOf s).toNat)
    case atStart => exact ⟨0, by omega, rfl, fun b hb => absurd hb (by omega), Below.refl _ _⟩
    case round =>
      obtain ⟨b, hb, rfl, HA, hbl⟩ := hrel
      have hzz := hbl.size
      have HBL := Lib.hid hbl
      clear hbl
      by_cases hlt : b < q
      · have hlt' : (b : Int) < (q : Int) := by omega
        by_cases hd : d ≤ ysum M Y G b n
        · have HD := Lib.hid hd
          have hbq : b < 2 ^ n := by have := HQ.out; omega
          go_wp2_with fail
          refine (sum_s A n c M Y G b _ (by omega) HV.out (HS.out.below HBL.out)).mono ?_
          rintro e w2 ⟨rfl, m2, rfl⟩
          go_wp2_with fail
          refine (list_s b n _ (by omega) (by omega)).mono ?_
          rintro e w3 ⟨A3, c3, rfl, k3, m3, hr3, hb3⟩
          have g3 : Below w.heap.size w w3 := (drewN_below HBL.out m2).trans (hb3.mono (by simp; omega))
          have HR3 := Lib.hid hr3
          have z3 := hb3.size
          simp at z3
          have HG3 := Lib.hid g3
          have hlen := idxs_len b.testBit n
          clear hr3 hb3 g3
          generalize hL : (idxs b.testBit n).length = L at *
          have HL := Lib.hid hL
          clear hL
          go_wp2_with fail
          refine (after_s A n c M Y G A3 L c3 _ _ HV.out (by unfold maxLen; omega) (HS.out.below HG3.out) HR3.out.sl).mono ?_
          rintro e w4 ⟨A4, c4, rfl, k4, m4, hr4, hb4⟩
          have h4 : Beds w4 A4 n M Y (aft M G b) := hr4.beds.congrG (fun j hj => by rw [← HL.out]; exact later_list hj)
          have HB4 := Lib.hid h4
          have g4 : Below w.heap.size w w4 := HG3.out.trans (hb4.mono (by omega))
          have HG4 := Lib.hid g4
          have z4 := hb4.size
          clear hr4 hb4 h4 g4
          cases hm : meets n M Y y (aft M G b) d
          · have HMm := Lib.hid hm
            clear hm
            go_wp2_with fail
            refine (IH.out (by omega) A4 c4 (aft M G b) (Z - 1) _ HZ.out (aft_valid HV.out b) HB4.out).mono ?_
            rintro e w5 ⟨rfl, hb5⟩
            rw [HMm.out]
            have g5 : Below w.heap.size w w5 := HG4.out.trans (hb5.mono (by omega))
            clear hb5
            go_wp2
            go_roundw
            case rel => exact ⟨b + 1, by omega, by go_num, noMeet_succ HA.out (.inr HMm.out), g5⟩
            case measure => simp [intOf]; omega
          · have HMm := Lib.hid (meets_yes hbq HD.out hm)
            have HM2 := Lib.hid hm
            clear hm
            go_wp2_with fail
            refine (IH.out (by omega) A4 c4 (aft M G b) (Z - 1) _ HZ.out (aft_valid HV.out b) HB4.out).mono ?_
            rintro e w5 ⟨rfl, hb5⟩
            rw [HM2.out]
            have g5 : Below w.heap.size w w5 := HG4.out.trans (hb5.mono (by omega))
            clear hb5
            go_wp2
            go_ret
            exact ⟨by rw [HMm.out]; rfl, g5⟩
        · have hd2 : ysum M Y G b n < d := by omega
          have HD := Lib.hid hd
          clear hd
          go_wp2_with fail
          refine (sum_s A n c M Y G b _ (by omega) HV.out (HS.out.below HBL.out)).mono ?_
          rintro e w2 ⟨rfl, m2, rfl⟩
          go_wp2
          go_roundw
          case rel => exact ⟨b + 1, by omega, by go_num, noMeet_succ HA.out (.inl (by have := HD.out; omega)), drewN_below HBL.out _⟩
          case measure => simp [intOf]; omega
      · obtain rfl : b = q := by omega
        go_wp2_with fail
        go_ret
        exact ⟨by rw [meets_no (by rw [HQ.out]; exact HA.out)]; rfl, HBL.out⟩

theorem flat_beds {w : World} {lo hi n : Nat} {A : Option Addr} {P : Nat → Option Addr} {M C : Nat → Nat} {G : Nat → Int} {Y : Nat → Nat → Int} (h : FlatBs w lo hi A n P M C G) (hs : ∀ j, j < n → Sl w (P j) (M j) 1 (Y j)) : Beds w A n M Y G := fun hn => by
  obtain ⟨g, e, h1, h2, ho⟩ := h hn
  refine ⟨g, 0, e, ho.lt, fun j hj => ⟨⟨P j, C j, ?_, hs j hj⟩, ?_⟩⟩
  · have := ho.cell (j := j * 2) (by omega)
    rw [bedV_0] at this
    simpa using this
  · have := ho.cell (j := j * 2 + 1) (by omega)
    rw [bedV_1] at this
    simpa using this

set_option maxHeartbeats 4000000 in
theorem steady_i (n : Nat) (M : Nat → Nat) (Y : Nat → Nat → Int) (hn : n ≤ 4) : ∀ (y : Nat), y ≤ 2 → ∀ (A : Option Addr) (c : Nat) (G : Nat → Int) (Z : Int) (w : World), Z = y + 1 → bedsB n M Y G = true → Beds w A n M Y G →
    Calls Try.prog 72 #[.slice A n c, .int .i64 Z] w fun e w' => e = .returned (.int .i64 (stead n M Y (y + 1) G)) ∧ Below w.heap.size w w' := by
  intro y
  induction y with
  | zero =>
    intro _ A c G Z w hZ hv hs
    obtain rfl : Z = 1 := hZ
    have HS := Lib.hid hs
    have HV := Lib.hid hv
    obtain ⟨q, hq⟩ : ∃ q : Nat, 2 ^ n = q := ⟨_, rfl⟩
    have hq16 : q ≤ 16 := by rw [← hq]; exact pow_le4 hn
    have hw : IntKind.u32.wrap (2 ^ n) = (q : Int) := by
      have : (2 : Int) ^ n = (q : Int) := by rw [← hq]; simp
      rw [this]
      exact u32_wraps _ (by omega) (by omega)
    have HQ := Lib.hid hq
    clear hs hv hq
    go_enter Try.func72, Try.ntmps72
    go_wp2_with fail
    go_loopw [5, 11] (fun s t wr => ∃ b : Nat, b ≤ q ∧ s = .int .i64 (maxB (worth n M Y 0 G) b) ∧ t = .int .u32 b ∧ Below w.heap.size w wr) (fun _ t _ => q - (intOf t).toNat)
    case atStart => exact ⟨0, by omega, rfl, rfl, Below.refl _ _⟩
    case round =>
      obtain ⟨b, hb, rfl, rfl, hbl⟩ := hrel
      have hzz := hbl.size
      have HBL := Lib.hid hbl
      clear hbl
      by_cases hlt : b < q
      · have hlt' : (b : Int) < (q : Int) := by omega
        have hbd := ysum_bd (B := b) (bedsB_of HV.out).2 n (Nat.le_refl _)
        have hm0 := maxB_0 (worth n M Y 0 G) b
        have hmx : max (maxB (worth n M Y 0 G) b) (ysum M Y G b n) = maxB (worth n M Y 0 G) (b + 1) := by
          have : worth n M Y 0 G b = ysum M Y G b n := by unfold worth; rw [if_pos rfl]
          simp only [maxB, this]
          split <;> omega
        have HMX := Lib.hid hmx
        clear hmx
        generalize maxB (worth n M Y 0 G) b = X at *
        generalize hS : ysum M Y G b n = S at *
        have HSS := Lib.hid hS
        clear hS
        have hw2 : IntKind.u32.wrap ((b : Int) + 1) = (b : Int) + 1 := u32_wraps _ (by omega) (by omega)
        go_wp2_with fail
        refine (together_i A n c M Y G b _ (by omega) HV.out (HS.out.below HBL.out)).mono ?_
        rintro e w2 ⟨rfl, hb2⟩
        rw [HSS.out]
        have g2 : Below w.heap.size w w2 := HBL.out.trans (hb2.mono (by omega))
        clear hb2
        by_cases hsx : X < S
        all_goals
          go_wp2_with fail
          go_roundw
          case rel => exact ⟨b + 1, by omega, by rw [← HMX.out]; congr 1 <;> omega, by go_num, g2⟩
          case measure => simp [intOf]; omega
      · obtain rfl : b = q := by omega
        go_wp2_with fail
        go_ret
        exact ⟨by rw [stead_succ, HQ.out]; rfl, HBL.out⟩
  | succ y ih =>
    intro hy A c G Z w hZ hv hs
    have IH := Lib.hid ih
    have z1 : 1 < Z := by omega
    have z3 : Z ≤ 3 := by omega
    have HZ := Lib.hid (show Z - 1 = (y : Int) + 1 by omega)
    clear hZ ih
    have HS := Lib.hid hs
    have HV := Lib.hid hv
    obtain ⟨q, hq⟩ : ∃ q : Nat, 2 ^ n = q := ⟨_, rfl⟩
    have hq16 : q ≤ 16 := by rw [← hq]; exact pow_le4 hn
    have hw : IntKind.u32.wrap (2 ^ n) = (q : Int) := by
      have : (2 : Int) ^ n = (q : Int) := by rw [← hq]; simp
      rw [this]
      exact u32_wraps _ (by omega) (by omega)
    have HQ := Lib.hid hq
    clear hs hv hq
    go_enter Try.func72, Try.ntmps72
    go_wp2_with fail
    go_loopw [5, 11] (fun s t wr => ∃ b : Nat, b ≤ q ∧ s = .int .i64 (maxB (worth n M Y (y + 1) G) b) ∧ t = .int .u32 b ∧ Below w.heap.size w wr) (fun _ t _ => q - (intOf t).toNat)
    case atStart => exact ⟨0, by omega, rfl, rfl, Below.refl _ _⟩
    case round =>
      obtain ⟨b, hb, rfl, rfl, hbl⟩ := hrel
      have hzz := hbl.size
      have HBL := Lib.hid hbl
      clear hbl
      by_cases hlt : b < q
      · have hlt' : (b : Int) < (q : Int) := by omega
        have hbd := ysum_bd (B := b) (bedsB_of HV.out).2 n (Nat.le_refl _)
        have hm0 := maxB_0 (worth n M Y (y + 1) G) b
        have hwo : worth n M Y (y + 1) G b = min (ysum M Y G b n) (stead n M Y (y + 1) (aft M G b)) := by unfold worth; rw [if_neg (by omega)]
        have hmx : maxB (worth n M Y (y + 1) G) (b + 1) = max (maxB (worth n M Y (y + 1) G) b) (min (ysum M Y G b n) (stead n M Y (y + 1) (aft M G b))) := by
          simp only [maxB, hwo]
          split <;> omega
        have HMX := Lib.hid hmx
        have hst := stead_bd (n := n) (M := M) (Y := Y) (y + 1) (aft M G b) (aft_valid HV.out b)
        clear hmx hwo
        generalize maxB (worth n M Y (y + 1) G) b = X at *
        generalize hS : ysum M Y G b n = S at *
        have HSS := Lib.hid hS
        clear hS
        have hw2 : IntKind.u32.wrap ((b : Int) + 1) = (b : Int) + 1 := u32_wraps _ (by omega) (by omega)
        go_wp2_with fail
        refine (together_i A n c M Y G b _ (by omega) HV.out (HS.out.below HBL.out)).mono ?_
        rintro e w2 ⟨rfl, hb2⟩
        rw [HSS.out]
        have g2 : Below w.heap.size w w2 := HBL.out.trans (hb2.mono (by omega))
        have G2 := Lib.hid g2
        have hz2 := g2.size
        clear hb2 g2
        by_cases hsx : X < S
        · go_wp2_with fail
          refine (aged_i A n c M Y G b _ (by omega) HV.out (HS.out.below G2.out)).mono ?_
          rintro e w3 ⟨A3, c3, P3, C3, rfl, k3, m3, hf3, hsl3, hb3⟩
          have h3 : Beds w3 A3 n M Y (aft M G b) := flat_beds hf3 (fun j hj => (hsl3 j hj).below hb3 (Nat.le_refl _))
          have HB3 := Lib.hid h3
          have G3 := Lib.hid (G2.out.trans (hb3.mono hz2))
          have hz3 := hb3.size
          clear hf3 hsl3 hb3 h3
          generalize hT : stead n M Y (y + 1) (aft M G b) = T at *
          have HT := Lib.hid hT
          clear hT
          go_wp2_with fail
          refine (IH.out (by omega) A3 c3 (aft M G b) (Z - 1) _ HZ.out (aft_valid HV.out b) HB3.out).mono ?_
          rintro e w4 ⟨rfl, hb4⟩
          rw [HT.out]
          have g4 : Below w.heap.size w w4 := G3.out.trans (hb4.mono (by omega))
          clear hb4
          go_wp2_with fail
          go_roundw
          case rel => exact ⟨b + 1, by omega, by rw [HMX.out]; congr 1 <;> omega, by go_num, g4⟩
          case measure => simp [intOf]; omega
        · go_wp2_with fail
          go_roundw
          case rel => exact ⟨b + 1, by omega, by rw [HMX.out]; congr 1 <;> omega, by go_num, G2.out⟩
          case measure => simp [intOf]; omega
      · obtain rfl : b = q := by omega
        go_wp2_with fail
        go_ret
        exact ⟨by rw [stead_succ, HQ.out]; rfl, HBL.out⟩

/-- what is wrong with the arguments -/
def SteadyNo (n : Nat) (M : Nat → Nat) (Y : Nat → Nat → Int) (G : Nat → Int) (years code : Int) : Prop :=
  bedsB n M Y G = false ∧ code = 1 ∨ bedsB n M Y G = true ∧ inB years 1 3 = false ∧ code = 2 ∨ bedsB n M Y G = true ∧ inB years 1 3 = true ∧ 4 < n ∧ code = 5

set_option maxHeartbeats 2000000 in
theorem need_s_no (A : Option Addr) (n c : Nat) (M : Nat → Nat) (Y : Nat → Nat → Int) (G : Nat → Int) (years code : Int) (w : World) (hn : n ≤ maxLen) (hM : ∀ j, j < n → M j ≤ maxLen) (hs : Beds w A n M Y G) (hv : SteadyNo n M Y G years code) :
    Calls Try.prog 22 #[.slice A n c, .int .i64 years] w fun e w' => e = .returned (.tuple #[.int .i64 0, .int .i64 code]) ∧ Below w.heap.size w w' := by
  have hn' := hn
  unfold maxLen at hn'
  have HS := Lib.hid hs
  have HM := Lib.hid hM
  clear hs hM
  rcases hv with ⟨hv, rfl⟩ | ⟨hv, hy, rfl⟩ | ⟨hv, hy, h4, rfl⟩
  all_goals
    go_enter Try.func22, Try.ntmps22
    go_wp2_with fail
    refine (bedsOk_s A n c M Y G _ hn HM.out HS.out).mono ?_
    rintro e w' ⟨rfl, m, rfl⟩
    rw [hv]
    try (have h4' : (4 : Int) < (n : Int) := by omega)
    go_wp2_with (go_at_call 73; refine (in_s _ _ _ _).mono ?_; rintro e w' ⟨rfl, rfl⟩)
    go_ret2
    exact ⟨rfl, drewN_below (Below.refl _ _) _⟩

set_option maxHeartbeats 2000000 in
theorem need_i_no (A : Option Addr) (n c : Nat) (M : Nat → Nat) (Y : Nat → Nat → Int) (G : Nat → Int) (years code : Int) (w : World) (hn : n ≤ maxLen) (hM : ∀ j, j < n → M j ≤ maxLen) (hs : Beds w A n M Y G) (hv : SteadyNo n M Y G years code) :
    Calls Try.prog 21 #[.slice A n c, .int .i64 years] w fun e w' => e = .returned (.tuple #[.int .i64 0, .int .i64 code]) ∧ Below w.heap.size w w' := by
  have hn' := hn
  unfold maxLen at hn'
  have HS := Lib.hid hs
  have HM := Lib.hid hM
  clear hs hM
  rcases hv with ⟨hv, rfl⟩ | ⟨hv, hy, rfl⟩ | ⟨hv, hy, h4, rfl⟩
  all_goals
    go_enter Try.func21, Try.ntmps21
    go_wp2_with fail
    refine (validBeds_i A n c M Y G _ hn HM.out HS.out).mono ?_
    rintro e w' ⟨rfl, hb⟩
    rw [hv]
    try (have h4' : (4 : Int) < (n : Int) := by omega)
    go_wp2_with (go_at_call 71; refine (in_i _ _ _ _).mono ?_; rintro e w' ⟨rfl, rfl⟩)
    go_ret2
    exact ⟨rfl, hb⟩

set_option maxHeartbeats 2000000 in
theorem need_i (A : Option Addr) (n c : Nat) (M : Nat → Nat) (Y : Nat → Nat → Int) (G : Nat → Int) (y : Nat) (years : Int) (w : World) (hv : bedsB n M Y G = true) (hy : years = y + 1) (y2 : y ≤ 2) (h4 : n ≤ 4) (hs : Beds w A n M Y G) :
    Calls Try.prog 21 #[.slice A n c, .int .i64 years] w fun e w' => e = .returned (.tuple #[.int .i64 (stead n M Y (y + 1) G), .int .i64 0]) ∧ Below w.heap.size w w' := by
  have hM : ∀ j, j < n → M j ≤ maxLen := fun j hj => by have := (bedB_of ((bedsB_of hv).2 j hj)).1; unfold maxLen; omega
  have HS := Lib.hid hs
  have HM := Lib.hid hM
  have HV := Lib.hid hv
  have hin : inB years 1 3 = true := inB_yes (by omega) (by omega)
  have HY := Lib.hid hy
  have h4' : (n : Int) ≤ 4 := by omega
  clear hs hM hv hy
  go_enter Try.func21, Try.ntmps21
  go_wp2_with fail
  refine (validBeds_i A n c M Y G _ (by unfold maxLen; omega) HM.out HS.out).mono ?_
  rintro e w' ⟨rfl, hb⟩
  have HB := Lib.hid hb
  rw [HV.out]
  clear hb
  go_wp2_with (go_at_call 71; refine (in_i _ _ _ _).mono ?_; rintro e w' ⟨rfl, rfl⟩)
  refine (steady_i n M Y h4 y y2 A c G years _ HY.out HV.out (HS.out.below HB.out)).mono ?_
  rintro e w2 ⟨rfl, hb2⟩
  have g2 := HB.out.trans (hb2.mono HB.out.size)
  clear hb2
  go_wp2
  go_ret2
  exact ⟨rfl, g2⟩

set_option maxHeartbeats 4000000 in
theorem need_s (A : Option Addr) (n c : Nat) (M : Nat → Nat) (Y : Nat → Nat → Int) (G : Nat → Int) (y : Nat) (years : Int) (w : World) (hv : bedsB n M Y G = true) (hy : years = y + 1) (y2 : y ≤ 2) (h4 : n ≤ 4) (hs : Beds w A n M Y G) :
    Calls Try.prog 22 #[.slice A n c, .int .i64 years] w fun e w' => e = .returned (.tuple #[.int .i64 (stead n M Y (y + 1) G), .int .i64 0]) ∧ Below w.heap.size w w' := by
  have hM : ∀ j, j < n → M j ≤ maxLen := fun j hj => by have := (bedB_of ((bedsB_of hv).2 j hj)).1; unfold maxLen; omega
  have hst := stead_bd (n := n) (M := M) (Y := Y) (y + 1) G hv
  have HS := Lib.hid hs
  have HM := Lib.hid hM
  have HV := Lib.hid hv
  have hin : inB years 1 3 = true := inB_yes (by omega) (by omega)
  have HY := Lib.hid (show years = ((y + 1 : Nat) : Int) by omega)
  have h4' : (n : Int) ≤ 4 := by omega
  have hd4 : decide ((4 : Int) < (n : Int)) = false := by simp; omega
  have HI := Lib.hid (fun d (h : 1 ≤ d) => meets_iff (n := n) (M := M) (Y := Y) h y G)
  generalize hT : stead n M Y (y + 1) G = T at *
  have HT := Lib.hid hT
  clear hs hM hv hy hT
  go_enter Try.func22, Try.ntmps22
  go_wp2_with fail
  refine (bedsOk_s A n c M Y G _ (by unfold maxLen; omega) HM.out HS.out).mono ?_
  rintro e w' ⟨rfl, m, rfl⟩
  rw [HV.out]
  go_wp2_with (go_at_call 73; refine (in_s _ _ _ _).mono ?_; rintro e w' ⟨rfl, rfl⟩)
  go_loopw [6, 7] (fun l h wr => ∃ L H : Int, l = .int .i64 L ∧ h = .int .i64 H ∧ 0 ≤ L ∧ L < H ∧ H ≤ 50000 ∧ Hid (L ≤ T) ∧ Hid (T < H) ∧ Below w.heap.size w wr) (fun l h _ => (intOf h - intOf l).toNat)
  case atStart => exact ⟨0, 50000, rfl, rfl, by omega, by omega, by omega, by have := hst.1; exact this, by have := hst.2; show T < 50000; omega, drewN_below (Below.refl _ _) _⟩
  case round =>
    obtain ⟨L, H, rfl, rfl, l0, l1, l2, HL, HH, hbl⟩ := hrel
    have HBL := Lib.hid hbl
    have hzz := hbl.size
    clear hbl
    by_cases hlt : 1 < H - L
    · have b1 : L < (L + H) / 2 := by omega
      have b2 : (L + H) / 2 < H := by omega
      have b3 : 1 ≤ (L + H) / 2 := by omega
      cases hm : meets n M Y (y + 1) G ((L + H) / 2)
      · have hT2 : T < (L + H) / 2 := by
          rcases Int.lt_or_le T ((L + H) / 2) with h | h
          · exact h
          · rw [(HI.out _ b3).2 h] at hm; cases hm
        have HT2 := Lib.hid hT2
        have HMm := Lib.hid hm
        clear hT2 hm
        go_wp2_with fail
        refine (meets_s n M Y ((L + H) / 2) h4 (y + 1) (by omega) A c G years _ HY.out HV.out (HS.out.below HBL.out)).mono ?_
        rintro e w2 ⟨rfl, hb2⟩
        rw [HMm.out]
        have g2 : Below w.heap.size w w2 := HBL.out.trans (hb2.mono hzz)
        clear hb2
        go_wp2
        go_roundw
        case rel => exact ⟨L, (L + H) / 2, rfl, rfl, by omega, by omega, by omega, HL.out, HT2.out, g2⟩
        case measure => simp [intOf]; omega
      · have hT2 : (L + H) / 2 ≤ T := (HI.out _ b3).1 hm
        have HT2 := Lib.hid hT2
        have HMm := Lib.hid hm
        clear hT2 hm
        go_wp2_with fail
        refine (meets_s n M Y ((L + H) / 2) h4 (y + 1) (by omega) A c G years _ HY.out HV.out (HS.out.below HBL.out)).mono ?_
        rintro e w2 ⟨rfl, hb2⟩
        rw [HMm.out]
        have g2 : Below w.heap.size w w2 := HBL.out.trans (hb2.mono hzz)
        clear hb2
        go_wp2
        go_roundw
        case rel => exact ⟨(L + H) / 2, H, rfl, rfl, by omega, by omega, by omega, HT2.out, HH.out, g2⟩
        case measure => simp [intOf]; omega
    · have hLT : Value.int .i64 L = .int .i64 T := by have h1 := HL.out; have h2 := HH.out; congr 1; omega
      have HLT := Lib.hid hLT
      clear hLT
      go_wp2_with fail
      go_ret2
      exact ⟨by rw [← HLT.out]; rfl, HBL.out⟩

end Go.Proofs.Ytcpaenmhnoagdac.rod
