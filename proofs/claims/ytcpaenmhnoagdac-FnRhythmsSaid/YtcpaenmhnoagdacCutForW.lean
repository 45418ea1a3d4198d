/-
  Contracts of CutFor, of the model's and of the program's.
-/
import Derived.Test.YtcpaenmhnoagdacCutFor
import Derived.Test.YtcpaenmhnoagdacSteady
namespace Go.Proofs.Ytcpaenmhnoagdac.rod
open Go.ChangeShapes Go.WideShapes Go.ChangeAt Go.RowKit Go.Proofs.Ytcpaenmhnoagdac.mem Go.Proofs.Ytcpaenmhnoagdac.nums
set_option linter.unusedVariables false

/-- do the beds of a set yield enough? -/
def enough (n : Nat) (M : Nat → Nat) (Y : Nat → Nat → Int) (G : Nat → Int) (d : Int) (b : Nat) : Bool := decide (d ≤ ysum M Y G b n)

set_option maxHeartbeats 2000000 in
theorem isMet_i (A : Option Addr) (n c : Nat) (M : Nat → Nat) (Y : Nat → Nat → Int) (G : Nat → Int) (d : Int) (B : Nat) (w : World) (hB : B < 2 ^ 32) (hv : bedsB n M Y G = true) (hs : Beds w A n M Y G) :
    Calls Try.prog 80 #[.agg #[.slice A n c, .int .i64 d], .int .u32 B] w fun e w' => e = .returned (.bool (enough n M Y G d B)) ∧ Below w.heap.size w w' := by
  have HS := Lib.hid (fun W (h : Below w.heap.size w W) => together_i A n c M Y G B W hB hv (hs.below h))
  have HE := Lib.hid (show enough n M Y G d B = decide (d ≤ ysum M Y G B n) from rfl)
  generalize ysum M Y G B n = S at *
  clear hs hv
  go_enter Try.func80, Try.ntmps80
  go_wp2_with fail
  have p0 : (w.alloc (Obj.cells #[.slice A n c, .int .i64 d] 97)).cell? ⟨w.heap.size, 0, none⟩ = some (.slice A n c) := by go_simp
  have p1 : (w.alloc (Obj.cells #[.slice A n c, .int .i64 d] 97)).cell? ⟨w.heap.size, 1, none⟩ = some (.int .i64 d) := by go_simp
  go_region_held3 (fun x => x.cell? ⟨w.heap.size, 0, none⟩ = some (.slice A n c) ∧ x.cell? ⟨w.heap.size, 1, none⟩ = some (.int .i64 d)) (first | exact ⟨p0, p1⟩ | go_keep)
    (first
      | (go_at_call 110; refine (HS.out _ (by go_grown)).mono ?_; rintro e w2 ⟨rfl, hb⟩
         have g2 : Below w.heap.size w w2 := Below.trans (by go_grown) (hb.mono (by simp))
         replace p0 := (hb.cell (p := ⟨w.heap.size, 0, none⟩) (by simp)).trans p0
         replace p1 := (hb.cell (p := ⟨w.heap.size, 1, none⟩) (by simp)).trans p1
         clear hb))
  go_wp2
  go_ret
  exact ⟨by rw [HE.out]; rfl, g2⟩

set_option maxHeartbeats 4000000 in
theorem fewest_i (A : Option Addr) (n c : Nat) (M : Nat → Nat) (Y : Nat → Nat → Int) (G : Nat → Int) (d : Int) (w : World) (hv : bedsB n M Y G = true) (hs : Beds w A n M Y G) :
    Calls Try.prog 79 #[.int .i64 n, .func (Fn.func 80) #[.agg #[.slice A n c, .int .i64 d]] #[]] w fun e w' => e = .returned (.tuple #[.int .u32 (best n (enough n M Y G d) (2 ^ n) : Nat), .bool (found n (enough n M Y G d) (2 ^ n))]) ∧ Below w.heap.size w w' := by
  have n8 := (bedsB_of hv).1
  obtain ⟨q, hq⟩ : ∃ q : Nat, 2 ^ n = q := ⟨_, rfl⟩
  have hq256 : q ≤ 256 := by rw [← hq]; exact Nat.pow_le_pow_right (n := 2) (by decide) n8
  have hw : IntKind.u32.wrap (2 ^ n) = (q : Int) := by
    have : (2 : Int) ^ n = (q : Int) := by rw [← hq]; simp
    rw [this]
    exact u32_wraps _ (by omega) (by omega)
  rw [hq]
  have HQ := Lib.hid hq
  have HS := Lib.hid (fun B (hB : B < 2 ^ 32) W (h : Below w.heap.size w W) => isMet_i A n c M Y G d B W hB hv (hs.below h))
  have hn64 : (n : Int) ≤ 8 := by omega
  generalize hP : enough n M Y G d = P at *
  clear hs hv hq hP
  go_enter Try.func79, Try.ntmps79
  go_wp2_with fail
  go_loopw [11, 6, 7] (fun s x f wr => ∃ b : Nat, b ≤ q ∧ s = .int .u32 b ∧ x = .int .u32 (best n P b : Nat) ∧ f = .bool (found n P b) ∧ Below w.heap.size w wr) (fun s _ _ _ => q - (intOf s).toNat)
  case atStart => exact ⟨0, by omega, rfl, rfl, rfl, Below.refl _ _⟩
  case round =>
    obtain ⟨b, hb, rfl, rfl, rfl, hbl⟩ := hrel
    have hzz := hbl.size
    have HBL := Lib.hid hbl
    clear hbl
    have hble := best_le (n := n) (b := b) (P := P)
    by_cases hlt : b < q
    · have hlt' : (b : Int) < (q : Int) := by omega
      have hbq : b < 2 ^ n := by have := HQ.out; omega
      have hw2 : IntKind.u32.wrap ((b : Int) + 1) = (b : Int) + 1 := u32_wraps _ (by omega) (by omega)
      have hB16 : b < 2 ^ 32 := by omega
      cases hp : P b
      · have HN := Lib.hid (pick_old (n := n) (.inl hp))
        have HP := Lib.hid hp
        clear hp
        generalize best n P b = X at *
        generalize found n P b = F at *
        go_wp2_with fail
        refine (HS.out b hB16 _ HBL.out).mono ?_
        rintro e w2 ⟨rfl, hb2⟩
        rw [HP.out]
        have g2 : Below w.heap.size w w2 := HBL.out.trans (hb2.mono hzz)
        clear hb2
        go_wp2_with fail
        go_roundw
        case rel => exact ⟨b + 1, by omega, by go_num, by rw [HN.out.1], by rw [HN.out.2], g2⟩
        case measure => simp [intOf]; omega
      · have HP := Lib.hid hp
        cases hf : found n P b
        · have HN := Lib.hid (pick_new (n := n) hp (.inl hf))
          clear hp hf
          generalize best n P b = X at *
          go_wp2_with fail
          refine (HS.out b hB16 _ HBL.out).mono ?_
          rintro e w2 ⟨rfl, hb2⟩
          rw [HP.out]
          have g2 : Below w.heap.size w w2 := HBL.out.trans (hb2.mono hzz)
          clear hb2
          go_wp2_with fail
          go_roundw
          case rel => exact ⟨b + 1, by omega, by go_num, by rw [HN.out.1], by rw [HN.out.2], g2⟩
          case measure => simp [intOf]; omega
        · cases hbf : befB n b (best n P b)
          · have HN := Lib.hid (pick_old (n := n) (b := b) (P := P) (.inr ⟨hf, hbf⟩))
            have HBF := Lib.hid hbf
            have HF := Lib.hid hf
            clear hp hf hbf
            generalize best n P b = X at *
            go_wp2_with fail
            refine (HS.out b hB16 _ HBL.out).mono ?_
            rintro e w2 ⟨rfl, hb2⟩
            rw [HP.out]
            have g2 : Below w.heap.size w w2 := HBL.out.trans (hb2.mono hzz)
            clear hb2
            go_wp2_with fail
            refine (isBefore_i n b X _ (by omega) hbq (by omega)).mono ?_
            rintro e w3 ⟨rfl, m3, rfl⟩
            rw [HBF.out]
            go_wp2_with fail
            go_roundw
            case rel => exact ⟨b + 1, by omega, by go_num, by rw [HN.out.1], by rw [HN.out.2, HF.out], drewN_below g2 _⟩
            case measure => simp [intOf]; omega
          · have HN := Lib.hid (pick_new (n := n) hp (.inr hbf))
            have HBF := Lib.hid hbf
            clear hp hf hbf
            generalize best n P b = X at *
            go_wp2_with fail
            refine (HS.out b hB16 _ HBL.out).mono ?_
            rintro e w2 ⟨rfl, hb2⟩
            rw [HP.out]
            have g2 : Below w.heap.size w w2 := HBL.out.trans (hb2.mono hzz)
            clear hb2
            go_wp2_with fail
            refine (isBefore_i n b X _ (by omega) hbq (by omega)).mono ?_
            rintro e w3 ⟨rfl, m3, rfl⟩
            rw [HBF.out]
            go_wp2_with fail
            go_roundw
            case rel => exact ⟨b + 1, by omega, by go_num, by rw [HN.out.1], by rw [HN.out.2], drewN_below g2 _⟩
            case measure => simp [intOf]; omega
    · obtain rfl : b = q := by omega
      go_wp2
      go_ret2
      exact ⟨rfl, HBL.out⟩

/-- the beds that are told, and the code -/
def cutL (n : Nat) (P : Nat → Bool) : List Int := if found n P (2 ^ n) then idxs (best n P (2 ^ n)).testBit n else []
def cutC (n : Nat) (P : Nat → Bool) : Int := if found n P (2 ^ n) then 0 else 3
theorem cutL_len (n : Nat) (P : Nat → Bool) : (cutL n P).length ≤ n := by
  unfold cutL
  split
  · exact idxs_len _ _
  · exact Nat.zero_le _

set_option maxHeartbeats 2000000 in
theorem cutFor_i (A : Option Addr) (n c : Nat) (M : Nat → Nat) (Y : Nat → Nat → Int) (G : Nat → Int) (d : Int) (w : World) (hv : bedsB n M Y G = true) (hd : inB d 0 100000 = true) (hs : Beds w A n M Y G) :
    Calls Try.prog 26 #[.slice A n c, .int .i64 d] w (NumsCode w 2 (cutL n (enough n M Y G d)) (cutC n (enough n M Y G d))) := by
  have n8 := (bedsB_of hv).1
  have hM : ∀ j, j < n → M j ≤ maxLen := fun j hj => by have := (bedB_of ((bedsB_of hv).2 j hj)).1; unfold maxLen; omega
  have HS := Lib.hid hs
  have HM := Lib.hid hM
  have HV := Lib.hid hv
  clear hs hM hv
  have HD := Lib.hid hd
  clear hd
  cases hf : found n (enough n M Y G d) (2 ^ n)
  · have HF := Lib.hid hf
    have hl : cutL n (enough n M Y G d) = [] := by unfold cutL; rw [hf]; rfl
    have hcc : cutC n (enough n M Y G d) = 3 := by unfold cutC; rw [hf]; rfl
    rw [hl, hcc]
    clear hf hl hcc
    go_enter Try.func26, Try.ntmps26
    go_wp2_with fail
    refine (validBeds_i A n c M Y G _ (by unfold maxLen; omega) HM.out HS.out).mono ?_
    rintro e w1 ⟨rfl, hb1⟩
    rw [HV.out]
    have HB1 := Lib.hid hb1
    have hz1 := hb1.size
    clear hb1
    go_wp2_with (go_at_call 71; refine (in_i _ _ _ _).mono ?_; rintro e w' ⟨rfl, rfl⟩; rw [HD.out])
    refine (fewest_i A n c M Y G d _ HV.out (HS.out.below HB1.out)).mono ?_
    rintro e w2 ⟨rfl, hb2⟩
    rw [HF.out]
    have g2 : Below w.heap.size w w2 := HB1.out.trans (hb2.mono hz1)
    clear hb2
    go_wp2
    go_ret2
    exact ⟨none, 0, rfl, Nat.le_refl _, by unfold maxLen; omega, Row.none_, g2⟩
  · have HF := Lib.hid hf
    have hl : cutL n (enough n M Y G d) = idxs (best n (enough n M Y G d) (2 ^ n)).testBit n := by unfold cutL; rw [hf]; rfl
    have hcc : cutC n (enough n M Y G d) = 0 := by unfold cutC; rw [hf]; rfl
    rw [hl, hcc]
    have hbl := best_lt (n := n) (P := enough n M Y G d) (Nat.two_pow_pos n)
    clear hf hl hcc
    generalize hX : best n (enough n M Y G d) (2 ^ n) = X at *
    have HX := Lib.hid hX
    clear hX
    go_enter Try.func26, Try.ntmps26
    go_wp2_with fail
    refine (validBeds_i A n c M Y G _ (by unfold maxLen; omega) HM.out HS.out).mono ?_
    rintro e w1 ⟨rfl, hb1⟩
    rw [HV.out]
    have HB1 := Lib.hid hb1
    have hz1 := hb1.size
    clear hb1
    go_wp2_with (go_at_call 71; refine (in_i _ _ _ _).mono ?_; rintro e w' ⟨rfl, rfl⟩; rw [HD.out])
    refine (fewest_i A n c M Y G d _ HV.out (HS.out.below HB1.out)).mono ?_
    rintro e w2 ⟨rfl, hb2⟩
    rw [HF.out, HX.out]
    have g2 : Below w.heap.size w w2 := HB1.out.trans (hb2.mono hz1)
    have HG2 := Lib.hid g2
    have hz2 := g2.size
    clear hb2 g2
    go_wp2_with fail
    refine (numbers_i X n _ (by omega) hbl).mono ?_
    rintro e w3 ⟨A3, c3, rfl, k3, m3, hr3, hb3⟩
    have HR3 := Lib.hid hr3
    have g3 : Below w.heap.size w w3 := HG2.out.trans (hb3.mono hz2)
    clear hr3 hb3
    go_wp2
    go_ret2
    exact ⟨A3, c3, rfl, k3, m3, HR3.out.wide hz2 (Nat.le_refl _), g3⟩

/-- what is wrong with the arguments -/
def CutNo (n : Nat) (M : Nat → Nat) (Y : Nat → Nat → Int) (G : Nat → Int) (d code : Int) : Prop :=
  bedsB n M Y G = false ∧ code = 1 ∨ bedsB n M Y G = true ∧ inB d 0 100000 = false ∧ code = 2
set_option maxHeartbeats 2000000 in
theorem cutFor_i_no (A : Option Addr) (n c : Nat) (M : Nat → Nat) (Y : Nat → Nat → Int) (G : Nat → Int) (d code : Int) (w : World) (hn : n ≤ maxLen) (hM : ∀ j, j < n → M j ≤ maxLen) (hs : Beds w A n M Y G) (hv : CutNo n M Y G d code) :
    Calls Try.prog 26 #[.slice A n c, .int .i64 d] w (NumsCode w 2 [] code) := by
  have HS := Lib.hid hs
  have HM := Lib.hid hM
  clear hs hM
  rcases hv with ⟨hv, rfl⟩ | ⟨hv, hd, rfl⟩
  all_goals
    go_enter Try.func26, Try.ntmps26
    go_wp2_with fail
    refine (validBeds_i A n c M Y G _ hn HM.out HS.out).mono ?_
    rintro e w' ⟨rfl, hb⟩
    rw [hv]
    go_wp2_with (go_at_call 71; refine (in_i _ _ _ _).mono ?_; rintro e w' ⟨rfl, rfl⟩)
    go_ret2
    exact ⟨none, 0, rfl, Nat.le_refl _, by unfold maxLen; omega, Row.none_, hb⟩
theorem idxs_zero : ∀ n, idxs (0 : Nat).testBit n = []
  | 0 => rfl
  | n + 1 => by rw [idxs_no (by simp), idxs_zero n]

end Go.Proofs.Ytcpaenmhnoagdac.rod
