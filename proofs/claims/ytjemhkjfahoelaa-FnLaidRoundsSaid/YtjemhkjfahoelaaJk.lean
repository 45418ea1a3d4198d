/-
  The law on laid rounds, walked. No condition of a statement lies here.
-/
import Derived.Test.YtjemhkjfahoelaaJc
import Derived.Test.YtjemhkjfahoelaaJh
import Derived.Test.YtjemhkjfahoelaaJi
import Derived.Test.YtjemhkjfahoelaaA2B
namespace Go.Proofs.Ytjemhkjfahoelaa.jns
open Go.ChangeShapes Go.WideShapes Go.ChangeAt Go.RowKit Go.Proofs.Ytjemhkjfahoelaa.mem Go.Proofs.Ytjemhkjfahoelaa.rod Go.Proofs.Ytjemhkjfahoelaa.nums Go.Proofs.Ytjemhkjfahoelaa.src
set_option linter.unusedVariables false
set_option maxRecDepth 100000

theorem getD_lt' {l : List Int} {x : Int} {j : Nat} (h : j < l.length) : (l ++ [x]).getD j 0 = l.getD j 0 := by
  simp only [List.getD, List.getElem?_append_left h]
theorem getD_eq' {l : List Int} {x : Int} : (l ++ [x]).getD l.length 0 = x := by simp [List.getD]
/-- what stands in the list of the numbers with a mark -/
theorem idxs_in {p : Nat → Bool} : ∀ (n j : Nat), j < (idxs p n).length → ∃ k : Nat, (idxs p n).getD j 0 = (k : Int) ∧ k < n ∧ p k = true
  | 0, j, h => absurd h (Nat.not_lt_zero _)
  | n + 1, j, h => by
    cases e : p n
    · rw [idxs_no e] at h ⊢
      obtain ⟨k, h1, h2, h3⟩ := idxs_in n j h
      exact ⟨k, h1, by omega, h3⟩
    · rw [idxs_yes e] at h ⊢
      rw [List.length_append] at h
      simp only [List.length_singleton] at h
      by_cases c : j < (idxs p n).length
      · rw [getD_lt' c]
        obtain ⟨k, h1, h2, h3⟩ := idxs_in n j c
        exact ⟨k, h1, by omega, h3⟩
      · obtain rfl : j = (idxs p n).length := by omega
        rw [getD_eq']
        exact ⟨n, rfl, by omega, e⟩
theorem idxs_up {p : Nat → Bool} : ∀ (n j : Nat), j + 1 < (idxs p n).length → (idxs p n).getD j 0 < (idxs p n).getD (j + 1) 0
  | 0, j, h => absurd h (Nat.not_lt_zero _)
  | n + 1, j, h => by
    cases e : p n
    · rw [idxs_no e] at h ⊢
      exact idxs_up n j h
    · rw [idxs_yes e] at h ⊢
      rw [List.length_append] at h
      simp only [List.length_singleton] at h
      by_cases c : j + 1 < (idxs p n).length
      · rw [getD_lt' c, getD_lt' (by omega)]
        exact idxs_up n j c
      · have hj : j + 1 = (idxs p n).length := by omega
        rw [getD_lt' (by omega), hj, getD_eq']
        obtain ⟨k, h1, h2, _⟩ := idxs_in (p := p) n j (by omega)
        omega
theorem idxs_here {p : Nat → Bool} : ∀ (n k : Nat), k < n → p k = true → ∃ j, j < (idxs p n).length ∧ (idxs p n).getD j 0 = (k : Int)
  | 0, k, h, _ => absurd h (Nat.not_lt_zero _)
  | n + 1, k, h, hp => by
    by_cases c : k = n
    · subst c
      rw [idxs_yes hp]
      exact ⟨(idxs p k).length, by simp, getD_eq'⟩
    · obtain ⟨j, h1, h2⟩ := idxs_here n k (by omega) hp
      cases e : p n
      · rw [idxs_no e]; exact ⟨j, h1, h2⟩
      · rw [idxs_yes e]; exact ⟨j, by simp; omega, by rw [getD_lt' h1]; exact h2⟩
theorem idxs_has {p : Nat → Bool} {n k : Nat} (hk : k < n) : p k = true ↔ ∃ j, j < (idxs p n).length ∧ (idxs p n).getD j 0 = (k : Int) := by
  constructor
  · exact idxs_here n k hk
  · rintro ⟨j, h1, h2⟩
    obtain ⟨q, h3, h4, h5⟩ := idxs_in n j h1
    have : q = k := by omega
    rw [← this]; exact h5

/-- the numbers from 3 on, as marked numbers -/
def frm (p : Int → Bool) (k : Nat) : Bool := decide (3 ≤ k) && p k
theorem stk_idxs (p : Int → Bool) : ∀ k, stk p k = idxs (frm p) (3 + k)
  | 0 => rfl
  | k + 1 => by
    have e : ((3 + k : Nat) : Int) = 3 + (k : Int) := by omega
    have e2 : frm p (3 + k) = p (3 + (k : Int)) := by unfold frm; rw [decide_eq_true (by omega), e]; rfl
    show stk p k ++ _ = idxs (frm p) (3 + k) ++ (if frm p (3 + k) = true then [((3 + k : Nat) : Int)] else [])
    rw [stk_idxs p k, e2, e]
structure FitL (p : Int → Bool) (st : Int) (l : List Int) : Prop where
  bd : ∀ i, i < l.length → 0 ≤ l.getD i 0 ∧ l.getD i 0 < st + 1
  up : ∀ i, i + 1 < l.length → l.getD i 0 < l.getD (i + 1) 0
  has : ∀ k : Nat, (k : Int) ≤ st → ((frm p k = true) ↔ ∃ i, i < l.length ∧ l.getD i 0 = (k : Int))
  len : l.length ≤ 100
theorem fitL {p : Int → Bool} {st : Int} (h3 : 3 ≤ st) (h6 : st ≤ 60) : FitL p st (stk p (st - 2).toNat) := by
  have hl := stk_len p (st - 2).toNat
  refine ⟨fun i hi => ?_, fun i hi => ?_, fun k hk => ?_, by omega⟩
  · rw [stk_idxs] at hi ⊢
    obtain ⟨q, h1, h2, _⟩ := idxs_in _ i hi
    omega
  · rw [stk_idxs] at hi ⊢
    exact idxs_up _ i hi
  · rw [stk_idxs]
    exact idxs_has (by omega)
theorem div_facts {p st : Int} (p0 : 0 ≤ p) (p1 : p ≤ 1400) (s3 : 3 ≤ st) : 0 ≤ p / st ∧ p / st ≤ 1400 ∧ 0 ≤ p % st ∧ p % st < st ∧ IntKind.i64.wrap (p / st * st) = p - p % st := by
  have d1 : 0 ≤ p / st := Int.ediv_nonneg p0 (by omega)
  have d2 : p / st ≤ p := Int.ediv_le_self st p0
  have d3 := Int.emod_nonneg p (show st ≠ 0 by omega)
  have d4 := Int.emod_lt_of_pos p (show 0 < st by omega)
  have d5 : p / st * st = p - p % st := by have := Int.emod_add_mul_ediv p st; rw [Int.mul_comm]; omega
  have d6 : p - p % st ≤ p := by omega
  have d7 : 0 ≤ p - p % st := by rw [← d5]; exact Int.mul_nonneg d1 (by omega)
  refine ⟨d1, by omega, d3, d4, ?_⟩
  rw [d5]
  exact IntWalk.i64_in _ (by omega)

set_option maxHeartbeats 20000000 in
set_option maxRecDepth 1000000 in
theorem laid_walk (A : Option Addr) (n c : Nat) (X : Nat → Int) (A2 : Option Addr) (m c2 : Nat) (X2 : Nat → Int) (w : World) (hn : n ≤ 3000) (hm : m ≤ 3000) (sl : Sb w A n X) (sl2 : Sb w A2 m X2) :
    Calls Try.prog 9 #[.slice A n c, .slice A2 m c2] w fun e w' => e = .returned (.bool true) ∧ Below w.heap.size w w' := by
  have HSL := Lib.hid sl
  have HSL2 := Lib.hid sl2
  clear sl sl2
  go_enter Try.func9, Try.ntmps9
  go_wp2_with fail
  refine (long_c A A2 n m c c2 _ hn hm).mono ?_
  rintro e w' ⟨rfl, rfl⟩
  go_wp2_with fail
  refine (laid_c A n c X _ hn HSL.out).mono ?_
  rintro e w2 ⟨N, Y, A1, c1, rfl, R, hc1, hrow, hb2⟩
  have z2 := hb2.size
  have HB2 := Lib.hid hb2
  have SLY := Lib.hid (show ∀ W : World, Below w2.heap.size w2 W → Sl W A1 N 1 Y from fun W hb => hrow.sl.below hb (Nat.le_refl _))
  have S2 := Lib.hid (HSL2.out.below HB2.out (Nat.le_refl _))
  have hN7 := R.le
  have hNm : N ≤ maxLen := by unfold maxLen; omega
  clear hrow hb2 HSL HSL2
  go_wp2_with fail
  refine (at_c A2 m c2 X2 0 14 13 _ hm (by omega) (by omega) (by omega) S2.out).mono ?_
  rintro e w' ⟨v1, rfl, v10, v11, rfl⟩
  go_wp2_with fail
  refine (at_c A2 m c2 X2 1 3 2 _ hm (by omega) (by omega) (by omega) S2.out).mono ?_
  rintro e w' ⟨bs, rfl, b0, b2, rfl⟩
  go_wp2_with fail
  obtain ⟨st, hst⟩ : ∃ st, 3 + v1 = st := ⟨_, rfl⟩
  rw [hst]
  have s3 : 3 ≤ st := by omega
  have s16 : st ≤ 60 := by omega
  have hsb : inB st 3 60 = true := inB_yes s3 s16
  have HLB := Lib.hid (show laidB st N Y = true by unfold laidB; rw [hsb, R.b]; rfl)
  have HBS := Lib.hid (show inB bs 0 5 = true from inB_yes b0 (by omega))
  have HSB := Lib.hid hsb
  clear hst v10 v11 hsb
  refine (joinsOf_i st A1 N c1 Y _ hNm (SLY.out _ (Below.refl _ _)) HLB.out s3 s16 R).mono ?_
  rintro e w3 ⟨A3, c3, he3, k3, m3, row3, hb3⟩
  rw [jm_len] at he3 k3 row3
  subst he3
  have z3 := hb3.size
  have HB3 := Lib.hid hb3
  have R3 := Lib.hid (row3.congr (Y := fun j => ps Y (j + 1) % st) (fun j hj => jm_at (by omega)))
  clear hb3 row3
  go_wp2_with fail
  refine (rounds_i st A1 N c1 Y _ hNm (SLY.out _ HB3.out) HLB.out s3 s16 R).mono ?_
  rintro e w4 ⟨rfl, hb4⟩
  have z4 := hb4.size
  have HB4 := Lib.hid (HB3.out.trans (hb4.mono z3))
  have R4 := Lib.hid (R3.out.below hb4 (Nat.le_refl _))
  obtain ⟨p0, p1⟩ := ps_top R (Nat.le_refl N)
  have HP := Lib.hid (div_facts p0 p1 s3)
  have HSU := Lib.hid (sumL A1 N c1 Y w4 R (SLY.out _ HB4.out))
  clear hb4 R3 HB3
  obtain ⟨q0, q1, r0, r1, hwr⟩ := HP.out
  generalize ps Y N = p at *
  generalize p / st = q at *
  generalize p % st = r at *
  have hmx : max (0 : Int) ((N : Int) - 1) = ((N - 1 : Nat) : Int) := by rw [Int.max_def]; split <;> omega
  have hpr : IntKind.i64.wrap (p - r + r) = p := by rw [show p - r + r = p by omega]; exact IntWalk.i64_in _ (by omega)
  clear HP
  go_wp2_with (go_at_call 29; refine HSU.out.mono ?_; rintro e w' ⟨rfl, rfl⟩)
  clear hmx hpr hwr q0 q1 r0 r1 p0 p1
  go_loopw [13, 14] (fun a t wr => ∃ k : Nat, k ≤ N - 1 ∧ t = .int .i64 k ∧ a = .int .i64 (ps Y k) ∧ Below w4.heap.size w4 wr) (fun _ t _ => N - (intOf t).toNat)
  case atStart => exact ⟨0, by omega, rfl, rfl, Below.refl _ _⟩
  case round =>
    obtain ⟨k, hk, rfl, rfl, hbl⟩ := hrel
    have HB := Lib.hid hbl
    have hzz := hbl.size
    clear hbl
    by_cases hlt : k < N - 1
    · have hlt' : (k : Int) < ((N - 1 : Nat) : Int) := by omega
      have hlt2 : (k : Int) < (N : Int) := by omega
      have hk0 : (0 : Int) ≤ (k : Int) := by omega
      obtain ⟨b, o, rfl, hb, hI⟩ := (SLY.out _ (HB4.out.trans (HB.out.mono (by omega)))) (by omega)
      have h0 := hI k (by omega)
      obtain ⟨g, rfl, g1, g2, ho⟩ := (R4.out.below HB.out z4) (by omega)
      have h1 := ho.cell (j := k) (by omega)
      have hps : ps Y (k + 1) = ps Y k + Y k := rfl
      obtain ⟨x0, x1⟩ := R.at_ k (by omega)
      obtain ⟨p0, p1⟩ := ps_top R (k := k) (by omega)
      rw [hps] at h1
      have HPS := Lib.hid hps
      clear hI ho hps
      generalize ps Y k = a at *
      generalize Y k = y at *
      have e2 : (a + y).tmod st = (a + y) % st := Int.tmod_eq_emod_of_nonneg (by omega)
      have d3 := Int.emod_nonneg (a + y) (show st ≠ 0 by omega)
      have d4 := Int.emod_lt_of_pos (a + y) (show 0 < st by omega)
      go_wp2_with fail
      go_quiet (fail)
      go_wp2
      go_roundw
      case rel => exact ⟨k + 1, by omega, by go_num, by rw [HPS.out], drewN_below HB.out _⟩
      case measure => simp [intOf]; omega
    · obtain rfl : k = N - 1 := by omega
      have HB5 := Lib.hid (HB4.out.trans (HB.out.mono (by omega)))
      go_wp2_with fail
      refine (fit_i A1 N c1 Y bs st _ hNm (SLY.out _ HB5.out) R.b HBS.out HSB.out).mono ?_
      rintro e w5 ⟨A5, c5, rfl, k5, m5, row5, hb5⟩
      have z5 := hb5.size
      have HF := Lib.hid (fitL (p := fitB Y N bs) s3 s16)
      have R5 := Lib.hid row5
      have HB6 := Lib.hid (HB5.out.trans (hb5.mono HB5.out.size))
      have hlen := HF.out.len
      clear row5 hb5
      generalize stk (fitB Y N bs) (st - 2).toNat = l at *
      go_wp2_with (go_at_call 30; refine (a2Rises_c A5 l.length c5 (fun j => l.getD j 0) (st + 1) _ hlen R5.out.sl HF.out.bd HF.out.up).mono ?_; rintro e w6 ⟨rfl, m6, rfl⟩)
      go_loopw [17] (fun t wr => ∃ k : Nat, (k : Int) ≤ st + 1 ∧ t = .int .i64 k ∧ Below w5.heap.size w5 wr) (fun t _ => (st + 1 - intOf t).toNat)
      case atStart => exact ⟨0, by omega, rfl, drewN_below (Below.refl _ _) _⟩
      case round =>
        obtain ⟨k, hk, rfl, hbl⟩ := hrel
        have HB7 := Lib.hid hbl
        have z6 := hbl.size
        clear hbl
        by_cases hle : (k : Int) ≤ st
        · obtain ⟨s, hs⟩ : ∃ s : Int, max (3 : Int) (k : Int) = s := ⟨_, rfl⟩
          have hs3 : 3 ≤ s := by rw [Int.max_def] at hs; split at hs <;> omega
          have hs6 : s ≤ 60 := by rw [Int.max_def] at hs; split at hs <;> omega
          have hsk : 3 ≤ k → s = (k : Int) := fun h => by rw [Int.max_def] at hs; split at hs <;> omega
          have HSK := Lib.hid hsk
          clear hsk
          go_wp2_with fail
          refine (countA_s s A1 N c1 Y bs _ hNm (SLY.out _ (HB6.out.trans (HB7.out.mono HB6.out.size))) (by unfold laidB; rw [inB_yes hs3 hs6, R.b]; rfl) HBS.out).mono ?_
          rintro e w7 ⟨rfl, hb7⟩
          have z7 := hb7.size
          have R7 := Lib.hid ((R5.out.below HB7.out (Nat.le_refl _)).below hb7 z6)
          have HB8 := Lib.hid (HB7.out.trans (hb7.mono z6))
          have HH := Lib.hid (HF.out.has k hle)
          clear hb7 hs hs3 hs6
          by_cases h3 : 3 ≤ k
          · have h3' : (3 : Int) ≤ (k : Int) := by omega
            have hq : ((((abv Y s bs N).length : Nat) : Int) == 0) = frm (fitB Y N bs) k := by
              rw [HSK.out h3]
              unfold frm fitB
              rw [decide_eq_true h3, Bool.true_and, Bool.eq_iff_iff]
              simp
            generalize (abv Y s bs N).length = M at *
            generalize frm (fitB Y N bs) k = z at *
            go_wp2_with (go_at_call 31; refine (a2Has_c A5 l.length c5 (fun j => l.getD j 0) k z _ hlen R7.out.sl HH.out).mono ?_; rintro e w8 ⟨rfl, rfl⟩)
            go_roundw
            case rel => exact ⟨k + 1, by omega, by go_num, HB8.out⟩
            case measure => simp [intOf]; omega
          · have h3' : ¬ (3 : Int) ≤ (k : Int) := by omega
            have hq : frm (fitB Y N bs) k = false := by unfold frm; rw [decide_eq_false h3]; rfl
            rw [hq] at HH
            generalize (abv Y s bs N).length = M at *
            clear hq
            go_wp2_with (go_at_call 31; refine (a2Has_c A5 l.length c5 (fun j => l.getD j 0) k false _ hlen R7.out.sl HH.out).mono ?_; rintro e w8 ⟨rfl, rfl⟩)
            go_roundw
            case rel => exact ⟨k + 1, by omega, by go_num, HB8.out⟩
            case measure => simp [intOf]; omega
        · have HB9 := Lib.hid (HB2.out.trans ((HB6.out.trans (HB7.out.mono HB6.out.size)).mono z2))
          go_wp2
          go_ret
          exact ⟨rfl, HB9.out⟩

end Go.Proofs.Ytjemhkjfahoelaa.jns
