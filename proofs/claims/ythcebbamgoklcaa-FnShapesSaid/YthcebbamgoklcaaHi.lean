/-
  StakesRange and OneNumber of the model. No condition of a statement lies here.
-/
import Derived.Test.YthcebbamgoklcaaHh
import Derived.Test.YthcebbamgoklcaaOpen
import Derived.Test.YthcebbamgoklcaaNums
import Derived.Test.YthcebbamgoklcaaIn
namespace Go.Proofs.Ythcebbamgoklcaa.shp
open Go.ChangeShapes Go.WideShapes Go.ChangeAt Go.RowKit Go.Proofs.Ythcebbamgoklcaa.mem Go.Proofs.Ythcebbamgoklcaa.rod Go.Proofs.Ythcebbamgoklcaa.nums
set_option linter.unusedVariables false
set_option maxRecDepth 100000

theorem good_s (a s lo hi : Int) (w : World) (a0 : 1 ≤ a) (a1 : a ≤ 5000) (s0 : 0 ≤ s) (s1 : s ≤ 60) (h : aptB lo hi = true) :
    Calls Try.prog 56 #[.int .i64 a, .int .i64 s, .int .i64 lo, .int .i64 hi] w fun e w' => e = .returned (.bool (goodB a lo hi s)) ∧ w = w' := by
  obtain ⟨l0, l1, h1⟩ := aptB_of h
  have m1 := mul_bd (a := s) (b := lo) (h := 60) (k := 200) (by omega) (by omega) (by omega) (by omega)
  have m2 := mul_bd (a := s) (b := hi) (h := 60) (k := 200) (by omega) (by omega) (by omega) (by omega)
  have e1 : IntKind.i64.wrap (lo * s) = s * lo := by rw [Int.mul_comm, IntKind.wrap_i64]; omega
  have e2 : IntKind.i64.wrap (hi * s) = s * hi := by rw [Int.mul_comm, IntKind.wrap_i64]; omega
  unfold goodB inB
  obtain ⟨m10, m11⟩ := m1
  obtain ⟨m20, m21⟩ := m2
  rw [Int.mul_comm s lo] at *
  rw [Int.mul_comm s hi] at *
  by_cases c1 : lo * s ≤ a
  · by_cases c2 : a ≤ hi * s
    · rw [decide_eq_true ⟨c1, c2⟩]
      go_enter Try.func56, Try.ntmps56
      go_wp2
      go_ret
      exact ⟨rfl, rfl⟩
    · rw [decide_eq_false (fun h => c2 h.2)]
      go_enter Try.func56, Try.ntmps56
      go_wp2
      go_ret
      exact ⟨rfl, rfl⟩
  · rw [decide_eq_false (fun h => c1 h.1)]
    go_enter Try.func56, Try.ntmps56
    go_wp2
    go_ret
    exact ⟨rfl, rfl⟩

/-- the code of levels and bounds -/
def codeH (n : Nat) (X : Nat → Int) (lo hi : Int) : Int := if shpB n X then (if aptB lo hi then 0 else 2) else 1
theorem codeH_no {n : Nat} {X : Nat → Int} {lo hi code : Int} (hv : shpB n X = false ∧ code = 1 ∨ shpB n X = true ∧ aptB lo hi = false ∧ code = 2) : codeH n X lo hi = code := by
  unfold codeH
  rcases hv with ⟨h, rfl⟩ | ⟨h, k, rfl⟩
  · rw [h]; rfl
  · rw [h, k]; rfl
theorem codeH_ok {n : Nat} {X : Nat → Int} {lo hi : Int} (h : shpB n X = true) (k : aptB lo hi = true) : codeH n X lo hi = 0 := by unfold codeH; rw [h, k]; rfl
set_option maxHeartbeats 1000000 in
theorem code_s (A : Option Addr) (n c : Nat) (X : Nat → Int) (lo hi : Int) (w : World) (hn : n ≤ maxLen) (hr : Sl w A n 1 X) :
    Calls Try.prog 55 #[.slice A n c, .int .i64 lo, .int .i64 hi] w fun e w' => e = .returned (.int .i64 (codeH n X lo hi)) ∧ w = w' := by
  have HR := Lib.hid hr
  clear hr
  cases h1 : shpB n X
  · rw [codeH_no (.inl ⟨h1, rfl⟩)]
    go_enter Try.func55, Try.ntmps55
    go_wp2_with (go_at_call 41; refine (okH_s A n c X _ hn (Sl.below HR.out (K := w.heap.size) (by go_grown) (Nat.le_refl _))).mono ?_; rintro e w' ⟨rfl, rfl⟩)
    go_ret
    exact ⟨rfl, rfl⟩
  cases h2 : aptB lo hi
  · rw [codeH_no (.inr ⟨h1, h2, rfl⟩)]
    go_enter Try.func55, Try.ntmps55
    go_wp2_with (first | (go_at_call 41; refine (okH_s A n c X _ hn (Sl.below HR.out (K := w.heap.size) (by go_grown) (Nat.le_refl _))).mono ?_; rintro e w' ⟨rfl, rfl⟩) | (go_at_call 50; refine (apart_s _ _ _).mono ?_; rintro e w' ⟨rfl, rfl⟩))
    go_ret
    exact ⟨rfl, rfl⟩
  · rw [codeH_ok h1 h2]
    go_enter Try.func55, Try.ntmps55
    go_wp2_with (first | (go_at_call 41; refine (okH_s A n c X _ hn (Sl.below HR.out (K := w.heap.size) (by go_grown) (Nat.le_refl _))).mono ?_; rintro e w' ⟨rfl, rfl⟩) | (go_at_call 50; refine (apart_s _ _ _).mono ?_; rintro e w' ⟨rfl, rfl⟩))
    go_ret
    exact ⟨rfl, rfl⟩

def mxI (a b : Int) : Int := if b < a then a else b
def mnI (a b : Int) : Int := if a < b then a else b
theorem max_s (a b : Int) (w : World) : Calls Try.prog 51 #[.int .i64 a, .int .i64 b] w fun e w' => e = .returned (.int .i64 (mxI a b)) ∧ w = w' := by
  unfold mxI
  by_cases h : b < a
  · rw [if_pos h]
    go_enter Try.func51, Try.ntmps51
    go_wp2
    go_ret
    exact ⟨rfl, rfl⟩
  · rw [if_neg h]
    go_enter Try.func51, Try.ntmps51
    go_wp2
    go_ret
    exact ⟨rfl, rfl⟩
theorem min_s (a b : Int) (w : World) : Calls Try.prog 52 #[.int .i64 a, .int .i64 b] w fun e w' => e = .returned (.int .i64 (mnI a b)) ∧ w = w' := by
  unfold mnI
  by_cases h : a < b
  · rw [if_pos h]
    go_enter Try.func52, Try.ntmps52
    go_wp2
    go_ret
    exact ⟨rfl, rfl⟩
  · rw [if_neg h]
    go_enter Try.func52, Try.ntmps52
    go_wp2
    go_ret
    exact ⟨rfl, rfl⟩

set_option maxHeartbeats 1000000 in
theorem range_s_no (a lo hi : Int) (w : World) (hv : (inB a 1 5000 && aptB lo hi) = false) :
    Calls Try.prog 21 #[.int .i64 a, .int .i64 lo, .int .i64 hi] w fun e w' => e = .returned (.tuple #[.int .i64 0, .int .i64 0, .int .i64 2]) ∧ Below w.heap.size w w' := by
  cases k0 : inB a 1 5000
  · clear hv
    go_enter Try.func21, Try.ntmps21
    go_wp2_with (first | (go_at_call 45; refine (in_s _ _ _ _).mono ?_; rintro e w' ⟨rfl, rfl⟩) | (go_at_call 50; refine (apart_s _ _ _).mono ?_; rintro e w' ⟨rfl, rfl⟩))
    go_returns
    exact ⟨rfl, Below.refl _ _⟩
  · have k1 : aptB lo hi = false := by rw [k0, Bool.true_and] at hv; exact hv
    clear hv
    go_enter Try.func21, Try.ntmps21
    go_wp2_with (first | (go_at_call 45; refine (in_s _ _ _ _).mono ?_; rintro e w' ⟨rfl, rfl⟩) | (go_at_call 50; refine (apart_s _ _ _).mono ?_; rintro e w' ⟨rfl, rfl⟩))
    go_returns
    exact ⟨rfl, Below.refl _ _⟩

theorem good_iff {a lo hi s : Int} (l0 : 1 ≤ lo) (h0 : 1 ≤ hi) : goodB a lo hi s = true ↔ (a + hi - 1) / hi ≤ s ∧ s ≤ a / lo := by
  unfold goodB inB
  rw [decide_eq_true_eq, Int.le_ediv_iff_mul_le (by omega)]
  constructor
  · rintro ⟨h1, h2⟩
    refine ⟨?_, h1⟩
    have : (a + hi - 1) / hi < s + 1 := Int.ediv_lt_of_lt_mul (by omega) (by rw [Int.add_mul]; omega)
    omega
  · rintro ⟨h1, h2⟩
    refine ⟨h2, ?_⟩
    have h3 : a + hi - 1 < (s + 1) * hi := Int.lt_mul_of_ediv_lt (by omega) (by omega)
    rw [Int.add_mul] at h3
    omega

set_option maxHeartbeats 2000000 in
theorem range_s (a lo hi u v code : Int) (w : World) (k0 : inB a 1 5000 = true) (k1 : aptB lo hi = true) (he : Ends (goodB a lo hi) u v code) :
    Calls Try.prog 21 #[.int .i64 a, .int .i64 lo, .int .i64 hi] w fun e w' => e = .returned (.tuple #[.int .i64 u, .int .i64 v, .int .i64 code]) ∧ Below w.heap.size w w' := by
  obtain ⟨a0, a1⟩ := inB_of k0
  obtain ⟨l0, l1, h1⟩ := aptB_of k1
  have hgo : ∀ s, goodB a lo hi s = true ↔ (a + hi - 1) / hi ≤ s ∧ s ≤ a / lo := fun s => good_iff l0 (by omega)
  have b1 : 0 ≤ (a + hi - 1) / hi := Int.ediv_nonneg (by omega) (by omega)
  have b2 : (a + hi - 1) / hi ≤ a + hi - 1 := Int.ediv_le_self _ (by omega)
  have b3 : 0 ≤ a / lo := Int.ediv_nonneg (by omega) (by omega)
  have b4 : a / lo ≤ a := Int.ediv_le_self _ (by omega)
  have t1 : (a + hi - 1).tdiv hi = (a + hi - 1) / hi := Int.tdiv_eq_ediv_of_nonneg (by omega)
  have t2 : a.tdiv lo = a / lo := Int.tdiv_eq_ediv_of_nonneg (by omega)
  have key : (u = mxI 3 ((a + hi - 1) / hi) ∧ v = mnI 60 (a / lo) ∧ code = 0 ∧ mxI 3 ((a + hi - 1) / hi) ≤ mnI 60 (a / lo)) ∨ (u = 0 ∧ v = 0 ∧ code = 3 ∧ mnI 60 (a / lo) < mxI 3 ((a + hi - 1) / hi)) := by
    generalize (a + hi - 1) / hi = L at *
    generalize a / lo = M at *
    have hx : mxI 3 L = if L < 3 then 3 else L := rfl
    have hy : mnI 60 M = if 60 < M then 60 else M := rfl
    rcases he with ⟨i, j, hij, h58, rfl, rfl, rfl, pi, pj, hi1, hj1⟩ | ⟨rfl, rfl, rfl, hno⟩
    · have q1 := (hgo _).1 pi
      have q2 := (hgo _).1 pj
      have q3 : i = 0 ∨ ¬ (L ≤ 3 + ((i - 1 : Nat) : Int) ∧ 3 + ((i - 1 : Nat) : Int) ≤ M) := by
        by_cases e : i = 0
        · exact .inl e
        · exact .inr fun h => by have := (hgo _).2 h; rw [hi1 (i - 1) (by omega)] at this; cases this
      have q4 : j = 57 ∨ ¬ (L ≤ 3 + ((j + 1 : Nat) : Int) ∧ 3 + ((j + 1 : Nat) : Int) ≤ M) := by
        by_cases e : j = 57
        · exact .inl e
        · exact .inr fun h => by have := (hgo _).2 h; rw [hj1 (j + 1) (by omega) (by omega)] at this; cases this
      left
      rw [hx, hy]
      refine ⟨?_, ?_, rfl, ?_⟩
      · split <;> omega
      · split <;> omega
      · split <;> split <;> omega
    · right
      refine ⟨rfl, rfl, rfl, ?_⟩
      rw [hx, hy]
      apply Int.not_le.1
      intro hc
      have key : ∀ s : Int, 3 ≤ s → s ≤ 60 → ¬ (L ≤ s ∧ s ≤ M) := fun s s0 s1 h => by
        have := hno (s - 3).toNat (by omega)
        rw [show 3 + (((s - 3).toNat : Nat) : Int) = s by omega] at this
        rw [(hgo s).2 h] at this
        cases this
      by_cases c1 : L < 3
      · rw [if_pos c1] at hc
        refine key 3 (by omega) (by omega) ⟨by omega, ?_⟩
        split at hc <;> omega
      · rw [if_neg c1] at hc
        refine key L (by omega) ?_ ⟨by omega, ?_⟩ <;> (split at hc <;> omega)
  clear hgo he
  have hz : ¬ hi = 0 := by omega
  have hz2 : ¬ lo = 0 := by omega
  have hz3 : (hi == 0) = false := by simpa using hz
  have hz4 : (lo == 0) = false := by simpa using hz2
  have KEY := Lib.hid key
  clear key
  generalize hL : (a + hi - 1) / hi = L at *
  generalize hM : a / lo = M at *
  have HL := Lib.hid hL
  have HM := Lib.hid hM
  clear hL hM
  go_enter Try.func21, Try.ntmps21
  go_wp2_with (first | (go_at_call 45; refine (in_s _ _ _ _).mono ?_; rintro e w' ⟨rfl, rfl⟩) | (go_at_call 50; refine (apart_s _ _ _).mono ?_; rintro e w' ⟨rfl, rfl⟩))
  refine (max_s _ _ _).mono ?_
  rintro e w' ⟨rfl, rfl⟩
  go_wp2_with fail
  refine (min_s _ _ _).mono ?_
  rintro e w' ⟨rfl, rfl⟩
  rcases KEY.out with ⟨rfl, rfl, rfl, hle⟩ | ⟨rfl, rfl, rfl, hlt⟩
  · generalize hp : mxI 3 L = p at *
    generalize hq : mnI 60 M = q at *
    have HP := Lib.hid hp
    have HQ := Lib.hid hq
    clear hp hq
    have hnot : ¬ q < p := by omega
    go_wp2
    go_returns
    exact ⟨by rw [HP.out, HQ.out]; rfl, Below.refl _ _⟩
  · generalize mxI 3 L = p at *
    generalize mnI 60 M = q at *
    go_wp2
    go_returns
    exact ⟨rfl, Below.refl _ _⟩

set_option maxHeartbeats 1000000 in
theorem one_s_no (A : Option Addr) (n c : Nat) (X : Nat → Int) (lo hi code : Int) (w : World) (hn : n ≤ maxLen) (hr : Sl w A n 1 X) (hv : shpB n X = false ∧ code = 1 ∨ shpB n X = true ∧ aptB lo hi = false ∧ code = 2) :
    Calls Try.prog 29 #[.slice A n c, .int .i64 lo, .int .i64 hi] w fun e w' => e = .returned (.tuple #[.int .i64 0, .int .i64 code]) ∧ Below w.heap.size w w' := by
  have hcode : (code == 0) = false ∧ (code != 0) = true := by rcases hv with ⟨_, rfl⟩ | ⟨_, _, rfl⟩ <;> exact ⟨rfl, rfl⟩
  obtain ⟨q1, q2⟩ := hcode
  have HV := Lib.hid (codeH_no hv)
  clear hv
  go_enter Try.func29, Try.ntmps29
  go_wp2_with fail
  refine (code_s A n c X lo hi _ hn hr).mono ?_
  rintro e w' ⟨rfl, rfl⟩
  rw [HV.out]
  go_wp2
  go_returns
  exact ⟨rfl, Below.refl _ _⟩

set_option maxHeartbeats 2000000 in
theorem one_s (A : Option Addr) (n c : Nat) (X : Nat → Int) (lo hi u v code : Int) (w : World) (hn : n ≤ maxLen) (hr : Sl w A n 1 X) (hv : shpB n X = true) (ha : aptB lo hi = true) (he : Ends (fun s => okAll (rsp X lo hi) s n) u v code) :
    Calls Try.prog 29 #[.slice A n c, .int .i64 lo, .int .i64 hi] w fun e w' => e = .returned (.tuple #[.int .i64 u, .int .i64 code]) ∧ Below w.heap.size w w' := by
  have HV := Lib.hid (codeH_ok hv ha)
  have HA := Lib.hid ha
  obtain ⟨n0, n12, hX⟩ := shpB_of hv
  have HE := Lib.hid he
  have HR := Lib.hid hr
  obtain ⟨b, o, rfl, hb, hI⟩ := hr (by omega)
  have HI := Lib.hid hI
  have HX := Lib.hid hX
  clear he hv ha hI hX
  go_enter Try.func29, Try.ntmps29
  go_wp2_with fail
  refine (code_s _ n c X lo hi _ hn HR.out).mono ?_
  rintro e w' ⟨rfl, rfl⟩
  rw [HV.out]
  go_wp2_with fail
  go_loop [9] (fun s => ∃ k : Nat, k ≤ 58 ∧ s = .int .i64 (3 + (k : Int)) ∧ Hid (∀ m : Nat, m < k → okAll (rsp X lo hi) (3 + (m : Int)) n = false)) (fun s => (61 - intOf s).toNat)
  case atStart => exact ⟨0, by omega, rfl, fun m hm => absurd hm (by omega)⟩
  case round =>
    obtain ⟨k, hk, rfl, HN⟩ := hrel
    by_cases h58 : k < 58
    · have h58' : 3 + (k : Int) ≤ 60 := by omega
      have hd : decide (3 + (k : Int) ≤ 60) = true := by simp; omega
      rename_i K1 Q1 _
      go_wp2_with fail
      go_loop [10, 11] (fun g t => ∃ i : Nat, i ≤ n ∧ t = .int .i64 i ∧ g = .bool (okAll (rsp X lo hi) (3 + (k : Int)) i)) (fun _ t => n - (intOf t).toNat)
      case atStart => exact ⟨0, by omega, rfl, rfl⟩
      case round =>
        obtain ⟨i, hii, rfl, rfl⟩ := hrel
        by_cases hlt : i < n
        · have hlt' : (i : Int) < (n : Int) := by omega
          have hi0 : (0 : Int) ≤ (i : Int) := by omega
          have h0 := HI.out i (by omega)
          have x0 := HX.out i hlt
          have HS := Lib.hid (show okAll (rsp X lo hi) (3 + (k : Int)) (i + 1) = (okAll (rsp X lo hi) (3 + (k : Int)) i && goodB (X i) lo hi (3 + (k : Int))) from rfl)
          cases hg : okAll (rsp X lo hi) (3 + (k : Int)) i
          · have HG := Lib.hid hg
            clear hg
            go_wp2
            go_round
            case rel => exact ⟨i + 1, by omega, by go_num, by rw [HS.out, HG.out]; rfl⟩
            case measure => simp [intOf]; omega
          · have HG := Lib.hid hg
            clear hg
            go_wp2_with (go_at_call 56; refine (good_s (X i) (3 + (k : Int)) lo hi _ x0.1 x0.2 (by omega) (by omega) HA.out).mono ?_; rintro e w' ⟨rfl, rfl⟩)
            go_round
            case rel => exact ⟨i + 1, by omega, by go_num, by rw [HS.out, HG.out]; rfl⟩
            case measure => simp [intOf]; omega
        · obtain rfl : n = i := by omega
          cases hg : okAll (rsp X lo hi) (3 + (k : Int)) n
          · have HM := Lib.hid (show ∀ m : Nat, m < k + 1 → okAll (rsp X lo hi) (3 + (m : Int)) n = false from fun m hm => by
              by_cases e : m = k
              · subst e; exact hg
              · exact HN.out m (by omega))
            clear hg
            go_wp2
            go_round
            case rel => exact ⟨k + 1, by omega, by simp <;> omega, HM.out⟩
            case measure => simp [intOf]; omega
          · have HU := Lib.hid (show u = 3 + (k : Int) ∧ code = 0 by
              rcases HE.out with ⟨i, j, hij, h58, rfl, rfl, rfl, pi, pj, hi1, hj1⟩ | ⟨rfl, rfl, rfl, hno⟩
              · have e1 : ¬ i < k := fun h => absurd (pi.symm.trans (HN.out i h)) (by decide)
                have e2 : ¬ k < i := fun h => absurd (hg.symm.trans (hi1 k h)) (by decide)
                exact ⟨by omega, rfl⟩
              · exact absurd (hg.symm.trans (hno k (by omega))) (by decide))
            clear hg
            go_wp2
            go_returns
            exact ⟨by rw [HU.out.1, HU.out.2]; rfl, Below.refl _ _⟩
    · obtain rfl : k = 58 := by omega
      have HU := Lib.hid (show u = 0 ∧ code = 3 by
        rcases HE.out with ⟨i, j, hij, h58, rfl, rfl, rfl, pi, pj, hi1, hj1⟩ | ⟨rfl, rfl, rfl, hno⟩
        · exact absurd (pi.symm.trans (HN.out i (by omega))) (by decide)
        · exact ⟨rfl, rfl⟩)
      go_wp2
      go_returns
      exact ⟨by rw [HU.out.1, HU.out.2]; rfl, Below.refl _ _⟩

end Go.Proofs.Ythcebbamgoklcaa.shp
