/-
  Contracts of the places of joins, of JoinsOf and of RoundsLaid, of the model and of the program. No condition of a statement lies here.
-/
import Derived.BigQuiet
import Derived.Test.YtjemhkjfahoelaaJa
namespace Go.Proofs.Ytjemhkjfahoelaa.jns
open Go.ChangeShapes Go.WideShapes Go.ChangeAt Go.RowKit Go.Proofs.Ytjemhkjfahoelaa.mem Go.Proofs.Ytjemhkjfahoelaa.rod Go.Proofs.Ytjemhkjfahoelaa.nums
set_option linter.unusedVariables false
set_option maxRecDepth 100000

theorem row_jl {w : World} {B : Nat} {X : Nat → Int} {m : Nat} {v : Value} (h : w.ownsRow B 2 1 v (jl X m).length ((jl X m).map (Value.int .i64))) :
    ∃ A c, v = .slice A m c ∧ m ≤ c ∧ c ≤ maxLen ∧ Row w B w.heap.size A m 1 2 (fun j => ps X (j + 1)) := by
  obtain ⟨A, c, h1, h2, h3, h4⟩ := row_of_owns h
  rw [jl_len] at h1 h2 h4
  exact ⟨A, c, h1, h2, h3, h4.congr (fun j hj => jl_at (by omega))⟩

set_option maxHeartbeats 1000000 in
theorem sum_s (A : Option Addr) (n c : Nat) (X : Nat → Int) (w : World) (R : Rds n X) (hr : Sl w A n 1 X) :
    Calls Try.prog 38 #[.slice A n c] w fun e w' => e = .returned (.int .i64 (ps X n)) ∧ w = w' := by
  have HR := Lib.hid hr
  clear hr
  have hn := R.le
  go_enter Try.func38, Try.ntmps38
  go_wp2_with fail
  go_loop [3, 4] (fun s t => ∃ k : Nat, k ≤ n ∧ t = .int .i64 k ∧ s = .int .i64 (ps X k)) (fun s t => n - (intOf t).toNat)
  case atStart => exact ⟨0, by omega, rfl, rfl⟩
  case round =>
    obtain ⟨k, hk, rfl, rfl⟩ := hrel
    by_cases hlt : k < n
    · have hlt' : (k : Int) < (n : Int) := by omega
      obtain ⟨b, o, rfl, hb, hX⟩ := HR.out (by omega)
      have h0 := hX k (by omega)
      have x0 := R.at_ k hlt
      have p0 := ps_top R hk
      have HN := Lib.hid (show ps X (k + 1) = ps X k + X k from rfl)
      clear hX
      obtain ⟨x1, x2⟩ := x0
      obtain ⟨p1, p2⟩ := p0
      generalize hP : ps X k = p at *
      go_wp2
      go_round
      case rel => exact ⟨k + 1, by omega, by go_num, by rw [HN.out]⟩
      case measure => simp [intOf]; omega
    · obtain rfl : k = n := by omega
      go_wp2
      go_ret
      exact ⟨rfl, rfl⟩

set_option maxHeartbeats 2000000 in
theorem joins_s (A : Option Addr) (n c : Nat) (X : Nat → Int) (w : World) (R : Rds n X) (hr : Sl w A n 1 X) :
    Calls Try.prog 36 #[.slice A n c] w fun e w' => ∃ A' c', e = .returned (.slice A' (n - 1) c') ∧ n - 1 ≤ c' ∧ c' ≤ maxLen ∧ Row w' w.heap.size w'.heap.size A' (n - 1) 1 2 (fun j => ps X (j + 1)) ∧ Below w.heap.size w w' := by
  have HR := Lib.hid hr
  clear hr
  have hn := R.le
  obtain ⟨i0, hi0, hz0, hz1, hz2⟩ := info_parts info_num
  go_enter Try.func36, Try.ntmps36
  go_wp2_with fail
  go_loopw [3, 4, 5] (fun v p s wr => ∃ k : Nat, k ≤ n - 1 ∧ s = .int .i64 k ∧ p = .int .i64 (ps X k) ∧ Hid (wr.ownsRow w.heap.size 2 1 v (jl X k).length ((jl X k).map (Value.int .i64))) ∧ Below w.heap.size w wr) (fun _ _ s _ => n - (intOf s).toNat)
  case atStart => exact ⟨0, by omega, rfl, rfl, owns_empty w w.heap.size 2 (Nat.le_refl _), by go_grown⟩
  case round =>
    obtain ⟨k, hk, rfl, rfl, hown, hbl⟩ := hrel
    have HB := Lib.hid hbl
    have hzz := hbl.size
    clear hbl
    by_cases hlt : k + 1 < n
    · have hlt' : ((k + 1 : Nat) : Int) < (n : Int) := by omega
      have hlt2 : (k : Int) + 1 < (n : Int) := by omega
      have hlt3 : (k : Int) < (n : Int) := by omega
      obtain ⟨b, o, rfl, hb, hX⟩ := HR.out (by omega)
      have h0 := (hX.below HB.out hb) k (by omega)
      have x0 := R.at_ k (by omega)
      have p0 := ps_top R (k := k) (by omega)
      have HN := Lib.hid (show ps X (k + 1) = ps X k + X k from rfl)
      have HJ := Lib.hid (jl_snoc X k)
      have hlen := Nat.le_of_eq (jl_len X k)
      have hl1 : (jl X k).length + 1 ≤ maxLen := by unfold maxLen; omega
      have hl2 : ((jl X k).length + 1) * 8 ≤ 140737488355328 := by omega
      clear hX
      obtain ⟨x1, x2⟩ := x0
      obtain ⟨p1, p2⟩ := p0
      generalize hP : ps X k = q at *
      generalize hL : jl X k = l at *
      have HL := Lib.hid hL
      have HP := Lib.hid hP
      clear hL hP
      go_wp2_with (at_builtin; refine wpList_append_own _ rfl _ _ 22 rfl w.heap.size 2 i0 (.int .i64 0) 1 8 Try.underlying22 hi0 hz0 hz1 hz2 rfl (by decide) _ _ _ rfl (hown.out.alloc _) ⟨wr.heap.size, 0, none⟩ 1 1 [.int .i64 (q + X k)] rfl rfl ?c1 ?c2 hl1 hl2 ?c5 ?_)
      case c1 => intro j u hj; rcases j with _ | j <;> simp at hj; subst hj; go_simp
      case c2 => intro u hu; simp at hu; subst hu; rfl
      case c5 => simp <;> omega
      intro v' w1 hown1 hgrow1 _
      have g1 : Below w.heap.size w w1 := Below.grown (HB.out.alloc hzz _) hgrow1 (by simp; omega) (owns_block hown.out)
      have HO := Lib.hid (owns_snoc hown1)
      clear hown1 hgrow1
      go_wp2
      go_roundw
      case rel => exact ⟨k + 1, by omega, by go_num, by rw [HN.out], by rw [HJ.out, HN.out]; exact HO.out, g1⟩
      case measure => simp [intOf]; omega
    · obtain rfl : n - 1 = k := by omega
      obtain ⟨A', c', rfl, hc1, hc2, hrow⟩ := row_jl hown.out
      have hlt2 : ¬ ((n - 1 : Nat) : Int) + 1 < (n : Int) := by omega
      have HW := Lib.hid hrow
      clear hrow
      go_wp2
      go_ret
      exact ⟨_, _, rfl, by omega, hc2, HW.out, HB.out⟩

set_option maxHeartbeats 2000000 in
theorem places_i (st : Int) (A : Option Addr) (n c : Nat) (X : Nat → Int) (w : World) (R : Rds n X) (hr : Sl w A n 1 X) :
    Calls Try.prog 37 #[.agg #[.int .i64 st, .slice A n c]] w fun e w' => ∃ A' c', e = .returned (.tuple #[.slice A' (n - 1) c', .int .i64 (ps X n)]) ∧ n - 1 ≤ c' ∧ c' ≤ maxLen ∧ Row w' w.heap.size w'.heap.size A' (n - 1) 1 2 (fun j => ps X (j + 1)) ∧ Below w.heap.size w w' := by
  have HR := Lib.hid hr
  clear hr
  have hn := R.le
  obtain ⟨i0, hi0, hz0, hz1, hz2⟩ := info_parts info_num
  go_enter Try.func37, Try.ntmps37
  go_wp2_with fail
  go_loopw [4, 5, 11] (fun v p s wr => ∃ k : Nat, k ≤ n ∧ s = .int .i64 k ∧ p = .int .i64 (ps X k) ∧ Hid (wr.ownsRow w.heap.size 2 1 v (jl X (k - 1)).length ((jl X (k - 1)).map (Value.int .i64))) ∧ Below w.heap.size w wr) (fun _ _ s _ => n - (intOf s).toNat)
  case atStart => exact ⟨0, by omega, rfl, rfl, owns_nil _ w.heap.size 2, by go_grown⟩
  case round =>
    obtain ⟨k, hk, rfl, rfl, hown, hbl⟩ := hrel
    have HB := Lib.hid hbl
    have hzz := hbl.size
    clear hbl
    by_cases hlt : k < n
    · have hlt' : (k : Int) < (n : Int) := by omega
      obtain ⟨b, o, rfl, hb, hX⟩ := HR.out (by omega)
      have h0 := (hX.below HB.out hb) k (by omega)
      have x0 := R.at_ k (by omega)
      have p0 := ps_top R (k := k) (by omega)
      have HN := Lib.hid (show ps X (k + 1) = ps X k + X k from rfl)
      clear hX
      obtain ⟨x1, x2⟩ := x0
      obtain ⟨p1, p2⟩ := p0
      by_cases hz : k = 0
      · have hz' : ¬ (0 : Int) < (k : Int) := by omega
        generalize hP : ps X k = q at *
        have HP := Lib.hid hP
        have HJ := Lib.hid (show jl X (k + 1 - 1) = jl X (k - 1) by rw [hz])
        clear hP hz
        go_wp2
        go_roundw
        case rel => exact ⟨k + 1, by omega, by go_num, by rw [HN.out], by rw [HJ.out]; exact hown.out, HB.out⟩
        case measure => simp [intOf]; omega
      · have hz' : (0 : Int) < (k : Int) := by omega
        obtain ⟨m, hm⟩ : ∃ m, k = m + 1 := ⟨k - 1, by omega⟩
        have HJ := Lib.hid (show jl X (k + 1 - 1) = jl X (k - 1) ++ [ps X k] by rw [hm]; exact jl_snoc X m)
        have hlen := Nat.le_of_eq (jl_len X (k - 1))
        have hl1 : (jl X (k - 1)).length + 1 ≤ maxLen := by unfold maxLen; omega
        have hl2 : ((jl X (k - 1)).length + 1) * 8 ≤ 140737488355328 := by omega
        clear hm m
        generalize hP : ps X k = q at *
        generalize hL : jl X (k - 1) = l at *
        have HL := Lib.hid hL
        have HP := Lib.hid hP
        clear hL hP hz
        go_wp2_with (at_builtin; refine wpList_append_own _ rfl _ _ 22 rfl w.heap.size 2 i0 (.int .i64 0) 1 8 Try.underlying22 hi0 hz0 hz1 hz2 rfl (by decide) _ _ _ rfl (hown.out.alloc _) ⟨wr.heap.size, 0, none⟩ 1 1 [.int .i64 q] rfl rfl ?c1 ?c2 hl1 hl2 ?c5 ?_)
        case c1 => intro j u hj; rcases j with _ | j <;> simp at hj; subst hj; go_simp
        case c2 => intro u hu; simp at hu; subst hu; rfl
        case c5 => simp <;> omega
        intro v' w1 hown1 hgrow1 _
        have g1 : Below w.heap.size w w1 := Below.grown (HB.out.alloc hzz _) hgrow1 (by simp; omega) (owns_block hown.out)
        have HO := Lib.hid (owns_snoc hown1)
        clear hown1 hgrow1
        go_wp2
        go_roundw
        case rel => exact ⟨k + 1, by omega, by go_num, by rw [HN.out], by rw [HJ.out]; exact HO.out, g1⟩
        case measure => simp [intOf]; omega
    · obtain rfl : n = k := by omega
      obtain ⟨A', c', rfl, hc1, hc2, hrow⟩ := row_jl hown.out
      have HW := Lib.hid hrow
      clear hrow
      go_wp2
      go_ret2
      exact ⟨_, _, rfl, hc1, hc2, HW.out, HB.out⟩

set_option maxHeartbeats 1000000 in
theorem rounds_s_no (st : Int) (A : Option Addr) (n c : Nat) (X : Nat → Int) (w : World) (hn : n ≤ maxLen) (hr : Sl w A n 1 X) (hv : laidB st n X = false) :
    Calls Try.prog 18 #[.int .i64 st, .slice A n c] w fun e w' => e = .returned (.tuple #[.int .i64 0, .int .i64 0, .int .i64 1]) ∧ Below w.heap.size w w' := by
  have HR := Lib.hid hr
  clear hr
  go_enter Try.func18, Try.ntmps18
  go_wp2_with (go_at_call 32; refine (okL_s st A n c X _ hn (Sl.below HR.out (K := w.heap.size) (by go_grown) (Nat.le_refl _))).mono ?_; rintro e w' ⟨rfl, rfl⟩)
  go_returns
  exact ⟨rfl, by go_grown⟩

set_option maxHeartbeats 1000000 in
theorem rounds_s (st : Int) (A : Option Addr) (n c : Nat) (X : Nat → Int) (w : World) (hn : n ≤ maxLen) (hr : Sl w A n 1 X) (hv : laidB st n X = true) (h3 : 3 ≤ st) (h6 : st ≤ 60) (R : Rds n X) :
    Calls Try.prog 18 #[.int .i64 st, .slice A n c] w fun e w' => e = .returned (.tuple #[.int .i64 (ps X n / st), .int .i64 (ps X n % st), .int .i64 0]) ∧ Below w.heap.size w w' := by
  have HR := Lib.hid hr
  clear hr
  obtain ⟨p1, p2⟩ := ps_top R (Nat.le_refl n)
  go_enter Try.func18, Try.ntmps18
  go_wp2_with (go_at_call 32; refine (okL_s st A n c X _ hn (Sl.below HR.out (K := w.heap.size) (by go_grown) (Nat.le_refl _))).mono ?_; rintro e w' ⟨rfl, rfl⟩)
  refine (sum_s A n c X _ R (Sl.below HR.out (K := w.heap.size) (by go_grown) (Nat.le_refl _))).mono ?_
  rintro e w' ⟨rfl, rfl⟩
  generalize hP : ps X n = p at *
  have HP := Lib.hid hP
  clear hP
  have e1 : p.tdiv st = p / st := Int.tdiv_eq_ediv_of_nonneg p1
  have e2 : p.tmod st = p % st := Int.tmod_eq_emod_of_nonneg p1
  have d1 : 0 ≤ p / st := Int.ediv_nonneg p1 (by omega)
  have d2 : p / st ≤ p := Int.ediv_le_self st p1
  have d3 := Int.emod_nonneg p (show st ≠ 0 by omega)
  have d4 := Int.emod_lt_of_pos p (show 0 < st by omega)
  go_wp2_with fail
  go_quiet (fail)
  go_wp2
  go_returns
  exact ⟨by rw [HP.out]; simp, drewN_below (Below.refl _ _) _⟩

set_option maxHeartbeats 1000000 in
theorem rounds_i_no (st : Int) (A : Option Addr) (n c : Nat) (X : Nat → Int) (w : World) (hn : n ≤ maxLen) (hr : Sl w A n 1 X) (hv : laidB st n X = false) :
    Calls Try.prog 19 #[.int .i64 st, .slice A n c] w fun e w' => e = .returned (.tuple #[.int .i64 0, .int .i64 0, .int .i64 1]) ∧ Below w.heap.size w w' := by
  have HR := Lib.hid hr
  clear hr
  go_enter Try.func19, Try.ntmps19
  go_wp2_with (go_at_call 12; refine (ok_i st A n c X _ hn (Sl.below HR.out (K := w.heap.size) (by go_grown) (Nat.le_refl _))).mono ?_; rintro e w' ⟨rfl, rfl⟩)
  go_returns
  exact ⟨rfl, by go_grown⟩

set_option maxHeartbeats 1000000 in
theorem rounds_i (st : Int) (A : Option Addr) (n c : Nat) (X : Nat → Int) (w : World) (hn : n ≤ maxLen) (hr : Sl w A n 1 X) (hv : laidB st n X = true) (h3 : 3 ≤ st) (h6 : st ≤ 60) (R : Rds n X) :
    Calls Try.prog 19 #[.int .i64 st, .slice A n c] w fun e w' => e = .returned (.tuple #[.int .i64 (ps X n / st), .int .i64 (ps X n % st), .int .i64 0]) ∧ Below w.heap.size w w' := by
  have HR := Lib.hid hr
  clear hr
  obtain ⟨p1, p2⟩ := ps_top R (Nat.le_refl n)
  go_enter Try.func19, Try.ntmps19
  go_wp2_with (go_at_call 12; refine (ok_i st A n c X _ hn (Sl.below HR.out (K := w.heap.size) (by go_grown) (Nat.le_refl _))).mono ?_; rintro e w' ⟨rfl, rfl⟩)
  refine (places_i st A n c X _ R (Sl.below HR.out (K := w.heap.size) (by go_grown) (Nat.le_refl _))).mono ?_
  rintro e w1 ⟨A1, c1, rfl, k1, k2, hrow, hb1⟩
  have HB := Lib.hid hb1
  clear hrow hb1
  generalize hP : ps X n = p at *
  have HP := Lib.hid hP
  clear hP
  have e1 : p.tdiv st = p / st := Int.tdiv_eq_ediv_of_nonneg p1
  have e2 : p.tmod st = p % st := Int.tmod_eq_emod_of_nonneg p1
  have d1 : 0 ≤ p / st := Int.ediv_nonneg p1 (by omega)
  have d2 : p / st ≤ p := Int.ediv_le_self st p1
  have d3 := Int.emod_nonneg p (show st ≠ 0 by omega)
  have d4 := Int.emod_lt_of_pos p (show 0 < st by omega)
  go_wp2_with fail
  go_quiet (fail)
  go_wp2
  go_returns
  exact ⟨by rw [HP.out]; simp, drewN_below HB.out _⟩

end Go.Proofs.Ytjemhkjfahoelaa.jns
