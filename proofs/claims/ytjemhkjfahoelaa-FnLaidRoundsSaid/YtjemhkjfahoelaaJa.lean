/-
  Rods around stakes: places of joins, joins above others, and what is valid. No condition of a statement lies here.
-/
import Derived.Test.YtjemhkjfahoelaaOpen
import Derived.Test.YtjemhkjfahoelaaNums
import Derived.Test.YtjemhkjfahoelaaIn
import Derived.Test.YtjemhkjfahoelaaAppend
namespace Go.Proofs.Ytjemhkjfahoelaa.jns
open Go.ChangeShapes Go.WideShapes Go.ChangeAt Go.RowKit Go.Proofs.Ytjemhkjfahoelaa.mem Go.Proofs.Ytjemhkjfahoelaa.rod Go.Proofs.Ytjemhkjfahoelaa.nums
set_option linter.unusedVariables false
set_option maxRecDepth 100000

theorem _root_.Go.Proofs.Ytjemhkjfahoelaa.mem.Drew.below {w wr : World} (h : Drew w wr) : Below w.heap.size w wr := by obtain ⟨m, rfl⟩ := h; exact drewN_below (Below.refl _ _) m
/-- the first n numbers are within bounds -/
def allIn (l h : Int) (X : Nat → Int) : Nat → Bool
  | 0 => true
  | n + 1 => allIn l h X n && inB (X n) l h
theorem allIn_no {l h : Int} {X : Nat → Int} {k : Nat} : ∀ {n : Nat}, k < n → inB (X k) l h = false → allIn l h X n = false
  | 0, hk, _ => absurd hk (by omega)
  | n + 1, hk, hv => by
    unfold allIn
    by_cases e : k = n
    · subst e; rw [hv, Bool.and_false]
    · rw [allIn_no (by omega) hv, Bool.false_and]
theorem allIn_at {l h : Int} {X : Nat → Int} {k : Nat} : ∀ {n : Nat}, allIn l h X n = true → k < n → l ≤ X k ∧ X k ≤ h
  | 0, _, hk => absurd hk (by omega)
  | n + 1, hv, hk => by
    unfold allIn at hv
    rw [Bool.and_eq_true] at hv
    by_cases e : k = n
    · subst e; exact inB_of hv.2
    · exact allIn_at hv.1 (by omega)
theorem allIn_of {l h : Int} {X : Nat → Int} : ∀ {n : Nat}, (∀ k, k < n → l ≤ X k ∧ X k ≤ h) → allIn l h X n = true
  | 0, _ => rfl
  | n + 1, hv => by
    unfold allIn
    rw [allIn_of (fun k hk => hv k (by omega)), inB_yes (hv n (by omega)).1 (hv n (by omega)).2]; rfl
/-- these are rods -/
def rodsB (n : Nat) (X : Nat → Int) : Bool := decide (n ≤ 7) && allIn 1 200 X n
structure Rds (n : Nat) (X : Nat → Int) : Prop where
  le : n ≤ 7
  at_ : ∀ k, k < n → 1 ≤ X k ∧ X k ≤ 200
theorem rodsB_of {n : Nat} {X : Nat → Int} (h : rodsB n X = true) : Rds n X := by
  unfold rodsB at h
  simp only [Bool.and_eq_true, decide_eq_true_eq] at h
  exact ⟨h.1, fun k hk => allIn_at h.2 hk⟩
theorem Rds.b {n : Nat} {X : Nat → Int} (h : Rds n X) : rodsB n X = true := by unfold rodsB; rw [decide_eq_true h.le, allIn_of h.at_]; rfl
theorem rodsB_no {n : Nat} {X : Nat → Int} (h : allIn 1 200 X n = false) : rodsB n X = false := by unfold rodsB; simp [h]
/-- the sum of the first k rods -/
def ps (X : Nat → Int) : Nat → Int
  | 0 => 0
  | k + 1 => ps X k + X k
theorem ps_bd {n : Nat} {X : Nat → Int} (R : Rds n X) : ∀ {k : Nat}, k ≤ n → (k : Int) ≤ ps X k ∧ ps X k ≤ 200 * k
  | 0, _ => by unfold ps; omega
  | k + 1, hk => by
    have h1 := ps_bd R (k := k) (by omega)
    have h2 := R.at_ k (by omega)
    unfold ps
    omega
theorem ps_top {n : Nat} {X : Nat → Int} (R : Rds n X) {k : Nat} (hk : k ≤ n) : 0 ≤ ps X k ∧ ps X k ≤ 1400 := by
  have := ps_bd R hk
  have := R.le
  omega
/-- the places of the first m joins -/
def jl (X : Nat → Int) (m : Nat) : List Int := (List.range m).map fun i => ps X (i + 1)
theorem jl_len (X : Nat → Int) (m : Nat) : (jl X m).length = m := by simp [jl]
theorem jl_snoc (X : Nat → Int) (m : Nat) : jl X (m + 1) = jl X m ++ [ps X (m + 1)] := by unfold jl; rw [List.range_succ, List.map_append]; rfl
theorem jl_at {X : Nat → Int} {m j : Nat} (h : j < m) : (jl X m).getD j 0 = ps X (j + 1) := by
  unfold jl
  simp [List.getD, List.getElem?_map, List.getElem?_range h]
/-- the stakes of the first m joins -/
def jm (X : Nat → Int) (st : Int) (m : Nat) : List Int := (List.range m).map fun i => ps X (i + 1) % st
theorem jm_len (X : Nat → Int) (st : Int) (m : Nat) : (jm X st m).length = m := by simp [jm]
theorem jm_at {X : Nat → Int} {st : Int} {m j : Nat} (h : j < m) : (jm X st m).getD j 0 = ps X (j + 1) % st := by
  unfold jm
  simp [List.getD, List.getElem?_map, List.getElem?_range h]
/-- one of the first n has the property -/
def anyB (p : Nat → Bool) : Nat → Bool
  | 0 => false
  | n + 1 => anyB p n || p n
theorem anyB_yes {p : Nat → Bool} {k : Nat} : ∀ {n : Nat}, k < n → p k = true → anyB p n = true
  | 0, hk, _ => absurd hk (by omega)
  | n + 1, hk, hv => by
    unfold anyB
    by_cases e : k = n
    · subst e; rw [hv, Bool.or_true]
    · rw [anyB_yes (by omega) hv, Bool.true_or]
/-- the size of a number -/
def siz (d : Int) : Int := if d < 0 then -d else d
/-- join i lies above join k -/
def belB (X : Nat → Int) (st bs : Int) (i k : Nat) : Bool := decide (siz (ps X (i + 1) - ps X (k + 1) - st) ≤ bs)
/-- join i lies above an earlier one -/
def abvB (X : Nat → Int) (st bs : Int) (i : Nat) : Bool := anyB (belB X st bs i) i
/-- the joins that lie above earlier ones -/
def abv (X : Nat → Int) (st bs : Int) (n : Nat) : List Int := idxs (abvB X st bs) (n - 1)
theorem abv_len (X : Nat → Int) (st bs : Int) (n : Nat) : (abv X st bs n).length ≤ n := Nat.le_trans (idxs_len _ _) (Nat.sub_le _ _)

theorem size_s (d : Int) (a0 : -1000000000 ≤ d) (a1 : d ≤ 1000000000) (w : World) :
    Calls Try.prog 50 #[.int .i64 d] w fun e w' => e = .returned (.int .i64 (siz d)) ∧ w = w' := by
  by_cases h : d < 0
  · rw [show siz d = -d from if_pos h]
    go_enter Try.func50, Try.ntmps50
    go_wp2
    go_ret
    exact ⟨rfl, rfl⟩
  · rw [show siz d = d from if_neg h]
    go_enter Try.func50, Try.ntmps50
    go_wp2
    go_ret
    exact ⟨rfl, rfl⟩

theorem dist_i (a b : Int) (a0 : -1000000000 ≤ a) (a1 : a ≤ 1000000000) (b0 : -1000000000 ≤ b) (b1 : b ≤ 1000000000) (w : World) :
    Calls Try.prog 52 #[.int .i64 a, .int .i64 b] w fun e w' => e = .returned (.int .i64 (siz (a - b))) ∧ w = w' := by
  by_cases h' : a = b
  · subst h'
    rw [show siz (a - a) = 0 by unfold siz; simp]
    go_enter Try.func52, Try.ntmps52
    go_wp2
    go_ret
    exact ⟨by first | rfl | simp, rfl⟩
  by_cases h : a ≤ b
  · rw [show siz (a - b) = b - a by unfold siz; rw [if_pos (by omega)]; omega]
    have h2 : a < b := by omega
    clear h h'
    go_enter Try.func52, Try.ntmps52
    go_wp2
    go_ret
    exact ⟨rfl, rfl⟩
  · rw [show siz (a - b) = a - b by unfold siz; rw [if_neg (by omega)]]
    have h2 : b < a := by omega
    clear h h'
    go_enter Try.func52, Try.ntmps52
    go_wp2
    go_ret
    exact ⟨rfl, rfl⟩

set_option maxHeartbeats 1000000 in
theorem rods_s (A : Option Addr) (n c : Nat) (X : Nat → Int) (w : World) (hn : n ≤ maxLen) (hr : Sl w A n 1 X) :
    Calls Try.prog 44 #[.slice A n c] w fun e w' => e = .returned (.bool (rodsB n X)) ∧ w = w' := by
  unfold maxLen at hn
  have HR := Lib.hid hr
  clear hr
  go_enter Try.func44, Try.ntmps44
  go_wp2_with fail
  go_loop [3] (fun s => ∃ k : Nat, k ≤ n ∧ s = .int .i64 k ∧ Hid (allIn 1 200 X k = true)) (fun s => n - (intOf s).toNat)
  case atStart => exact ⟨0, by omega, rfl, rfl⟩
  case round =>
    obtain ⟨k, hk, rfl, HA⟩ := hrel
    by_cases hlt : k < n
    · have hlt' : (k : Int) < (n : Int) := by omega
      obtain ⟨b, o, rfl, hb, hX⟩ := HR.out (by omega)
      have h0 := hX k (by omega)
      clear hX
      cases hv : inB (X k) 1 200
      · have HF := Lib.hid (rodsB_no (allIn_no hlt hv))
        go_wp2_with (go_at_call 45; refine (in_s _ _ _ _).mono ?_; rintro e w' ⟨rfl, rfl⟩)
        go_ret
        exact ⟨by rw [HF.out]; rfl, rfl⟩
      · have HV := Lib.hid hv
        go_wp2_with (go_at_call 45; refine (in_s _ _ _ _).mono ?_; rintro e w' ⟨rfl, rfl⟩)
        go_round
        case rel => exact ⟨k + 1, by omega, by go_num, by simp only [Hid, allIn, HA.out, HV.out, Bool.and_self]⟩
        case measure => simp [intOf]; omega
    · obtain rfl : k = n := by omega
      have e : rodsB k X = decide ((k : Int) ≤ 7) := by
        unfold rodsB; rw [HA.out, Bool.and_true, Bool.eq_iff_iff]
        simp only [decide_eq_true_eq]
        omega
      have HE := Lib.hid e
      clear e
      go_wp2_with (go_at_call 45; refine (in_s _ _ _ _).mono ?_; rintro e w' ⟨rfl, rfl⟩)
      go_ret
      exact ⟨by rw [HE.out]; first | rfl | (simp; done) | (simp; omega), rfl⟩

theorem stakes_s (x : Int) (w : World) :
    Calls Try.prog 46 #[.int .i64 x] w fun e w' => e = .returned (.bool (inB x 3 60)) ∧ w = w' := by
  go_enter Try.func46, Try.ntmps46
  go_wp2_with (go_at_call 45; refine (in_s _ _ _ _).mono ?_; rintro e w' ⟨rfl, rfl⟩)
  go_ret
  exact ⟨rfl, rfl⟩

/-- these are rods around stakes -/
def laidB (st : Int) (n : Nat) (X : Nat → Int) : Bool := inB st 3 60 && rodsB n X
theorem okL_s (st : Int) (A : Option Addr) (n c : Nat) (X : Nat → Int) (w : World) (hn : n ≤ maxLen) (hr : Sl w A n 1 X) :
    Calls Try.prog 32 #[.int .i64 st, .slice A n c] w fun e w' => e = .returned (.bool (laidB st n X)) ∧ w = w' := by
  unfold laidB
  cases k0 : inB st 3 60
  all_goals
    have K0 := Lib.hid k0
    go_enter Try.func32, Try.ntmps32
    go_wp2_with first | (go_at_call 46; refine (stakes_s _ _).mono ?_; rintro e w' ⟨rfl, rfl⟩; rw [K0.out]) | (go_at_call 44; refine (rods_s A n c X _ hn hr).mono ?_; rintro e w' ⟨rfl, rfl⟩)
    go_ret
    exact ⟨rfl, rfl⟩

theorem valid_s (st : Int) (A : Option Addr) (n c : Nat) (X : Nat → Int) (w : World) (hn : n ≤ maxLen) (hr : Sl w A n 1 X) :
    Calls Try.prog 10 #[.int .i64 st, .slice A n c] w fun e w' => e = .returned (.bool (laidB st n X)) ∧ Below w.heap.size w w' := by
  go_enter Try.func10, Try.ntmps10
  go_wp2_with fail
  refine (okL_s st A n c X _ hn hr).mono ?_
  rintro e w' ⟨rfl, rfl⟩
  go_wp2
  go_ret
  exact ⟨rfl, Below.refl _ _⟩

theorem reach_i (x : Int) (w : World) :
    Calls Try.prog 35 #[.int .i64 x] w fun e w' => e = .returned (.bool (inB x 1 200)) ∧ w = w' := by
  go_enter Try.func35, Try.ntmps35
  go_wp2_with (go_at_call 49; refine (in_i _ _ _ _).mono ?_; rintro e w' ⟨rfl, rfl⟩)
  go_ret
  exact ⟨rfl, rfl⟩

theorem stakes_i (x : Int) (w : World) :
    Calls Try.prog 33 #[.int .i64 x] w fun e w' => e = .returned (.bool (inB x 3 60)) ∧ w = w' := by
  go_enter Try.func33, Try.ntmps33
  go_wp2_with (go_at_call 49; refine (in_i _ _ _ _).mono ?_; rintro e w' ⟨rfl, rfl⟩)
  go_ret
  exact ⟨rfl, rfl⟩

set_option maxHeartbeats 1000000 in
theorem are_reach (A : Option Addr) (n c : Nat) (X : Nat → Int) (w : World) (hn : n ≤ maxLen) (hr : Sl w A n 1 X) :
    Calls Try.prog 34 #[.slice A n c, .int .i64 7, .func (.func 35) #[] #[]] w fun e w' => e = .returned (.bool (rodsB n X)) ∧ w = w' := by
  unfold maxLen at hn
  have HR := Lib.hid hr
  clear hr
  by_cases hbig : 7 < n
  · rw [show rodsB n X = false by unfold rodsB; rw [decide_eq_false (by omega)]; rfl]
    have hbig' : (7 : Int) < (n : Int) := by omega
    go_enter Try.func34, Try.ntmps34
    go_wp2
    go_ret
    exact ⟨rfl, rfl⟩
  have hbig' : ¬ (7 : Int) < (n : Int) := by omega
  rw [show rodsB n X = allIn 1 200 X n by unfold rodsB; rw [decide_eq_true (by omega)]; rfl]
  clear hbig
  go_enter Try.func34, Try.ntmps34
  go_wp2_with fail
  go_loop [15] (fun s => ∃ k : Nat, k ≤ n ∧ s = .int .i64 k ∧ Hid (allIn 1 200 X k = true)) (fun s => n - (intOf s).toNat)
  case atStart => exact ⟨0, by omega, rfl, rfl⟩
  case round =>
    obtain ⟨k, hk, rfl, HA⟩ := hrel
    by_cases hlt : k < n
    · have hlt' : (k : Int) < (n : Int) := by omega
      obtain ⟨b, o, rfl, hb, hX⟩ := HR.out (by omega)
      have h0 := hX k (by omega)
      clear hX
      cases hv : inB (X k) 1 200
      · have HF := Lib.hid (allIn_no hlt hv)
        go_wp2_with (go_at_call 35; refine (reach_i _ _).mono ?_; rintro e w' ⟨rfl, rfl⟩)
        go_ret
        exact ⟨by rw [HF.out]; rfl, rfl⟩
      · have HV := Lib.hid hv
        go_wp2_with (go_at_call 35; refine (reach_i _ _).mono ?_; rintro e w' ⟨rfl, rfl⟩)
        go_round
        case rel => exact ⟨k + 1, by omega, by go_num, by simp only [Hid, allIn, HA.out, HV.out, Bool.and_self]⟩
        case measure => simp [intOf]; omega
    · obtain rfl : k = n := by omega
      go_wp2
      go_ret
      exact ⟨by rw [HA.out]; rfl, rfl⟩

theorem ok_i (st : Int) (A : Option Addr) (n c : Nat) (X : Nat → Int) (w : World) (hn : n ≤ maxLen) (hr : Sl w A n 1 X) :
    Calls Try.prog 12 #[.int .i64 st, .slice A n c] w fun e w' => e = .returned (.bool (laidB st n X)) ∧ w = w' := by
  unfold laidB
  cases k0 : inB st 3 60
  all_goals
    have K0 := Lib.hid k0
    go_enter Try.func12, Try.ntmps12
    go_wp2_with first | (go_at_call 33; refine (stakes_i _ _).mono ?_; rintro e w' ⟨rfl, rfl⟩; rw [K0.out]) | (go_at_call 34; refine (are_reach A n c X _ hn hr).mono ?_; rintro e w' ⟨rfl, rfl⟩)
    go_ret
    exact ⟨rfl, rfl⟩
theorem valid_i (st : Int) (A : Option Addr) (n c : Nat) (X : Nat → Int) (w : World) (hn : n ≤ maxLen) (hr : Sl w A n 1 X) :
    Calls Try.prog 12 #[.int .i64 st, .slice A n c] w fun e w' => e = .returned (.bool (laidB st n X)) ∧ Below w.heap.size w w' :=
  (ok_i st A n c X w hn hr).mono fun _ _ ⟨p, q⟩ => ⟨p, q ▸ Below.refl _ _⟩

end Go.Proofs.Ytjemhkjfahoelaa.jns
