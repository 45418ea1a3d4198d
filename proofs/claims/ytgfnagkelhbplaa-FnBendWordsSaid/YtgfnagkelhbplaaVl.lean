/-
  What the laws on borders draw: words, stakes, lengths, rims. No condition of a statement lies here.
-/
import Derived.Test.YtgfnagkelhbplaaVk
namespace Go.Proofs.Ytgfnagkelhbplaa.brd
open Go.ChangeShapes Go.WideShapes Go.ChangeAt Go.RowKit Go.Proofs.Ytgfnagkelhbplaa.mem Go.Proofs.Ytgfnagkelhbplaa.rod Go.Proofs.Ytgfnagkelhbplaa.src
set_option linter.unusedVariables false
set_option maxRecDepth 100000

theorem max_c (v : Int) (w : World) (h : Fit v) : Calls Try.prog 95 #[.int .i64 1, .int .i64 v] w fun e w' => ∃ M : Int, e = .returned (.int .i64 M) ∧ 1 ≤ M ∧ M ≤ 41 ∧ w' = w := by
  obtain ⟨h0, h1⟩ := h
  by_cases hv : v < 1
  · go_enter Try.func95, Try.ntmps95
    go_wp2
    go_ret
    exact ⟨1, rfl, by omega, by omega, rfl⟩
  · have hv' : 1 ≤ v := by omega
    go_enter Try.func95, Try.ntmps95
    go_wp2
    go_ret
    exact ⟨v, rfl, by omega, by omega, rfl⟩

theorem ne_nil {T : ByteArray} (h : ¬ T.size = 0) : T.toList.isEmpty = false := by
  cases e : T.toList.isEmpty
  · rfl
  · exfalso
    have h1 := List.isEmpty_iff.1 e
    rw [ByteArray.toList_eq] at h1
    exact h (by show T.data.size = 0; rw [← Array.length_toList, h1]; rfl)

set_option maxHeartbeats 4000000 in
theorem with_c (A : Option Addr) (n c : Nat) (X : Nat → Int) (w : World) (hn : n ≤ 4096) (hx : Sb w A n X) :
    Calls Try.prog 77 #[.slice A n c] w fun e w' => ∃ (T : ByteArray) (v : Int), e = .returned (.tuple #[.string T, .int .i64 v]) ∧ T.size ≤ 9 ∧ Fit v ∧ Below w.heap.size w w' := by
  have HX := Lib.hid hx
  have HA := Lib.hid (hx.low (Nat.le_refl w.heap.size))
  have HF := Lib.hid (from_c A n c w)
  clear hx
  go_enter Try.func77, Try.ntmps77
  go_wp2_with fail
  refine HF.out.mono ?_
  rintro e w1 ⟨rfl, s1, b1⟩
  have B1 := Lib.hid b1
  have X1 := Lib.hid (HX.out.below b1 (Nat.le_refl _))
  have z1 := b1.size
  have S1 := Lib.hid s1
  have K1 := Lib.hid (Kept.refl w.heap.size w.heap.size w1)
  clear b1 HF s1
  go_wp2_with fail
  refine (bent_c w.heap.size A n c X (0) _ hn (by omega) HA.out S1.out X1.out).mono ?_
  rintro e w2 ⟨T, rfl, hBT, s2, k2⟩
  have K2 := Lib.hid (K1.out.trans (k2.mono z1))
  have z2 : w.heap.size ≤ w2.heap.size := by have := K2.out.size; omega
  have X2 := Lib.hid (HX.out.below (B1.out.trans (K2.out.below (Nat.le_refl _))) (Nat.le_refl _))
  have S2 := Lib.hid (s2.out.mono (show (0 : Int) + 16 ≤ 16 by omega))
  have hT := hBT.out
  clear s2 k2 hBT
  go_wp2_with fail
  refine (stk_c w.heap.size A n c X (16) _ hn (by omega) HA.out S2.out X2.out T hT).mono ?_
  rintro e w3 ⟨v, rfl, hBv, s3, k3⟩
  have K3 := Lib.hid (K2.out.trans (k3.mono z2))
  have z3 : w.heap.size ≤ w3.heap.size := by have := K3.out.size; omega
  have X3 := Lib.hid (HX.out.below (B1.out.trans (K3.out.below (Nat.le_refl _))) (Nat.le_refl _))
  have S3 := Lib.hid (s3.out.mono (show (16 : Int) + 4 ≤ 20 by omega))
  clear s3 k3
  have G := Lib.hid (B1.out.trans (K3.out.below (Nat.le_refl _)))
  clear K3 X3 S3
  go_wp2
  go_returns
  exact ⟨T, v, rfl, hT, hBv.out, G.out⟩

set_option maxHeartbeats 4000000 in
theorem rodd_c (A : Option Addr) (n c : Nat) (X : Nat → Int) (w : World) (hn : n ≤ 4096) (hx : Sb w A n X) :
    Calls Try.prog 78 #[.slice A n c] w fun e w' => ∃ (T : ByteArray) (v k : Int), e = .returned (.tuple #[.string T, .int .i64 v, .int .i64 k]) ∧ T.size ≤ 9 ∧ Below w.heap.size w w' := by
  have HX := Lib.hid hx
  have HA := Lib.hid (hx.low (Nat.le_refl w.heap.size))
  have HF := Lib.hid (from_c A n c w)
  clear hx
  go_enter Try.func78, Try.ntmps78
  go_wp2_with fail
  refine HF.out.mono ?_
  rintro e w1 ⟨rfl, s1, b1⟩
  have B1 := Lib.hid b1
  have X1 := Lib.hid (HX.out.below b1 (Nat.le_refl _))
  have z1 := b1.size
  have S1 := Lib.hid s1
  have K1 := Lib.hid (Kept.refl w.heap.size w.heap.size w1)
  clear b1 HF s1
  go_wp2_with fail
  refine (bent_c w.heap.size A n c X (0) _ hn (by omega) HA.out S1.out X1.out).mono ?_
  rintro e w2 ⟨T, rfl, hBT, s2, k2⟩
  have K2 := Lib.hid (K1.out.trans (k2.mono z1))
  have z2 : w.heap.size ≤ w2.heap.size := by have := K2.out.size; omega
  have X2 := Lib.hid (HX.out.below (B1.out.trans (K2.out.below (Nat.le_refl _))) (Nat.le_refl _))
  have S2 := Lib.hid (s2.out.mono (show (0 : Int) + 16 ≤ 16 by omega))
  have hT := hBT.out
  clear s2 k2 hBT
  go_wp2_with fail
  refine (stk_c w.heap.size A n c X (16) _ hn (by omega) HA.out S2.out X2.out T hT).mono ?_
  rintro e w3 ⟨v, rfl, hBv, s3, k3⟩
  have K3 := Lib.hid (K2.out.trans (k3.mono z2))
  have z3 : w.heap.size ≤ w3.heap.size := by have := K3.out.size; omega
  have X3 := Lib.hid (HX.out.below (B1.out.trans (K3.out.below (Nat.le_refl _))) (Nat.le_refl _))
  have S3 := Lib.hid (s3.out.mono (show (16 : Int) + 4 ≤ 20 by omega))
  clear s3 k3
  go_wp2_with fail
  refine (one_c w.heap.size A n c X (20) 8 7 _ hn (by omega) (by omega) (by omega) HA.out S3.out X3.out).mono ?_
  rintro e w4 ⟨q, rfl, s4, hw4⟩
  have K4 := Lib.hid (K3.out.wrote hw4 z1)
  have z4 : w.heap.size ≤ w4.heap.size := by have := K4.out.size; omega
  have X4 := Lib.hid (HX.out.below (B1.out.trans (K4.out.below (Nat.le_refl _))) (Nat.le_refl _))
  have S4 := Lib.hid (s4.mono (show (20 : Int) + 2 ≤ 22 by omega))
  clear s4 hw4
  cases q
  · skip
    go_wp2_with fail
    refine (max_c v _ hBv.out).mono ?_
    rintro e w' ⟨M, rfl, m1, m2, rfl⟩
    go_wp2_with fail
    refine (pick_c w.heap.size A n c X (22) M 40 _ hn (by omega) (by omega) (by omega) HA.out S4.out X4.out).mono ?_
    rintro e w5 ⟨k, rfl, k0, k1, s5, hw5⟩
    have K5 := Lib.hid (K4.out.wrote hw5 z1)
    have z5 : w.heap.size ≤ w5.heap.size := by have := K5.out.size; omega
    have X5 := Lib.hid (HX.out.below (B1.out.trans (K5.out.below (Nat.le_refl _))) (Nat.le_refl _))
    have S5 := Lib.hid (s5.mono (show (22 : Int) + 2 ≤ 24 by omega))
    clear s5 hw5
    have G := Lib.hid (B1.out.trans (K5.out.below (Nat.le_refl _)))
    clear K5 X5 S5
    go_wp2
    go_returns
    exact ⟨T, v, k, rfl, hT, G.out⟩
  · skip
    have ⟨f0, f1⟩ := hBv.out
    obtain ⟨u, hu⟩ : ∃ u, IntKind.i64.wrap (v - 1) = u := ⟨_, rfl⟩
    have l4 := S4.out.lt
    go_wp2_with fail
    refine (among_c w.heap.size A n c X (22) w4.heap.size 4 4 (fun q => ([-1, 0, u, v] : List Int).getD q 0) _ hn (by omega) HA.out (S4.out.of_block (Go.Deep.blk_alloc_lt _ _ _ S4.out.lt) (by simp)) (X4.out.below (K := w4.heap.size) (by go_grown) (Nat.le_refl _)) (by omega) (by omega) (by omega) (by simp) (ints_4 _ _ _ _ _ _)).mono ?_
    rintro e w5 ⟨j, hj, he, s5, hw5⟩
    have K5 := Lib.hid ((K4.out.alloc z1 _).wrote hw5 z1)
    have z5 : w.heap.size ≤ w5.heap.size := by have := K5.out.size; omega
    have X5 := Lib.hid (HX.out.below (B1.out.trans (K5.out.below (Nat.le_refl _))) (Nat.le_refl _))
    have S5 := Lib.hid (s5.mono (show (22 : Int) + 2 ≤ 24 by omega))
    obtain ⟨k, hk, kb⟩ : ∃ k : Int, e = .returned (.int .i64 k) ∧ True := ⟨_, he, by
      rcases j with _ | _ | _ | _ | j
      · trivial
      · trivial
      · trivial
      · trivial
      · omega⟩
    clear he
    subst hk
    clear s5 hw5
    have G := Lib.hid (B1.out.trans (K5.out.below (Nat.le_refl _)))
    clear K5 X5 S5
    go_wp2
    go_returns
    exact ⟨T, v, k, rfl, hT, G.out⟩

theorem drawLock_c (A : Option Addr) (n c : Nat) (X : Nat → Int) (w : World) (hn : n ≤ 4096) (hx : Sb w A n X) :
    Calls Try.prog 42 #[.slice A n c] w fun e w' => ∃ (T : ByteArray) (v : Int), e = .returned (.tuple #[.string T, .int .i64 v]) ∧ T.size ≤ 9 ∧ Fit v ∧ Below w.heap.size w w' := by
  have HS := Lib.hid (with_c A n c X w hn hx)
  clear hx
  go_enter Try.func42, Try.ntmps42
  go_wp2_with fail
  refine HS.out.mono ?_
  rintro e w1 ⟨T, v, rfl, hT, hv, G⟩
  have HG := Lib.hid G
  clear G
  go_wp2
  go_returns
  exact ⟨T, v, rfl, hT, hv, HG.out⟩

theorem drawCov_c (A : Option Addr) (n c : Nat) (X : Nat → Int) (w : World) (hn : n ≤ 4096) (hx : Sb w A n X) :
    Calls Try.prog 43 #[.slice A n c] w fun e w' => ∃ (T : ByteArray) (v k : Int), e = .returned (.tuple #[.string T, .int .i64 v, .int .i64 k]) ∧ T.size ≤ 9 ∧ Below w.heap.size w w' := by
  have HS := Lib.hid (rodd_c A n c X w hn hx)
  clear hx
  go_enter Try.func43, Try.ntmps43
  go_wp2_with fail
  refine HS.out.mono ?_
  rintro e w1 ⟨T, v, k, rfl, hT, G⟩
  have HG := Lib.hid G
  clear G
  go_wp2
  go_returns
  exact ⟨T, v, k, rfl, hT, HG.out⟩

set_option maxHeartbeats 4000000 in
theorem drawList_c (A : Option Addr) (n c : Nat) (X : Nat → Int) (w : World) (hn : n ≤ 4096) (hx : Sb w A n X) :
    Calls Try.prog 44 #[.slice A n c] w fun e w' => ∃ v : Int, e = .returned (.int .i64 v) ∧ Fit v ∧ Below w.heap.size w w' := by
  have HX := Lib.hid hx
  have HA := Lib.hid (hx.low (Nat.le_refl w.heap.size))
  have HF := Lib.hid (from_c A n c w)
  clear hx
  go_enter Try.func44, Try.ntmps44
  go_wp2_with fail
  refine HF.out.mono ?_
  rintro e w1 ⟨rfl, s1, b1⟩
  have B1 := Lib.hid b1
  have X1 := Lib.hid (HX.out.below b1 (Nat.le_refl _))
  have z1 := b1.size
  have S1 := Lib.hid s1
  have K1 := Lib.hid (Kept.refl w.heap.size w.heap.size w1)
  clear b1 HF s1
  go_wp2_with fail
  refine (one_c w.heap.size A n c X (0) 5 4 _ hn (by omega) (by omega) (by omega) HA.out S1.out X1.out).mono ?_
  rintro e w2 ⟨q, rfl, s2, hw2⟩
  have K2 := Lib.hid (K1.out.wrote hw2 z1)
  have z2 : w.heap.size ≤ w2.heap.size := by have := K2.out.size; omega
  have X2 := Lib.hid (HX.out.below (B1.out.trans (K2.out.below (Nat.le_refl _))) (Nat.le_refl _))
  have S2 := Lib.hid (s2.mono (show (0 : Int) + 2 ≤ 2 by omega))
  clear s2 hw2
  cases q
  · skip
    go_wp2_with fail
    refine (pick_c w.heap.size A n c X (2) 6 5 _ hn (by omega) (by omega) (by omega) HA.out S2.out X2.out).mono ?_
    rintro e w3 ⟨k, rfl, k0, k1, s3, hw3⟩
    have K3 := Lib.hid (K2.out.wrote hw3 z1)
    have z3 : w.heap.size ≤ w3.heap.size := by have := K3.out.size; omega
    have X3 := Lib.hid (HX.out.below (B1.out.trans (K3.out.below (Nat.le_refl _))) (Nat.le_refl _))
    have S3 := Lib.hid (s3.mono (show (2 : Int) + 2 ≤ 4 by omega))
    clear s3 hw3
    have G := Lib.hid (B1.out.trans (K3.out.below (Nat.le_refl _)))
    clear K3 X3 S3
    go_wp2
    go_ret
    exact ⟨_, rfl, by unfold Fit; constructor <;> omega, G.out⟩
  · skip
    have l2 := S2.out.lt
    go_wp2_with fail
    refine (among_c w.heap.size A n c X (2) w2.heap.size 6 6 (fun q => ([-1, 0, 1, 8, 9, -9223372036854775808] : List Int).getD q 0) _ hn (by omega) HA.out (S2.out.of_block (Go.Deep.blk_alloc_lt _ _ _ S2.out.lt) (by simp)) (X2.out.below (K := w2.heap.size) (by go_grown) (Nat.le_refl _)) (by omega) (by omega) (by omega) (by simp) (ints_6 _ _ _ _ _ _ _ _)).mono ?_
    rintro e w3 ⟨j, hj, he, s3, hw3⟩
    have K3 := Lib.hid ((K2.out.alloc z1 _).wrote hw3 z1)
    have z3 : w.heap.size ≤ w3.heap.size := by have := K3.out.size; omega
    have X3 := Lib.hid (HX.out.below (B1.out.trans (K3.out.below (Nat.le_refl _))) (Nat.le_refl _))
    have S3 := Lib.hid (s3.mono (show (2 : Int) + 2 ≤ 4 by omega))
    obtain ⟨k, hk, kb⟩ : ∃ k : Int, e = .returned (.int .i64 k) ∧ Fit k := ⟨_, he, by
      rcases j with _ | _ | _ | _ | _ | _ | j
      · (unfold Fit; simp)
      · (unfold Fit; simp)
      · (unfold Fit; simp)
      · (unfold Fit; simp)
      · (unfold Fit; simp)
      · (unfold Fit; simp)
      · omega⟩
    clear he
    subst hk
    clear s3 hw3
    have G := Lib.hid (B1.out.trans (K3.out.below (Nat.le_refl _)))
    clear K3 X3 S3
    go_wp2
    go_ret
    exact ⟨k, rfl, kb, G.out⟩

set_option maxHeartbeats 4000000 in
theorem drawFirst_c (A : Option Addr) (n c : Nat) (X : Nat → Int) (w : World) (hn : n ≤ 4096) (hx : Sb w A n X) :
    Calls Try.prog 50 #[.slice A n c] w fun e w' => ∃ T : ByteArray, e = .returned (.string T) ∧ T.size ≤ 9 ∧ Below w.heap.size w w' := by
  have HX := Lib.hid hx
  have HA := Lib.hid (hx.low (Nat.le_refl w.heap.size))
  have HF := Lib.hid (from_c A n c w)
  clear hx
  go_enter Try.func50, Try.ntmps50
  go_wp2_with fail
  refine HF.out.mono ?_
  rintro e w1 ⟨rfl, s1, b1⟩
  have B1 := Lib.hid b1
  have X1 := Lib.hid (HX.out.below b1 (Nat.le_refl _))
  have z1 := b1.size
  have S1 := Lib.hid s1
  have K1 := Lib.hid (Kept.refl w.heap.size w.heap.size w1)
  clear b1 HF s1
  go_wp2_with fail
  refine (bent_c w.heap.size A n c X (0) _ hn (by omega) HA.out S1.out X1.out).mono ?_
  rintro e w2 ⟨T, rfl, hBT, s2, k2⟩
  have K2 := Lib.hid (K1.out.trans (k2.mono z1))
  have z2 : w.heap.size ≤ w2.heap.size := by have := K2.out.size; omega
  have X2 := Lib.hid (HX.out.below (B1.out.trans (K2.out.below (Nat.le_refl _))) (Nat.le_refl _))
  have S2 := Lib.hid (s2.out.mono (show (0 : Int) + 16 ≤ 16 by omega))
  have hT := hBT.out
  clear s2 k2 hBT
  have G := Lib.hid (B1.out.trans (K2.out.below (Nat.le_refl _)))
  clear K2 X2 S2
  go_wp2
  go_ret
  exact ⟨T, rfl, hT, G.out⟩

set_option maxHeartbeats 4000000 in
theorem drawLocked_c (A : Option Addr) (n c : Nat) (X : Nat → Int) (w : World) (hn : n ≤ 4096) (hx : Sb w A n X) :
    Calls Try.prog 48 #[.slice A n c] w fun e w' => ∃ u v : Int, e = .returned (.tuple #[.int .i64 u, .int .i64 v]) ∧ Fit u ∧ Fit v ∧ Below w.heap.size w w' := by
  have HX := Lib.hid hx
  have HA := Lib.hid (hx.low (Nat.le_refl w.heap.size))
  have HF := Lib.hid (from_c A n c w)
  clear hx
  go_enter Try.func48, Try.ntmps48
  go_wp2_with fail
  refine HF.out.mono ?_
  rintro e w1 ⟨rfl, s1, b1⟩
  have B1 := Lib.hid b1
  have X1 := Lib.hid (HX.out.below b1 (Nat.le_refl _))
  have z1 := b1.size
  have S1 := Lib.hid s1
  have K1 := Lib.hid (Kept.refl w.heap.size w.heap.size w1)
  clear b1 HF s1
  go_wp2_with fail
  refine (pick_c w.heap.size A n c X (0) 5 4 _ hn (by omega) (by omega) (by omega) HA.out S1.out X1.out).mono ?_
  rintro e w2 ⟨p, rfl, p0, p1, s2, hw2⟩
  have K2 := Lib.hid (K1.out.wrote hw2 z1)
  have z2 : w.heap.size ≤ w2.heap.size := by have := K2.out.size; omega
  have X2 := Lib.hid (HX.out.below (B1.out.trans (K2.out.below (Nat.le_refl _))) (Nat.le_refl _))
  have S2 := Lib.hid (s2.mono (show (0 : Int) + 2 ≤ 2 by omega))
  clear s2 hw2
  go_wp2_with fail
  refine (one_c w.heap.size A n c X (2) 8 7 _ hn (by omega) (by omega) (by omega) HA.out S2.out X2.out).mono ?_
  rintro e w3 ⟨q, rfl, s3, hw3⟩
  have K3 := Lib.hid (K2.out.wrote hw3 z1)
  have z3 : w.heap.size ≤ w3.heap.size := by have := K3.out.size; omega
  have X3 := Lib.hid (HX.out.below (B1.out.trans (K3.out.below (Nat.le_refl _))) (Nat.le_refl _))
  have S3 := Lib.hid (s3.mono (show (2 : Int) + 2 ≤ 4 by omega))
  clear s3 hw3
  have hr : Fit (1 + p) ∧ -1 ≤ 1 + p ∧ 1 + p ≤ 9 := by unfold Fit; omega
  cases q
  · skip
    obtain ⟨u, hu⟩ : ∃ u, 1 + p = u := ⟨_, rfl⟩
    rw [hu]
    rw [hu] at hr
    obtain ⟨ub, u0, u1⟩ := hr
    have UB := Lib.hid ub
    clear p0 p1 hu ub
    go_wp2_with fail
    refine (one_c w.heap.size A n c X (4) 8 7 _ hn (by omega) (by omega) (by omega) HA.out S3.out X3.out).mono ?_
    rintro e w4 ⟨r, rfl, s4, hw4⟩
    have K4 := Lib.hid (K3.out.wrote hw4 z1)
    have z4 : w.heap.size ≤ w4.heap.size := by have := K4.out.size; omega
    have X4 := Lib.hid (HX.out.below (B1.out.trans (K4.out.below (Nat.le_refl _))) (Nat.le_refl _))
    have S4 := Lib.hid (s4.mono (show (4 : Int) + 2 ≤ 6 by omega))
    clear s4 hw4
    cases r
    · skip
      go_wp2_with fail
      refine (pick_c w.heap.size A n c X (6) 8 7 _ hn (by omega) (by omega) (by omega) HA.out S4.out X4.out).mono ?_
      rintro e w5 ⟨k, rfl, k0, k1, s5, hw5⟩
      have K5 := Lib.hid (K4.out.wrote hw5 z1)
      have z5 : w.heap.size ≤ w5.heap.size := by have := K5.out.size; omega
      have X5 := Lib.hid (HX.out.below (B1.out.trans (K5.out.below (Nat.le_refl _))) (Nat.le_refl _))
      have S5 := Lib.hid (s5.mono (show (6 : Int) + 2 ≤ 8 by omega))
      clear s5 hw5
      have G := Lib.hid (B1.out.trans (K5.out.below (Nat.le_refl _)))
      clear K5 X5 S5
      go_wp2
      go_returns
      exact ⟨u, _, rfl, UB.out, by unfold Fit; constructor <;> omega, G.out⟩
    · skip
      have l4 := S4.out.lt
      go_wp2_with fail
      refine (among_c w.heap.size A n c X (6) w4.heap.size 5 5 (fun q => ([-1, u + 1, u + 2, 40, 41] : List Int).getD q 0) _ hn (by omega) HA.out (S4.out.of_block (Go.Deep.blk_alloc_lt _ _ _ S4.out.lt) (by simp)) (X4.out.below (K := w4.heap.size) (by go_grown) (Nat.le_refl _)) (by omega) (by omega) (by omega) (by simp) (ints_5 _ _ _ _ _ _ _)).mono ?_
      rintro e w5 ⟨j, hj, he, s5, hw5⟩
      have K5 := Lib.hid ((K4.out.alloc z1 _).wrote hw5 z1)
      have z5 : w.heap.size ≤ w5.heap.size := by have := K5.out.size; omega
      have X5 := Lib.hid (HX.out.below (B1.out.trans (K5.out.below (Nat.le_refl _))) (Nat.le_refl _))
      have S5 := Lib.hid (s5.mono (show (6 : Int) + 2 ≤ 8 by omega))
      obtain ⟨k, hk, kb⟩ : ∃ k : Int, e = .returned (.int .i64 k) ∧ Fit k := ⟨_, he, by
        rcases j with _ | _ | _ | _ | _ | j
        · (unfold Fit; first | (simp; done) | (simp; omega))
        · (unfold Fit; first | (simp; done) | (simp; omega))
        · (unfold Fit; first | (simp; done) | (simp; omega))
        · (unfold Fit; first | (simp; done) | (simp; omega))
        · (unfold Fit; first | (simp; done) | (simp; omega))
        · omega⟩
      clear he
      subst hk
      clear s5 hw5
      have G := Lib.hid (B1.out.trans (K5.out.below (Nat.le_refl _)))
      clear K5 X5 S5
      go_wp2
      go_returns
      exact ⟨u, k, rfl, UB.out, kb, G.out⟩
  · skip
    have l3 := S3.out.lt
    go_wp2_with fail
    refine (among_c w.heap.size A n c X (4) w3.heap.size 5 5 (fun q => ([-1, 0, 1, 8, 9] : List Int).getD q 0) _ hn (by omega) HA.out (S3.out.of_block (Go.Deep.blk_alloc_lt _ _ _ S3.out.lt) (by simp)) (X3.out.below (K := w3.heap.size) (by go_grown) (Nat.le_refl _)) (by omega) (by omega) (by omega) (by simp) (ints_5 _ _ _ _ _ _ _)).mono ?_
    rintro e w4 ⟨j, hj, he, s4, hw4⟩
    have K4 := Lib.hid ((K3.out.alloc z1 _).wrote hw4 z1)
    have z4 : w.heap.size ≤ w4.heap.size := by have := K4.out.size; omega
    have X4 := Lib.hid (HX.out.below (B1.out.trans (K4.out.below (Nat.le_refl _))) (Nat.le_refl _))
    have S4 := Lib.hid (s4.mono (show (4 : Int) + 2 ≤ 6 by omega))
    obtain ⟨u, hk, ub⟩ : ∃ u : Int, e = .returned (.int .i64 u) ∧ (Fit u ∧ -1 ≤ u ∧ u ≤ 9) := ⟨_, he, by
      rcases j with _ | _ | _ | _ | _ | j
      · (unfold Fit; simp)
      · (unfold Fit; simp)
      · (unfold Fit; simp)
      · (unfold Fit; simp)
      · (unfold Fit; simp)
      · omega⟩
    clear he
    subst hk
    clear s4 hw4
    obtain ⟨ub', u0, u1⟩ := ub
    have UB := Lib.hid ub'
    clear ub' p0 p1 hr
    go_wp2_with fail
    refine (one_c w.heap.size A n c X (6) 8 7 _ hn (by omega) (by omega) (by omega) HA.out S4.out X4.out).mono ?_
    rintro e w5 ⟨r, rfl, s5, hw5⟩
    have K5 := Lib.hid (K4.out.wrote hw5 z1)
    have z5 : w.heap.size ≤ w5.heap.size := by have := K5.out.size; omega
    have X5 := Lib.hid (HX.out.below (B1.out.trans (K5.out.below (Nat.le_refl _))) (Nat.le_refl _))
    have S5 := Lib.hid (s5.mono (show (6 : Int) + 2 ≤ 8 by omega))
    clear s5 hw5
    cases r
    · skip
      go_wp2_with fail
      refine (pick_c w.heap.size A n c X (8) 8 7 _ hn (by omega) (by omega) (by omega) HA.out S5.out X5.out).mono ?_
      rintro e w6 ⟨k, rfl, k0, k1, s6, hw6⟩
      have K6 := Lib.hid (K5.out.wrote hw6 z1)
      have z6 : w.heap.size ≤ w6.heap.size := by have := K6.out.size; omega
      have X6 := Lib.hid (HX.out.below (B1.out.trans (K6.out.below (Nat.le_refl _))) (Nat.le_refl _))
      have S6 := Lib.hid (s6.mono (show (8 : Int) + 2 ≤ 10 by omega))
      clear s6 hw6
      have G := Lib.hid (B1.out.trans (K6.out.below (Nat.le_refl _)))
      clear K6 X6 S6
      go_wp2
      go_returns
      exact ⟨u, _, rfl, UB.out, by unfold Fit; constructor <;> omega, G.out⟩
    · skip
      have l5 := S5.out.lt
      go_wp2_with fail
      refine (among_c w.heap.size A n c X (8) w5.heap.size 5 5 (fun q => ([-1, u + 1, u + 2, 40, 41] : List Int).getD q 0) _ hn (by omega) HA.out (S5.out.of_block (Go.Deep.blk_alloc_lt _ _ _ S5.out.lt) (by simp)) (X5.out.below (K := w5.heap.size) (by go_grown) (Nat.le_refl _)) (by omega) (by omega) (by omega) (by simp) (ints_5 _ _ _ _ _ _ _)).mono ?_
      rintro e w6 ⟨j, hj, he, s6, hw6⟩
      have K6 := Lib.hid ((K5.out.alloc z1 _).wrote hw6 z1)
      have z6 : w.heap.size ≤ w6.heap.size := by have := K6.out.size; omega
      have X6 := Lib.hid (HX.out.below (B1.out.trans (K6.out.below (Nat.le_refl _))) (Nat.le_refl _))
      have S6 := Lib.hid (s6.mono (show (8 : Int) + 2 ≤ 10 by omega))
      obtain ⟨k, hk, kb⟩ : ∃ k : Int, e = .returned (.int .i64 k) ∧ Fit k := ⟨_, he, by
        rcases j with _ | _ | _ | _ | _ | j
        · (unfold Fit; first | (simp; done) | (simp; omega))
        · (unfold Fit; first | (simp; done) | (simp; omega))
        · (unfold Fit; first | (simp; done) | (simp; omega))
        · (unfold Fit; first | (simp; done) | (simp; omega))
        · (unfold Fit; first | (simp; done) | (simp; omega))
        · omega⟩
      clear he
      subst hk
      clear s6 hw6
      have G := Lib.hid (B1.out.trans (K6.out.below (Nat.le_refl _)))
      clear K6 X6 S6
      go_wp2
      go_returns
      exact ⟨u, k, rfl, UB.out, kb, G.out⟩

set_option maxHeartbeats 4000000 in
theorem drawRod_c (A : Option Addr) (n c : Nat) (X : Nat → Int) (w : World) (hn : n ≤ 4096) (hx : Sb w A n X) :
    Calls Try.prog 49 #[.slice A n c] w fun e w' => ∃ (T : ByteArray) (r v : Int), e = .returned (.tuple #[.string T, .int .i64 r, .int .i64 v]) ∧ T.size ≤ 9 ∧ Below w.heap.size w w' := by
  have HX := Lib.hid hx
  have HA := Lib.hid (hx.low (Nat.le_refl w.heap.size))
  have HF := Lib.hid (from_c A n c w)
  clear hx
  go_enter Try.func49, Try.ntmps49
  go_wp2_with fail
  refine HF.out.mono ?_
  rintro e w1 ⟨rfl, s1, b1⟩
  have B1 := Lib.hid b1
  have X1 := Lib.hid (HX.out.below b1 (Nat.le_refl _))
  have z1 := b1.size
  have S1 := Lib.hid s1
  have K1 := Lib.hid (Kept.refl w.heap.size w.heap.size w1)
  clear b1 HF s1
  go_wp2_with fail
  refine (bent_c w.heap.size A n c X (0) _ hn (by omega) HA.out S1.out X1.out).mono ?_
  rintro e w2 ⟨T, rfl, hBT, s2, k2⟩
  have K2 := Lib.hid (K1.out.trans (k2.mono z1))
  have z2 : w.heap.size ≤ w2.heap.size := by have := K2.out.size; omega
  have X2 := Lib.hid (HX.out.below (B1.out.trans (K2.out.below (Nat.le_refl _))) (Nat.le_refl _))
  have S2 := Lib.hid (s2.out.mono (show (0 : Int) + 16 ≤ 16 by omega))
  have hT := hBT.out
  clear s2 k2 hBT
  go_wp2_with fail
  refine (pick_c w.heap.size A n c X (16) 200 199 _ hn (by omega) (by omega) (by omega) HA.out S2.out X2.out).mono ?_
  rintro e w3 ⟨p, rfl, p0, p1, s3, hw3⟩
  have K3 := Lib.hid (K2.out.wrote hw3 z1)
  have z3 : w.heap.size ≤ w3.heap.size := by have := K3.out.size; omega
  have X3 := Lib.hid (HX.out.below (B1.out.trans (K3.out.below (Nat.le_refl _))) (Nat.le_refl _))
  have S3 := Lib.hid (s3.mono (show (16 : Int) + 2 ≤ 18 by omega))
  clear s3 hw3
  go_wp2_with fail
  refine (one_c w.heap.size A n c X (18) 8 7 _ hn (by omega) (by omega) (by omega) HA.out S3.out X3.out).mono ?_
  rintro e w4 ⟨q, rfl, s4, hw4⟩
  have K4 := Lib.hid (K3.out.wrote hw4 z1)
  have z4 : w.heap.size ≤ w4.heap.size := by have := K4.out.size; omega
  have X4 := Lib.hid (HX.out.below (B1.out.trans (K4.out.below (Nat.le_refl _))) (Nat.le_refl _))
  have S4 := Lib.hid (s4.mono (show (18 : Int) + 2 ≤ 20 by omega))
  clear s4 hw4
  cases q
  · skip
    go_wp2_with fail
    refine (stk_c w.heap.size A n c X (20) _ hn (by omega) HA.out S4.out X4.out T hT).mono ?_
    rintro e w5 ⟨v, rfl, hBv, s5, k5⟩
    have K5 := Lib.hid (K4.out.trans (k5.mono z4))
    have z5 : w.heap.size ≤ w5.heap.size := by have := K5.out.size; omega
    have X5 := Lib.hid (HX.out.below (B1.out.trans (K5.out.below (Nat.le_refl _))) (Nat.le_refl _))
    have S5 := Lib.hid (s5.out.mono (show (20 : Int) + 4 ≤ 24 by omega))
    clear s5 k5
    have G := Lib.hid (B1.out.trans (K5.out.below (Nat.le_refl _)))
    clear K5 X5 S5
    go_wp2
    go_returns
    exact ⟨T, _, v, rfl, hT, G.out⟩
  · skip
    have l4 := S4.out.lt
    go_wp2_with fail
    refine (among_c w.heap.size A n c X (20) w4.heap.size 5 5 (fun q => ([-1, 99, 100, 5000, 5001] : List Int).getD q 0) _ hn (by omega) HA.out (S4.out.of_block (Go.Deep.blk_alloc_lt _ _ _ S4.out.lt) (by simp)) (X4.out.below (K := w4.heap.size) (by go_grown) (Nat.le_refl _)) (by omega) (by omega) (by omega) (by simp) (ints_5 _ _ _ _ _ _ _)).mono ?_
    rintro e w5 ⟨j, hj, he, s5, hw5⟩
    have K5 := Lib.hid ((K4.out.alloc z1 _).wrote hw5 z1)
    have z5 : w.heap.size ≤ w5.heap.size := by have := K5.out.size; omega
    have X5 := Lib.hid (HX.out.below (B1.out.trans (K5.out.below (Nat.le_refl _))) (Nat.le_refl _))
    have S5 := Lib.hid (s5.mono (show (20 : Int) + 2 ≤ 22 by omega))
    obtain ⟨u, hk, ub⟩ : ∃ u : Int, e = .returned (.int .i64 u) ∧ True := ⟨_, he, by
      rcases j with _ | _ | _ | _ | _ | j
      · trivial
      · trivial
      · trivial
      · trivial
      · trivial
      · omega⟩
    clear he
    subst hk
    clear s5 hw5
    go_wp2_with fail
    refine (stk_c w.heap.size A n c X (22) _ hn (by omega) HA.out S5.out X5.out T hT).mono ?_
    rintro e w6 ⟨v, rfl, hBv, s6, k6⟩
    have K6 := Lib.hid (K5.out.trans (k6.mono z5))
    have z6 : w.heap.size ≤ w6.heap.size := by have := K6.out.size; omega
    have X6 := Lib.hid (HX.out.below (B1.out.trans (K6.out.below (Nat.le_refl _))) (Nat.le_refl _))
    have S6 := Lib.hid (s6.out.mono (show (22 : Int) + 4 ≤ 26 by omega))
    clear s6 k6
    have G := Lib.hid (B1.out.trans (K6.out.below (Nat.le_refl _)))
    clear K6 X6 S6
    go_wp2
    go_returns
    exact ⟨T, u, v, rfl, hT, G.out⟩

set_option maxHeartbeats 4000000 in
theorem drawSame_c (A : Option Addr) (n c : Nat) (X : Nat → Int) (w : World) (hn : n ≤ 4096) (hx : Sb w A n X) :
    Calls Try.prog 47 #[.slice A n c] w fun e w' => ∃ T U : ByteArray, e = .returned (.tuple #[.string T, .string U]) ∧ T.size ≤ 9 ∧ U.size ≤ 9 ∧ Below w.heap.size w w' := by
  have HX := Lib.hid hx
  have HA := Lib.hid (hx.low (Nat.le_refl w.heap.size))
  have HF := Lib.hid (from_c A n c w)
  clear hx
  go_enter Try.func47, Try.ntmps47
  go_wp2_with fail
  refine HF.out.mono ?_
  rintro e w1 ⟨rfl, s1, b1⟩
  have B1 := Lib.hid b1
  have X1 := Lib.hid (HX.out.below b1 (Nat.le_refl _))
  have z1 := b1.size
  have S1 := Lib.hid s1
  have K1 := Lib.hid (Kept.refl w.heap.size w.heap.size w1)
  clear b1 HF s1
  go_wp2_with fail
  refine (bent_c w.heap.size A n c X (0) _ hn (by omega) HA.out S1.out X1.out).mono ?_
  rintro e w2 ⟨T, rfl, hBT, s2, k2⟩
  have K2 := Lib.hid (K1.out.trans (k2.mono z1))
  have z2 : w.heap.size ≤ w2.heap.size := by have := K2.out.size; omega
  have X2 := Lib.hid (HX.out.below (B1.out.trans (K2.out.below (Nat.le_refl _))) (Nat.le_refl _))
  have S2 := Lib.hid (s2.out.mono (show (0 : Int) + 16 ≤ 16 by omega))
  have hT := hBT.out
  clear s2 k2 hBT
  go_wp2_with fail
  refine (one_c w.heap.size A n c X (16) 2 1 _ hn (by omega) (by omega) (by omega) HA.out S2.out X2.out).mono ?_
  rintro e w3 ⟨q, rfl, s3, hw3⟩
  have K3 := Lib.hid (K2.out.wrote hw3 z1)
  have z3 : w.heap.size ≤ w3.heap.size := by have := K3.out.size; omega
  have X3 := Lib.hid (HX.out.below (B1.out.trans (K3.out.below (Nat.le_refl _))) (Nat.le_refl _))
  have S3 := Lib.hid (s3.mono (show (16 : Int) + 2 ≤ 18 by omega))
  clear s3 hw3
  cases q
  · skip
    go_wp2_with fail
    refine (bent_c w.heap.size A n c X (18) _ hn (by omega) HA.out S3.out X3.out).mono ?_
    rintro e w4 ⟨U, rfl, hBU, s4, k4⟩
    have K4 := Lib.hid (K3.out.trans (k4.mono z3))
    have z4 : w.heap.size ≤ w4.heap.size := by have := K4.out.size; omega
    have X4 := Lib.hid (HX.out.below (B1.out.trans (K4.out.below (Nat.le_refl _))) (Nat.le_refl _))
    have S4 := Lib.hid (s4.out.mono (show (18 : Int) + 16 ≤ 34 by omega))
    have hU := hBU.out
    clear s4 k4 hBU
    have G := Lib.hid (B1.out.trans (K4.out.below (Nat.le_refl _)))
    clear K4 X4 S4
    go_wp2
    go_returns
    exact ⟨T, U, rfl, hT, hU, G.out⟩
  · skip
    by_cases hz : T.size = 0
    · skip
      obtain rfl : T = ByteArray.empty := by
        cases T with
        | mk d => exact congrArg ByteArray.mk (Array.eq_empty_of_size_eq_zero hz)
      go_wp2_with fail
      refine (bent_c w.heap.size A n c X (18) _ hn (by omega) HA.out S3.out X3.out).mono ?_
      rintro e w4 ⟨U, rfl, hBU, s4, k4⟩
      have K4 := Lib.hid (K3.out.trans (k4.mono z3))
      have z4 : w.heap.size ≤ w4.heap.size := by have := K4.out.size; omega
      have X4 := Lib.hid (HX.out.below (B1.out.trans (K4.out.below (Nat.le_refl _))) (Nat.le_refl _))
      have S4 := Lib.hid (s4.out.mono (show (18 : Int) + 16 ≤ 34 by omega))
      have hU := hBU.out
      clear s4 k4 hBU
      have G := Lib.hid (B1.out.trans (K4.out.below (Nat.le_refl _)))
      clear K4 X4 S4
      go_wp2
      go_returns
      exact ⟨ByteArray.empty, U, rfl, hT, hU, G.out⟩
    · skip
      have hne : T.toList.isEmpty = false := ne_nil hz
      have hT1 : (1 : Int) ≤ (T.size : Int) := by omega
      have hT9 : ((T.size : Nat) : Int) ≤ 9 := by omega
      go_wp2_with fail
      refine (pick_c w.heap.size A n c X (18) T.size ((T.size : Int) - 1) _ hn (by omega) (by omega) (by omega) HA.out S3.out X3.out).mono ?_
      rintro e w4 ⟨k, rfl, k0, k1, s4, hw4⟩
      have K4 := Lib.hid (K3.out.wrote hw4 z1)
      have z4 : w.heap.size ≤ w4.heap.size := by have := K4.out.size; omega
      have X4 := Lib.hid (HX.out.below (B1.out.trans (K4.out.below (Nat.le_refl _))) (Nat.le_refl _))
      have S4 := Lib.hid (s4.mono (show (18 : Int) + 2 ≤ 20 by omega))
      clear s4 hw4
      obtain ⟨k, rfl⟩ : ∃ m : Nat, k = m := ⟨k.toNat, by omega⟩
      have hkT : k < T.size := by omega
      have e1 : (T.extract k T.size).size = T.size - k := by simp
      have e2 : (T.extract 0 k).size = k := by rw [ByteArray.size_extract]; omega
      have G := Lib.hid (B1.out.trans (K4.out.below (Nat.le_refl _)))
      clear K4 X4 S4
      go_wp2_with fail
      go_region
      go_wp2
      go_returns
      exact ⟨T, _, rfl, hT, by rw [ByteArray.size_append, e1, e2]; omega, drewN_below G.out _⟩

end Go.Proofs.Ytgfnagkelhbplaa.brd
