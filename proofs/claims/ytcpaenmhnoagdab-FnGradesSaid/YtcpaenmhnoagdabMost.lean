/-
  MostAlike: two nested loops over the pairs, in the model and in the program.
-/
import Derived.Test.YtcpaenmhnoagdabAlike
namespace Go.Proofs.Ytcpaenmhnoagdab.rod
open Go.ChangeShapes Go.WideShapes Go.ChangeAt Go.RowKit
open Go.Proofs.Ytcpaenmhnoagdab.mem
set_option linter.unusedVariables false

def ap (X : Nat → Int) (i k : Nat) : Int := ap3 (X (i * 3)) (X (i * 3 + 1)) (X (i * 3 + 2)) (X (k * 3)) (X (k * 3 + 1)) (X (k * 3 + 2))
/-- one pair is looked at -/
def stp (X : Nat → Int) (i k : Nat) (p : Nat × Nat) : Nat × Nat := if ap X i k < ap X p.1 p.2 then (i, k) else p
/-- m pairs are looked at, from (i, k) on -/
def inn (X : Nat → Int) (i : Nat) : Nat → Nat → Nat × Nat → Nat × Nat
  | 0, _, p => p
  | m + 1, k, p => inn X i m (k + 1) (stp X i k p)
/-- m rows are looked at, from i on, of n -/
def outr (X : Nat → Int) (n : Nat) : Nat → Nat → Nat × Nat → Nat × Nat
  | 0, _, p => p
  | m + 1, i, p => outr X n m (i + 1) (inn X i (n - (i + 1)) (i + 1) p)
def most (X : Nat → Int) (n : Nat) : Nat × Nat := outr X n n 0 (0, 1)
theorem inn_done {X : Nat → Int} {i k n : Nat} {p : Nat × Nat} (h : n ≤ k) : inn X i (n - k) k p = p := by rw [Nat.sub_eq_zero_of_le h]; rfl
theorem inn_go {X : Nat → Int} {i k n : Nat} {p : Nat × Nat} (h : k < n) : inn X i (n - k) k p = inn X i (n - (k + 1)) (k + 1) (stp X i k p) := by
  rw [show n - k = (n - (k + 1)) + 1 by omega]; rfl
theorem outr_done {X : Nat → Int} {i n : Nat} {p : Nat × Nat} (h : n ≤ i) : outr X n (n - i) i p = p := by rw [Nat.sub_eq_zero_of_le h]; rfl
theorem outr_go {X : Nat → Int} {i n : Nat} {p : Nat × Nat} (h : i < n) : outr X n (n - i) i p = outr X n (n - (i + 1)) (i + 1) (inn X i (n - (i + 1)) (i + 1) p) := by
  rw [show n - i = (n - (i + 1)) + 1 by omega]; rfl

theorem ints_at {w : World} {b o n i : Nat} {X : Nat → Int} (h : Ints w b o (n * 3) X) (hi : i < n) :
    w.cell? ⟨b, o + i * 3, none⟩ = some (.int .i64 (X (i * 3))) ∧ w.cell? ⟨b, o + i * 3 + 1, none⟩ = some (.int .i64 (X (i * 3 + 1))) ∧ w.cell? ⟨b, o + i * 3 + 2, none⟩ = some (.int .i64 (X (i * 3 + 2))) :=
  ⟨h _ (by omega), h (i * 3 + 1) (by omega), h (i * 3 + 2) (by omega)⟩

theorem apart_at {w : World} {b o n i k : Nat} {X : Nat → Int} (h : Ints w b o (n * 3) X) (hv : allB X n = true) (hi : i < n) (hk : k < n) :
    Calls Try.prog 84 #[.pointer (some ⟨b, o + i * 3, none⟩), .pointer (some ⟨b, o + k * 3, none⟩)] w fun e w' => e = .returned (.int .i64 (ap X i k)) ∧ ∃ m, w' = w.drewN m := by
  obtain ⟨p0, p1, p2⟩ := ints_at h hi
  obtain ⟨q0, q1, q2⟩ := ints_at h hk
  exact apart_s b _ b _ _ _ _ _ _ _ w (allB_at hv hi) (allB_at hv hk) p0 p1 p2 q0 q1 q2

set_option maxHeartbeats 4000000 in
theorem most_s (A : Option Addr) (n c : Nat) (X : Nat → Int) (w : World) (hn : n ≤ maxLen) (hr : Sl w A n 3 X) (hv : listB n X = true) (h2 : 2 ≤ n) :
    Calls Try.prog 29 #[.slice A n c] w fun e w' => e = .returned (.tuple #[.int .i64 (most X n).1, .int .i64 (most X n).2, .int .i64 0]) ∧ ∃ m, w' = w.drewN m := by
  obtain ⟨hn20, hall⟩ := listB_of hv
  have HALL := Lib.hid hall
  have HR := Lib.hid hr
  clear hr hall
  have hlt2 : ¬ (n : Int) < 2 := by omega
  obtain ⟨b, o, rfl, hb, hX⟩ := HR.out (by omega)
  have IX := Lib.hid hX
  clear hX
  go_enter Try.func29, Try.ntmps29
  go_wp2_with (go_at_call 71; refine (ok_s _ n c X _ hn HR.out).mono ?_; rintro e w' ⟨rfl, m0, rfl⟩)
  go_loopw [7, 5, 6] (fun s t u wr => ∃ (i x y : Nat), i ≤ n ∧ x < n ∧ y < n ∧ s = .int .i64 i ∧ t = .int .i64 x ∧ u = .int .i64 y ∧ Hid (outr X n (n - i) i (x, y) = most X n) ∧ Drew w wr) (fun s _ _ _ => n - (intOf s).toNat)
  case atStart => exact ⟨0, 0, 1, by omega, by omega, by omega, rfl, rfl, rfl, rfl, (Drew.refl _).drewN _⟩
  case round =>
    obtain ⟨i, x, y, hi, hx, hy, rfl, rfl, rfl, HO, hd⟩ := hrel
    obtain ⟨wo, rfl⟩ : ∃ wo : World, wo = wr := ⟨_, rfl⟩
    have HD := Lib.hid hd
    clear hd
    by_cases hlt : i < n
    · have hlt' : (i : Int) < (n : Int) := by omega
      go_wp2_with fail
      go_loopw [8, 5, 6] (fun s t u wr => ∃ (k x' y' : Nat), i < k ∧ k ≤ n ∧ x' < n ∧ y' < n ∧ s = .int .i64 k ∧ t = .int .i64 x' ∧ u = .int .i64 y' ∧ Hid (inn X i (n - k) k (x', y') = inn X i (n - (i + 1)) (i + 1) (x, y)) ∧ Drew w wr) (fun s _ _ _ => n - (intOf s).toNat)
      case atStart => exact ⟨i + 1, x, y, by omega, by omega, hx, hy, by go_num, rfl, rfl, rfl, HD.out⟩
      case round =>
        obtain ⟨k, x', y', hik, hk, hx', hy', rfl, rfl, rfl, HI, hd2⟩ := hrel
        obtain ⟨wi, rfl⟩ : ∃ wi : World, wi = wr := ⟨_, rfl⟩
        have HD2 := Lib.hid hd2
        clear hd2
        by_cases hlk : k < n
        · have hlk' : (k : Int) < (n : Int) := by omega
          have i0 : (0 : Int) ≤ (i : Int) := by omega
          have k0 : (0 : Int) ≤ (k : Int) := by omega
          have x0 : (0 : Int) ≤ (x' : Int) := by omega
          have y0 : (0 : Int) ≤ (y' : Int) := by omega
          have xl : (x' : Int) < (n : Int) := by omega
          have yl : (y' : Int) < (n : Int) := by omega
          have IW := Lib.hid (HD2.out.ints IX.out)
          by_cases hc : ap X i k < ap X x' y'
          · have hs : stp X i k (x', y') = (i, k) := by unfold stp; rw [if_pos hc]
            have HS := Lib.hid hs
            clear hs
            generalize hA : ap X i k = P at *
            generalize hB : ap X x' y' = Q at *
            have HA := Lib.hid hA
            have HB := Lib.hid hB
            clear hA hB
            go_wp2_with fail
            go_quiet ((go_at_call 84; exact Calls.quiet_of ((apart_at (n := n) (X := X) (Drew.ints (Drew.drewN (Drew.refl _) _) IW.out) HALL.out (by omega) (by omega)).mono fun _ _ ⟨p, q⟩ => ⟨p.trans (by first | rw [HA.out] | rw [HB.out]), q⟩)))
            go_wp2
            go_roundw
            case rel => exact ⟨k + 1, i, k, by omega, by omega, by omega, by omega, by go_num, rfl, rfl, by rw [Hid, ← HI.out, inn_go hlk, HS.out], HD2.out.drewN _⟩
            case measure => simp [intOf]; omega
          · have hs : stp X i k (x', y') = (x', y') := by unfold stp; rw [if_neg hc]
            have HS := Lib.hid hs
            clear hs
            generalize hA : ap X i k = P at *
            generalize hB : ap X x' y' = Q at *
            have HA := Lib.hid hA
            have HB := Lib.hid hB
            clear hA hB
            go_wp2_with fail
            go_quiet ((go_at_call 84; exact Calls.quiet_of ((apart_at (n := n) (X := X) (Drew.ints (Drew.drewN (Drew.refl _) _) IW.out) HALL.out (by omega) (by omega)).mono fun _ _ ⟨p, q⟩ => ⟨p.trans (by first | rw [HA.out] | rw [HB.out]), q⟩)))
            go_wp2
            go_roundw
            case rel => exact ⟨k + 1, x', y', by omega, by omega, by omega, by omega, by go_num, rfl, rfl, by rw [Hid, ← HI.out, inn_go hlk, HS.out], HD2.out.drewN _⟩
            case measure => simp [intOf]; omega
        · obtain rfl : k = n := by omega
          go_wp2
          go_roundw
          case rel => exact ⟨i + 1, x', y', by omega, hx', hy', by go_num, rfl, rfl, by rw [Hid, ← HO.out, outr_go hlt, ← HI.out, inn_done (Nat.le_refl _)], HD2.out⟩
          case measure => simp [intOf]; omega
    · obtain rfl : i = n := by omega
      have he : most X i = (x, y) := by rw [← HO.out, outr_done (Nat.le_refl _)]
      have HE := Lib.hid he
      clear he
      go_wp2
      go_ret3
      exact ⟨by rw [HE.out]; rfl, HD.out⟩

theorem differ_at {i k n : Nat} {X : Nat → Int} {w : World} (hv : allB X n = true) (hi : i < n) (hk : k < n) :
    Calls Try.prog 85 #[.agg #[.int .i64 (X (i * 3)), .int .i64 (X (i * 3 + 1)), .int .i64 (X (i * 3 + 2))], .agg #[.int .i64 (X (k * 3)), .int .i64 (X (k * 3 + 1)), .int .i64 (X (k * 3 + 2))]] w fun e w' => e = .returned (.int .i64 (ap X i k)) ∧ Below w.heap.size w w' :=
  differ_i _ _ _ _ _ _ w (allB_at hv hi) (allB_at hv hk)
theorem ap_bd {X : Nat → Int} {n i k : Nat} (hv : allB X n = true) (hi : i < n) (hk : k < n) : 0 ≤ ap X i k ∧ ap X i k ≤ 100000 := ap3_bd (allB_at hv hi) (allB_at hv hk)

set_option maxHeartbeats 4000000 in
theorem most_i (A : Option Addr) (n c : Nat) (X : Nat → Int) (w : World) (hn : n ≤ maxLen) (hr : Sl w A n 3 X) (hv : listB n X = true) (h2 : 2 ≤ n) :
    Calls Try.prog 30 #[.slice A n c] w fun e w' => e = .returned (.tuple #[.int .i64 (most X n).1, .int .i64 (most X n).2, .int .i64 0]) ∧ Below w.heap.size w w' := by
  obtain ⟨hn20, hall⟩ := listB_of hv
  have HALL := Lib.hid hall
  have HR := Lib.hid hr
  clear hr hall
  have hlt2 : ¬ (n : Int) < 2 := by omega
  obtain ⟨b, o, rfl, hb, hX⟩ := HR.out (by omega)
  have IX := Lib.hid hX
  clear hX
  have n0 : (0 : Int) < (n : Int) := by omega
  have n1 : (1 : Int) < (n : Int) := by omega
  have n0' : 0 < n := by omega
  have n1' : 1 < n := by omega
  go_enter Try.func30, Try.ntmps30
  go_wp2_with (go_at_call 18; refine (valid_i _ n c X _ hn HR.out).mono ?_; rintro e w1 ⟨rfl, b1⟩)
  have z1 := b1.size
  obtain ⟨p0, p1, p2⟩ := ints_at (i := 0) (IX.out.below b1 hb) n0'
  obtain ⟨q0, q1, q2⟩ := ints_at (i := 1) (IX.out.below b1 hb) n1'
  simp only [Nat.zero_mul, Nat.one_mul, Nat.add_zero, Nat.zero_add] at p0 p1 p2 q0 q1 q2
  have B1 := Lib.hid b1
  clear b1
  go_region_held3 (fun q => (q.cell? ⟨b, o, none⟩ = some (.int .i64 (X 0)) ∧ q.cell? ⟨b, o + 1, none⟩ = some (.int .i64 (X 1)) ∧ q.cell? ⟨b, o + 2, none⟩ = some (.int .i64 (X 2))) ∧ (q.cell? ⟨b, o + 3, none⟩ = some (.int .i64 (X 3)) ∧ q.cell? ⟨b, o + 3 + 1, none⟩ = some (.int .i64 (X (3 + 1))) ∧ q.cell? ⟨b, o + 3 + 2, none⟩ = some (.int .i64 (X (3 + 2))))) (first | exact ⟨⟨p0, p1, p2⟩, q0, q1, q2⟩ | go_keep)
    (first
      | (go_at_call 85; refine (differ_at (i := 0) (k := 1) (X := X) HALL.out n0' n1').mono ?_; rintro e w2 ⟨rfl, hb2⟩
         have z2 := hb2.size
         simp at z2
         have g2 : Below w.heap.size w w2 := Below.trans B1.out.drew (hb2.mono (by simp <;> omega))
         clear p0 p1 p2 q0 q1 q2
         obtain ⟨p0, p1, p2⟩ := ints_at (i := 0) (IX.out.below g2 hb) n0'
         obtain ⟨q0, q1, q2⟩ := ints_at (i := 1) (IX.out.below g2 hb) n1'
         simp only [Nat.zero_mul, Nat.one_mul, Nat.add_zero, Nat.zero_add] at p0 p1 p2 q0 q1 q2
         clear hb2))
  have G2 := Lib.hid g2
  clear g2 p0 p1 p2 q0 q1 q2
  go_wp2_with fail
  go_loopw [26, 5, 6, 7] (fun s t u v wr => ∃ (i x y : Nat), i ≤ n ∧ x < n ∧ y < n ∧ s = .int .i64 i ∧ t = .int .i64 x ∧ u = .int .i64 y ∧ v = .int .i64 (ap X x y) ∧ Hid (outr X n (n - i) i (x, y) = most X n) ∧ Below w.heap.size w wr) (fun s _ _ _ _ => n - (intOf s).toNat)
  case atStart => exact ⟨0, 0, 1, by omega, by omega, by omega, rfl, rfl, rfl, rfl, rfl, G2.out⟩
  case round =>
    obtain ⟨i, x, y, hi, hx, hy, rfl, rfl, rfl, rfl, HO, hd⟩ := hrel
    obtain ⟨wo, rfl⟩ : ∃ wo : World, wo = wr := ⟨_, rfl⟩
    have HD := Lib.hid hd
    clear hd
    by_cases hlt : i < n
    · have hlt' : (i : Int) < (n : Int) := by omega
      go_wp2_with fail
      go_loopw [9, 5, 6, 7] (fun s t u v wr => ∃ (k x' y' : Nat), i < k ∧ k ≤ n ∧ x' < n ∧ y' < n ∧ s = .int .i64 k ∧ t = .int .i64 x' ∧ u = .int .i64 y' ∧ v = .int .i64 (ap X x' y') ∧ Hid (inn X i (n - k) k (x', y') = inn X i (n - (i + 1)) (i + 1) (x, y)) ∧ Below w.heap.size w wr) (fun s _ _ _ _ => n - (intOf s).toNat)
      case atStart => exact ⟨i + 1, x, y, by omega, by omega, hx, hy, by go_num, rfl, rfl, rfl, rfl, HD.out⟩
      case round =>
        obtain ⟨k, x', y', hik, hk, hx', hy', rfl, rfl, rfl, rfl, HI, hd2⟩ := hrel
        obtain ⟨wi, rfl⟩ : ∃ wi : World, wi = wr := ⟨_, rfl⟩
        have zi := hd2.size
        have HD2 := Lib.hid hd2
        clear hd2
        by_cases hlk : k < n
        · have hlk' : (k : Int) < (n : Int) := by omega
          have i0 : (0 : Int) ≤ (i : Int) := by omega
          have k0 : (0 : Int) ≤ (k : Int) := by omega
          obtain ⟨p0, p1, p2⟩ := ints_at (i := i) (IX.out.below HD2.out hb) hlt
          obtain ⟨q0, q1, q2⟩ := ints_at (i := k) (IX.out.below HD2.out hb) hlk
          have hA : ∃ P, Hid (P = ap X i k) := ⟨_, rfl⟩
          obtain ⟨P, HP⟩ := hA
          have hB : ∃ Q, Hid (Q = ap X x' y') := ⟨_, rfl⟩
          obtain ⟨Q, HQ⟩ := hB
          have hPb := ap_bd HALL.out hlt hlk
          rw [← HP.out] at hPb
          rw [← HQ.out]
          by_cases hc : P < Q
          · have hs : stp X i k (x', y') = (i, k) := by unfold stp; rw [← HP.out, ← HQ.out, if_pos hc]
            have HS := Lib.hid hs
            clear hs
            go_wp2_with fail
            go_region_held3 (fun q => (q.cell? ⟨b, o + i * 3, none⟩ = some (.int .i64 (X (i * 3))) ∧ q.cell? ⟨b, o + i * 3 + 1, none⟩ = some (.int .i64 (X (i * 3 + 1))) ∧ q.cell? ⟨b, o + i * 3 + 2, none⟩ = some (.int .i64 (X (i * 3 + 2)))) ∧ (q.cell? ⟨b, o + k * 3, none⟩ = some (.int .i64 (X (k * 3))) ∧ q.cell? ⟨b, o + k * 3 + 1, none⟩ = some (.int .i64 (X (k * 3 + 1))) ∧ q.cell? ⟨b, o + k * 3 + 2, none⟩ = some (.int .i64 (X (k * 3 + 2))))) (first | exact ⟨⟨p0, p1, p2⟩, q0, q1, q2⟩ | go_keep)
              (first
                | (go_at_call 85; refine (differ_at (i := i) (k := k) (X := X) HALL.out hlt hlk).mono ?_; rintro e w3 ⟨rfl, hb3⟩
                   have g3 : Below w.heap.size w w3 := Below.trans HD2.out.drew (hb3.mono (by simp <;> omega))
                   clear p0 p1 p2 q0 q1 q2
                   obtain ⟨p0, p1, p2⟩ := ints_at (i := i) (IX.out.below g3 hb) hlt
                   obtain ⟨q0, q1, q2⟩ := ints_at (i := k) (IX.out.below g3 hb) hlk
                   rw [← HP.out]
                   clear hb3))
            have G3 := Lib.hid g3
            clear g3 p0 p1 p2 q0 q1 q2
            go_wp2
            go_roundw
            case rel => exact ⟨k + 1, i, k, by omega, by omega, by omega, by omega, by go_num, rfl, rfl, by rw [HP.out], by rw [Hid, ← HI.out, inn_go hlk, HS.out], G3.out⟩
            case measure => simp [intOf]; omega
          · have hs : stp X i k (x', y') = (x', y') := by unfold stp; rw [← HP.out, ← HQ.out, if_neg hc]
            have HS := Lib.hid hs
            clear hs
            go_wp2_with fail
            go_region_held3 (fun q => (q.cell? ⟨b, o + i * 3, none⟩ = some (.int .i64 (X (i * 3))) ∧ q.cell? ⟨b, o + i * 3 + 1, none⟩ = some (.int .i64 (X (i * 3 + 1))) ∧ q.cell? ⟨b, o + i * 3 + 2, none⟩ = some (.int .i64 (X (i * 3 + 2)))) ∧ (q.cell? ⟨b, o + k * 3, none⟩ = some (.int .i64 (X (k * 3))) ∧ q.cell? ⟨b, o + k * 3 + 1, none⟩ = some (.int .i64 (X (k * 3 + 1))) ∧ q.cell? ⟨b, o + k * 3 + 2, none⟩ = some (.int .i64 (X (k * 3 + 2))))) (first | exact ⟨⟨p0, p1, p2⟩, q0, q1, q2⟩ | go_keep)
              (first
                | (go_at_call 85; refine (differ_at (i := i) (k := k) (X := X) HALL.out hlt hlk).mono ?_; rintro e w3 ⟨rfl, hb3⟩
                   have g3 : Below w.heap.size w w3 := Below.trans HD2.out.drew (hb3.mono (by simp <;> omega))
                   clear p0 p1 p2 q0 q1 q2
                   obtain ⟨p0, p1, p2⟩ := ints_at (i := i) (IX.out.below g3 hb) hlt
                   obtain ⟨q0, q1, q2⟩ := ints_at (i := k) (IX.out.below g3 hb) hlk
                   rw [← HP.out]
                   clear hb3))
            have G3 := Lib.hid g3
            clear g3 p0 p1 p2 q0 q1 q2
            go_wp2
            go_roundw
            case rel => exact ⟨k + 1, x', y', by omega, by omega, by omega, by omega, by go_num, rfl, rfl, by rw [HQ.out], by rw [Hid, ← HI.out, inn_go hlk, HS.out], G3.out⟩
            case measure => simp [intOf]; omega
        · obtain rfl : k = n := by omega
          go_wp2
          go_roundw
          case rel => exact ⟨i + 1, x', y', by omega, hx', hy', by go_num, rfl, rfl, rfl, by rw [Hid, ← HO.out, outr_go hlt, ← HI.out, inn_done (Nat.le_refl _)], HD2.out⟩
          case measure => simp [intOf]; omega
    · obtain rfl : i = n := by omega
      have he : most X i = (x, y) := by rw [← HO.out, outr_done (Nat.le_refl _)]
      have HE := Lib.hid he
      clear he
      go_wp2
      go_ret3
      exact ⟨by rw [HE.out]; rfl, HD.out⟩

end Go.Proofs.Ytcpaenmhnoagdab.rod
