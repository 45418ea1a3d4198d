/-
  What some beds yield together, told by bits: contracts of the model's sum and of the program's; the numbers that bits tell.
-/
import Derived.Test.YtcpaenmhnoagdacAfter
import Derived.Test.YtcpaenmhnoagdacPlan
import Derived.Test.YtcpaenmhnoagdacPick
namespace Go.Proofs.Ytcpaenmhnoagdac.rod
open Go.ChangeShapes Go.WideShapes Go.ChangeAt Go.RowKit Go.Proofs.Ytcpaenmhnoagdac.mem Go.Proofs.Ytcpaenmhnoagdac.nums
set_option linter.unusedVariables false

/-- what the first k beds yield together of those whose bit is set -/
def ysum (M : Nat → Nat) (Y : Nat → Nat → Int) (G : Nat → Int) (B : Nat) : Nat → Int
  | 0 => 0
  | k + 1 => ysum M Y G B k + if B.testBit k then yl (M k) (Y k) (G k) else 0
theorem ysum_yes {M : Nat → Nat} {Y : Nat → Nat → Int} {G : Nat → Int} {B k : Nat} (h : B.testBit k = true) : ysum M Y G B (k + 1) = ysum M Y G B k + yl (M k) (Y k) (G k) := by show _ + (if _ then _ else _) = _; rw [if_pos h]
theorem ysum_no {M : Nat → Nat} {Y : Nat → Nat → Int} {G : Nat → Int} {B k : Nat} (h : B.testBit k = false) : ysum M Y G B (k + 1) = ysum M Y G B k := by show _ + (if _ then _ else _) = _; rw [h]; simp
theorem ysum_bd {M : Nat → Nat} {Y : Nat → Nat → Int} {G : Nat → Int} {B n : Nat} (h : ∀ i, i < n → bedB (M i) (Y i) (G i) = true) : ∀ k, k ≤ n → 0 ≤ ysum M Y G B k ∧ ysum M Y G B k ≤ 10000 * k
  | 0, _ => by simp [ysum]
  | k + 1, hk => by
    obtain ⟨h1, h2⟩ := ysum_bd (B := B) h k (by omega)
    obtain ⟨m1, m2, hY⟩ := bedB_of (h k (by omega))
    have h3 := yl_bd (t := G k) m1.1 hY m2.1
    cases e : B.testBit k
    · rw [ysum_no e]; omega
    · rw [ysum_yes e]; omega

set_option maxHeartbeats 2000000 in
theorem sum_s (A : Option Addr) (n c : Nat) (M : Nat → Nat) (Y : Nat → Nat → Int) (G : Nat → Int) (B : Nat) (w : World) (hB : B < 2 ^ 62) (hv : bedsB n M Y G = true) (hs : Beds w A n M Y G) :
    Calls Try.prog 111 #[.slice A n c, .int .i64 B] w fun e w' => e = .returned (.int .i64 (ysum M Y G B n)) ∧ ∃ m, w' = w.drewN m := by
  obtain ⟨n8, hall⟩ := bedsB_of hv
  have HA := Lib.hid hall
  have HS := Lib.hid hs
  clear hall hs hv
  go_enter Try.func111, Try.ntmps111
  go_wp2_with fail
  go_loopw [5, 6] (fun s t wr => ∃ k : Nat, k ≤ n ∧ s = .int .i64 (ysum M Y G B k) ∧ t = .int .i64 k ∧ Drew w wr) (fun _ t _ => n - (intOf t).toNat)
  case atStart => exact ⟨0, by omega, rfl, rfl, Drew.refl _⟩
  case round =>
    obtain ⟨k, hk, rfl, rfl, hd⟩ := hrel
    have hbd := ysum_bd (B := B) HA.out k hk
    by_cases hlt : k < n
    · have hlt' : (k : Int) < (n : Int) := by omega
      have hlt2 : (k : Int) < 64 := by omega
      have hk0 : (0 : Int) ≤ (k : Int) := by omega
      obtain ⟨b, o, rfl, hb, hX⟩ := (HS.out.drew hd) (by omega)
      have HX := Lib.hid (hX k hlt)
      have p1 := (hX k hlt).2
      obtain ⟨m1, m2, hY⟩ := bedB_of (HA.out k hlt)
      have hyb := yl_bd (t := G k) m1.1 hY m2.1
      have HD := Lib.hid hd
      clear hX hd hY
      cases hbit : B.testBit k
      · have HN := Lib.hid (ysum_no (M := M) (Y := Y) (G := G) hbit)
        have hbt := i64_bit B k hB
        rw [hbit] at hbt
        generalize ysum M Y G B k = S at *
        go_wp2_with fail
        go_roundw
        case rel => exact ⟨k + 1, by omega, by rw [HN.out], by go_num, HD.out⟩
        case measure => simp [intOf]; omega
      · have HN := Lib.hid (ysum_yes (M := M) (Y := Y) (G := G) hbit)
        have hbt := i64_bit B k hB
        rw [hbit] at hbt
        generalize ysum M Y G B k = S at *
        have hw1 : IntKind.i64.wrap (S + yl (M k) (Y k) (G k)) = S + yl (M k) (Y k) (G k) := IntWalk.i64_in _ (by omega)
        go_wp2_with fail
        go_quiet ((go_at_call 122; exact Calls.quiet_of ((yield_s b (o + k * 2) (M k) (Y k) (G k) (G k) _ m1.1 m1.2 m2.1 (BedAt.drew ⟨_, rfl⟩ HX.out)).mono fun _ _ ⟨p, q⟩ => ⟨p, q⟩)))
        go_wp2
        go_roundw
        case rel => exact ⟨k + 1, by omega, by rw [HN.out], by go_num, HD.out.drewN _⟩
        case measure => simp [intOf]; omega
    · obtain rfl : k = n := by omega
      go_wp2
      go_ret
      exact ⟨rfl, hd⟩

set_option maxHeartbeats 2000000 in
theorem together_i (A : Option Addr) (n c : Nat) (M : Nat → Nat) (Y : Nat → Nat → Int) (G : Nat → Int) (B : Nat) (w : World) (hB : B < 2 ^ 32) (hv : bedsB n M Y G = true) (hs : Beds w A n M Y G) :
    Calls Try.prog 110 #[.slice A n c, .int .u32 B] w fun e w' => e = .returned (.int .i64 (ysum M Y G B n)) ∧ Below w.heap.size w w' := by
  obtain ⟨n8, hall⟩ := bedsB_of hv
  have HA := Lib.hid hall
  have HS := Lib.hid hs
  clear hall hs hv
  go_enter Try.func110, Try.ntmps110
  go_wp2_with fail
  go_loopw [5, 10] (fun s t wr => ∃ k : Nat, k ≤ n ∧ s = .int .i64 (ysum M Y G B k) ∧ t = .int .i64 k ∧ Below w.heap.size w wr) (fun _ t _ => n - (intOf t).toNat)
  case atStart => exact ⟨0, by omega, rfl, rfl, Below.refl _ _⟩
  case round =>
    obtain ⟨k, hk, rfl, rfl, hbl⟩ := hrel
    have hbd := ysum_bd (B := B) HA.out k hk
    have hzz := hbl.size
    by_cases hlt : k < n
    · have hlt' : (k : Int) < (n : Int) := by omega
      have hk16 : k < 32 := by omega
      obtain ⟨b, o, rfl, hb, hX⟩ := HS.out (by omega)
      obtain ⟨⟨P0, C0, p0, hp⟩, p1⟩ := hX k hlt
      replace p0 := (hbl.cell (p := ⟨b, o + k * 2, none⟩) hb).trans p0
      replace p1 := (hbl.cell (p := ⟨b, o + k * 2 + 1, none⟩) hb).trans p1
      have HP := Lib.hid (hp.below hbl (Nat.le_refl _))
      obtain ⟨m1, m2, hY⟩ := bedB_of (HA.out k hlt)
      have hyb := yl_bd (t := G k) m1.1 hY m2.1
      have HBL := Lib.hid hbl
      clear hX hbl hY hp
      cases hbit : B.testBit k
      · have HN := Lib.hid (ysum_no (M := M) (Y := Y) (G := G) hbit)
        generalize ysum M Y G B k = S at *
        go_wp2_with (go_at_call 106; refine (pickHas_i B k _ hB hk16).mono ?_; rintro e w' ⟨rfl, rfl⟩; rw [hbit])
        go_roundw
        case rel => exact ⟨k + 1, by omega, by rw [HN.out], by go_num, HBL.out.alloc hzz _⟩
        case measure => simp [intOf]; omega
      · have HN := Lib.hid (ysum_yes (M := M) (Y := Y) (G := G) hbit)
        generalize ysum M Y G B k = S at *
        go_wp2_with (go_at_call 106; refine (pickHas_i B k _ hB hk16).mono ?_; rintro e w' ⟨rfl, rfl⟩; rw [hbit])
        refine (yield_i P0 (M k) C0 (Y k) (G k) (G k) _ m1.1 m1.2 m2.1 (HP.out.below (K := wr.heap.size) (by go_grown) (Nat.le_refl _))).mono ?_
        rintro e w2 ⟨rfl, hb2⟩
        have g2 : Below w.heap.size w w2 := Below.trans (HBL.out.alloc hzz _) (hb2.mono (by simp; omega))
        clear hb2 p0 p1
        go_wp2
        go_roundw
        case rel => exact ⟨k + 1, by omega, by rw [HN.out], by go_num, g2⟩
        case measure => simp [intOf]; omega
    · obtain rfl : k = n := by omega
      go_wp2
      go_ret
      exact ⟨rfl, hbl⟩

end Go.Proofs.Ytcpaenmhnoagdac.rod
