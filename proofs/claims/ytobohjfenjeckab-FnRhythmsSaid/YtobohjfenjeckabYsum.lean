/-
  What some beds yield together, told by bits: contracts of the model's sum and of the program's; the numbers that bits tell.
-/
import Derived.Test.YtobohjfenjeckabAfter
import Derived.Test.YtobohjfenjeckabPlan
namespace Go.Proofs.Ytobohjfenjeckab.rod
open Go.ChangeShapes Go.WideShapes Go.ChangeAt Go.RowKit Go.Proofs.Ytobohjfenjeckab.mem Go.Proofs.Ytobohjfenjeckab.nums
set_option linter.unusedVariables false

/-- what the first k beds yield together of those whose bit is set -/
def ysum (M : Nat → Nat) (Y : Nat → Nat → Int) (G : Nat → Int) (B : Nat) : Nat → Int
  | 0 => 0
  | k + 1 => ysum M Y G B k + if B.testBit k then yl (M k) (Y k) (G k) else 0
theorem ysum_yes {M : Nat → Nat} {Y : Nat → Nat → Int} {G : Nat → Int} {B k : Nat} (h : B.testBit k = true) : ysum M Y G B (k + 1) = ysum M Y G B k + yl (M k) (Y k) (G k) := by show _ + (if _ then _ else _) = _; rw [if_pos h]
theorem ysum_no {M : Nat → Nat} {Y : Nat → Nat → Int} {G : Nat → Int} {B k : Nat} (h : B.testBit k = false) : ysum M Y G B (k + 1) = ysum M Y G B k := by show _ + (if _ then _ else _) = _; rw [h]; simp
theorem ysum_bd {M : Nat → Nat} {Y : Nat → Nat → Int} {G : Nat → Int} {B n : Nat} (h : ∀ i, i < n → bedB (M i) (Y i) (G i) = true) : ∀ k, k ≤ n → 0 ≤ ysum M Y G B k ∧ ysum M Y G B k ≤ 10000 * k
  | 0, _ => by simp [ysum]
  | k + 1, hk => by
    obtain ⟨h1, h2⟩ := ysum_bd (B := B) h k (by omega)
    obtain ⟨m1, m2, hY⟩ := bedB_of (h k (by omega))
    have h3 := yl_bd (t := G k) m1.1 hY m2.1
    cases e : B.testBit k
    · rw [ysum_no e]; omega
    · rw [ysum_yes e]; omega

set_option maxHeartbeats 2000000 in
theorem sum_s (A : Option Addr) (n c : Nat) (M : Nat → Nat) (Y : Nat → Nat → Int) (G : Nat → Int) (B : Nat) (w : World) (hB : B < 2 ^ 62) (hv : bedsB n M Y G = true) (hs : Beds w A n M Y G) :
    Calls Try.prog 59 #[.slice A n c, .int .i64 B] w fun e w' => e = .returned (.int .i64 (ysum M Y G B n)) ∧ ∃ m, w' = w.drewN m := by
  obtain ⟨n8, hall⟩ := bedsB_of hv
  have HA := Lib.hid hall
  have HS := Lib.hid hs
  clear hall hs hv
  go_enter Try.func59, Try.ntmps59
  go_wp2_with fail
  go_loopw [5, 6] (fun s t wr => ∃ k : Nat, k ≤ n ∧ s = .int .i64 (ysum M Y G B k) ∧ t = .int .i64 k ∧ Drew w wr) (fun _ t _ => n - (intOf t).toNat)
  case atStart => exact ⟨0, by omega, rfl, rfl, Drew.refl _⟩
  case round =>
    obtain ⟨k, hk, rfl, rfl, hd⟩ := hrel
    have hbd := ysum_bd (B := B) HA.out k hk
    by_cases hlt : k < n
    · have hlt' : (k : Int) < (n : Int) := by omega
      have hlt2 : (k : Int) < 64 := by omega
      have hk0 : (0 : Int) ≤ (k : Int) := by omega
      obtain ⟨b, o, rfl, hb, hX⟩ := (HS.out.drew hd) (by omega)
      have HX := Lib.hid (hX k hlt)
      have p1 := (hX k hlt).2
      obtain ⟨m1, m2, hY⟩ := bedB_of (HA.out k hlt)
      have hyb := yl_bd (t := G k) m1.1 hY m2.1
      have HD := Lib.hid hd
      clear hX hd hY
      cases hbit : B.testBit k
      · have HN := Lib.hid (ysum_no (M := M) (Y := Y) (G := G) hbit)
        have hbt := i64_bit B k hB
        rw [hbit] at hbt
        generalize ysum M Y G B k = S at *
        go_wp2_with fail
        go_roundw
        case rel => exact ⟨k + 1, by omega, by rw [HN.out], by go_num, HD.out⟩
        case measure => simp [intOf]; omega
      · have HN := Lib.hid (ysum_yes (M := M) (Y := Y) (G := G) hbit)
        have hbt := i64_bit B k hB
        rw [hbit] at hbt
        generalize ysum M Y G B k = S at *
        have hw1 : IntKind.i64.wrap (S + yl (M k) (Y k) (G k)) = S + yl (M k) (Y k) (G k) := IntWalk.i64_in _ (by omega)
        go_wp2_with fail
        go_quiet ((go_at_call 60; exact Calls.quiet_of ((yield_s b (o + k * 2) (M k) (Y k) (G k) (G k) _ m1.1 m1.2 m2.1 (BedAt.drew ⟨_, rfl⟩ HX.out)).mono fun _ _ ⟨p, q⟩ => ⟨p, q⟩)))
        go_wp2
        go_roundw
        case rel => exact ⟨k + 1, by omega, by rw [HN.out], by go_num, HD.out.drewN _⟩
        case measure => simp [intOf]; omega
    · obtain rfl : k = n := by omega
      go_wp2
      go_ret
      exact ⟨rfl, hd⟩

set_option maxHeartbeats 2000000 in
theorem together_i (A : Option Addr) (n c : Nat) (M : Nat → Nat) (Y : Nat → Nat → Int) (G : Nat → Int) (B : Nat) (w : World) (hB : B < 2 ^ 16) (hv : bedsB n M Y G = true) (hs : Beds w A n M Y G) :
    Calls Try.prog 80 #[.slice A n c, .int .u16 B] w fun e w' => e = .returned (.int .i64 (ysum M Y G B n)) ∧ Below w.heap.size w w' := by
  obtain ⟨n8, hall⟩ := bedsB_of hv
  have HA := Lib.hid hall
  have HS := Lib.hid hs
  clear hall hs hv
  go_enter Try.func80, Try.ntmps80
  go_wp2_with fail
  go_loopw [5, 10] (fun s t wr => ∃ k : Nat, k ≤ n ∧ s = .int .i64 (ysum M Y G B k) ∧ t = .int .i64 k ∧ Below w.heap.size w wr) (fun _ t _ => n - (intOf t).toNat)
  case atStart => exact ⟨0, by omega, rfl, rfl, Below.refl _ _⟩
  case round =>
    obtain ⟨k, hk, rfl, rfl, hbl⟩ := hrel
    have hbd := ysum_bd (B := B) HA.out k hk
    have hzz := hbl.size
    by_cases hlt : k < n
    · have hlt' : (k : Int) < (n : Int) := by omega
      have hk16 : k < 16 := by omega
      obtain ⟨b, o, rfl, hb, hX⟩ := HS.out (by omega)
      obtain ⟨⟨P0, C0, p0, hp⟩, p1⟩ := hX k hlt
      replace p0 := (hbl.cell (p := ⟨b, o + k * 2, none⟩) hb).trans p0
      replace p1 := (hbl.cell (p := ⟨b, o + k * 2 + 1, none⟩) hb).trans p1
      have HP := Lib.hid (hp.below hbl (Nat.le_refl _))
      obtain ⟨m1, m2, hY⟩ := bedB_of (HA.out k hlt)
      have hyb := yl_bd (t := G k) m1.1 hY m2.1
      have HBL := Lib.hid hbl
      clear hX hbl hY hp
      cases hbit : B.testBit k
      · have HN := Lib.hid (ysum_no (M := M) (Y := Y) (G := G) hbit)
        generalize ysum M Y G B k = S at *
        go_wp2_with (go_at_call 77; refine (pickHas_i B k _ hB hk16).mono ?_; rintro e w' ⟨rfl, rfl⟩; rw [hbit])
        go_roundw
        case rel => exact ⟨k + 1, by omega, by rw [HN.out], by go_num, HBL.out.alloc hzz _⟩
        case measure => simp [intOf]; omega
      · have HN := Lib.hid (ysum_yes (M := M) (Y := Y) (G := G) hbit)
        generalize ysum M Y G B k = S at *
        go_wp2_with (go_at_call 77; refine (pickHas_i B k _ hB hk16).mono ?_; rintro e w' ⟨rfl, rfl⟩; rw [hbit])
        refine (yield_i P0 (M k) C0 (Y k) (G k) (G k) _ m1.1 m1.2 m2.1 (HP.out.below (K := wr.heap.size) (by go_grown) (Nat.le_refl _))).mono ?_
        rintro e w2 ⟨rfl, hb2⟩
        have g2 : Below w.heap.size w w2 := Below.trans (HBL.out.alloc hzz _) (hb2.mono (by simp; omega))
        clear hb2 p0 p1
        go_wp2
        go_roundw
        case rel => exact ⟨k + 1, by omega, by rw [HN.out], by go_num, g2⟩
        case measure => simp [intOf]; omega
    · obtain rfl : k = n := by omega
      go_wp2
      go_ret
      exact ⟨rfl, hbl⟩

set_option maxHeartbeats 2000000 in
theorem list_s (B n : Nat) (w : World) (hB : B < 2 ^ 62) (hn : n ≤ 16) :
    Calls Try.prog 44 #[.int .i64 B, .int .i64 n] w fun e w' => ∃ A c, e = .returned (.slice A (idxs B.testBit n).length c) ∧ (idxs B.testBit n).length ≤ c ∧ c ≤ maxLen ∧ Row w' w.heap.size w'.heap.size A (idxs B.testBit n).length 1 2 (fun j => (idxs B.testBit n).getD j 0) ∧ Below w.heap.size w w' := by
  obtain ⟨i0, hi0, hz0, hz1, hz2⟩ := info_parts info_num
  go_enter Try.func44, Try.ntmps44
  go_wp2_with fail
  go_loopw [6, 5] (fun s v wr => ∃ k : Nat, k ≤ n ∧ s = .int .i64 k ∧ Hid (wr.ownsRow w.heap.size 2 1 v (idxs B.testBit k).length ((idxs B.testBit k).map (Value.int .i64))) ∧ Below w.heap.size w wr) (fun s _ _ => n - (intOf s).toNat)
  case atStart => exact ⟨0, by omega, rfl, owns_empty w w.heap.size 2 (Nat.le_refl _), by go_grown⟩
  case round =>
    obtain ⟨k, hk, rfl, hown, hbl⟩ := hrel
    have HB := Lib.hid hbl
    have hzz := hbl.size
    clear hbl
    by_cases hlt : k < n
    · have hlt' : (k : Int) < (n : Int) := by omega
      have hlt2 : (k : Int) < 64 := by omega
      have hlen := idxs_len B.testBit k
      have hbt := i64_bit B k hB
      cases hp : B.testBit k
      · have HP := Lib.hid hp
        rw [hp] at hbt
        clear hp
        go_wp2_with fail
        go_roundw
        case rel => exact ⟨k + 1, by omega, by go_num, by rw [idxs_no HP.out]; exact hown.out, HB.out⟩
        case measure => simp [intOf]; omega
      · have HP := Lib.hid hp
        rw [hp] at hbt
        clear hp
        have hl1 : (idxs B.testBit k).length + 1 ≤ maxLen := by unfold maxLen; omega
        have hl2 : ((idxs B.testBit k).length + 1) * 8 ≤ 140737488355328 := by omega
        generalize hL : idxs B.testBit k = l at *
        have HL := Lib.hid hL
        clear hL
        go_wp2_with (at_builtin; refine wpList_append_own _ rfl _ _ 24 rfl w.heap.size 2 i0 (.int .i64 0) 1 8 Try.underlying24 hi0 hz0 hz1 hz2 rfl (by decide) _ _ _ rfl (hown.out.alloc _) ⟨wr.heap.size, 0, none⟩ 1 1 [.int .i64 k] rfl rfl ?c1 ?c2 hl1 hl2 ?c5 ?_)
        case c1 => intro j u hj; rcases j with _ | j <;> simp at hj; subst hj; go_simp
        case c2 => intro u hu; simp at hu; subst hu; rfl
        case c5 => simp; omega
        intro v' w1 hown1 hgrow1 _
        have g1 : Below w.heap.size w w1 := Below.grown (HB.out.alloc hzz _) hgrow1 (by simp; omega) (owns_block hown.out)
        have HO := Lib.hid (owns_snoc hown1)
        clear hown1 hgrow1
        go_wp2
        go_roundw
        case rel => exact ⟨k + 1, by omega, by go_num, by rw [idxs_yes HP.out, HL.out]; exact HO.out, g1⟩
        case measure => simp [intOf]; omega
    · obtain rfl : k = n := by omega
      obtain ⟨A', c', rfl, hc1, hc2, hrow⟩ := row_of_owns hown.out
      have HW := Lib.hid hrow
      clear hrow
      go_wp2
      go_ret
      exact ⟨_, _, rfl, hc1, hc2, HW.out, HB.out⟩

end Go.Proofs.Ytobohjfenjeckab.rod
