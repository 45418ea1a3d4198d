/-
  Contracts of the yield of a plan, told by bits, and of YieldOfPlan, of the model's and of the program's.
-/
import Derived.Test.YtcpaenmhnoagdabYieldNow
import Derived.Test.YtcpaenmhnoagdabRises
import Derived.Test.YtcpaenmhnoagdabBits
namespace Go.Proofs.Ytcpaenmhnoagdab.rod
open Go.ChangeShapes Go.WideShapes Go.ChangeAt Go.RowKit Go.Proofs.Ytcpaenmhnoagdab.mem Go.Proofs.Ytcpaenmhnoagdab.nums
set_option linter.unusedVariables false

/-- the sum of yields and the age of a bed after y years of a plan told by bits -/
def pls (m : Nat) (Y : Nat → Int) (a : Int) (B : Nat) : Nat → Int × Int
  | 0 => (0, a)
  | y + 1 => if B.testBit y then ((pls m Y a B y).1 + yl m Y (pls m Y a B y).2, 1) else ((pls m Y a B y).1, (pls m Y a B y).2 + 1)
theorem pls_yes {m : Nat} {Y : Nat → Int} {a : Int} {B y : Nat} (h : B.testBit y = true) : pls m Y a B (y + 1) = ((pls m Y a B y).1 + yl m Y (pls m Y a B y).2, 1) := by
  show (if _ then _ else _) = _; rw [if_pos h]
theorem pls_no {m : Nat} {Y : Nat → Int} {a : Int} {B y : Nat} (h : B.testBit y = false) : pls m Y a B (y + 1) = ((pls m Y a B y).1, (pls m Y a B y).2 + 1) := by
  show (if _ then _ else _) = _; rw [h]; rfl
theorem pls_bd {m : Nat} {Y : Nat → Int} {a : Int} {B : Nat} (hm : 1 ≤ m) (hY : ∀ i, i < m → 0 ≤ Y i ∧ Y i ≤ 10000) (ha : 0 ≤ a) (h5 : a ≤ 5) : ∀ y : Nat,
    0 ≤ (pls m Y a B y).1 ∧ (pls m Y a B y).1 ≤ 10000 * y ∧ 0 ≤ (pls m Y a B y).2 ∧ (pls m Y a B y).2 ≤ 5 + y
  | 0 => by simp [pls]; omega
  | y + 1 => by
    obtain ⟨h1, h2, h3, h4⟩ := pls_bd (B := B) hm hY ha h5 y
    have h6 := yl_bd (t := (pls m Y a B y).2) hm hY h3
    cases e : B.testBit y
    · rw [pls_no e]; refine ⟨?_, ?_, ?_, ?_⟩ <;> simp only [] <;> omega
    · rw [pls_yes e]; refine ⟨?_, ?_, ?_, ?_⟩ <;> simp only [] <;> omega

set_option maxHeartbeats 2000000 in
theorem plan_s (b o m : Nat) (Y : Nat → Int) (a : Int) (B years : Nat) (w : World) (hB : B < 4096) (hy : years ≤ 12) (hv : bedB m Y a = true) (h : BedAt w b o m Y a) :
    Calls Try.prog 97 #[.pointer (some ⟨b, o, none⟩), .int .i64 B, .int .i64 years] w fun e w' => e = .returned (.int .i64 (pls m Y a B years).1) ∧ ∃ n, w' = w.drewN n := by
  obtain ⟨⟨m1, m5⟩, m2, hYY⟩ := bedB_of hv
  have HY := Lib.hid hYY
  have HB := Lib.hid h
  clear h hYY hv
  go_enter Try.func97, Try.ntmps97
  have c0 : w.cell? ⟨b, o + 1, none⟩ = some (.int .i64 a) := HB.out.2
  go_wp2_with fail
  go_loopw [7, 8, 9] (fun s t u wr => ∃ k : Nat, k ≤ years ∧ s = .int .i64 (pls m Y a B k).1 ∧ t = .int .i64 (pls m Y a B k).2 ∧ u = .int .i64 k ∧ Drew w wr) (fun _ _ u _ => years - (intOf u).toNat)
  case atStart => exact ⟨0, by omega, rfl, rfl, rfl, Drew.refl _⟩
  case round =>
    obtain ⟨k, hk, rfl, rfl, rfl, hd⟩ := hrel
    have HD := Lib.hid hd
    clear hd
    obtain ⟨p1, p2, p3, p4⟩ := pls_bd (B := B) m1 HY.out m2.1 (by omega) k
    by_cases hlt : k < years
    · have hlt' : (k : Int) < (years : Int) := by omega
      have hlt2 : (k : Int) < 64 := by omega
      cases hbit : B.testBit k
      · have HN := Lib.hid (pls_no (m := m) (Y := Y) (a := a) hbit)
        have hbt := i64_bit B k (by omega)
        rw [hbit] at hbt
        generalize (pls m Y a B k).1 = s at *
        generalize (pls m Y a B k).2 = t at *
        go_wp2_with fail
        go_roundw
        case rel => exact ⟨k + 1, by omega, by rw [HN.out], by rw [HN.out], by go_num, HD.out⟩
        case measure => simp [intOf]; omega
      · have HN := Lib.hid (pls_yes (m := m) (Y := Y) (a := a) hbit)
        have hbt := i64_bit B k (by omega)
        rw [hbit] at hbt
        generalize (pls m Y a B k).1 = s at *
        generalize (pls m Y a B k).2 = t at *
        have q := yl_bd (t := t) m1 HY.out p3
        have hw1 : IntKind.i64.wrap (s + yl m Y t) = s + yl m Y t := IntWalk.i64_in _ (by omega)
        go_wp2_with fail
        refine (yield_s b o m Y a t _ m1 m5 p3 (HB.out.drew HD.out)).mono ?_
        rintro e w' ⟨rfl, n, rfl⟩
        go_wp2
        go_roundw
        case rel => exact ⟨k + 1, by omega, by rw [HN.out], by rw [HN.out], by go_num, HD.out.drewN _⟩
        case measure => simp [intOf]; omega
    · obtain rfl : k = years := by omega
      go_wp2
      go_ret
      exact ⟨rfl, HD.out⟩

end Go.Proofs.Ytcpaenmhnoagdab.rod
