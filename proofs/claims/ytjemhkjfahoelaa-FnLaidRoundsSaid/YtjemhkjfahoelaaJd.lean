/-
  Contracts of the joins above others, of the model and of the program. No condition of a statement lies here.
-/
import Derived.BigQuiet
import Derived.Deep.QuietTactic
import Derived.Deep.RegionHeld3
import Derived.Test.YtjemhkjfahoelaaJb
namespace Go.Proofs.Ytjemhkjfahoelaa.jns
open Go.ChangeShapes Go.WideShapes Go.ChangeAt Go.RowKit Go.Proofs.Ytjemhkjfahoelaa.mem Go.Proofs.Ytjemhkjfahoelaa.rod Go.Proofs.Ytjemhkjfahoelaa.nums
set_option linter.unusedVariables false
set_option maxRecDepth 100000

/-- the size of a difference less than a round is small -/
def nearB (J : Nat → Int) (pl st bs : Int) (k : Nat) : Bool := decide (siz (pl - J k - st) ≤ bs)
theorem nearB_bel (X : Nat → Int) (st bs : Int) (i : Nat) : nearB (fun j => ps X (j + 1)) (ps X (i + 1)) st bs = belB X st bs i := rfl

set_option maxHeartbeats 1000000 in
theorem below_i (e pl st bs : Int) (pb wb : Nat) (w : World) (e0 : 0 ≤ e) (e1 : e ≤ 1400) (p0 : 0 ≤ pl) (p1 : pl ≤ 1400) (s0 : 3 ≤ st) (s1 : st ≤ 60) (c0 : w.cell? ⟨pb, 0, none⟩ = some (.int .i64 pl)) (c1 : w.cell? ⟨wb, 0, none⟩ = some (.int .i64 st)) (c2 : w.cell? ⟨wb, 2, none⟩ = some (.int .i64 bs)) :
    Calls Try.prog 51 #[.int .i64 e, .pointer (some ⟨pb, 0, none⟩), .pointer (some ⟨wb, 0, none⟩)] w fun r w' => r = .returned (.bool (decide (siz (pl - e - st) ≤ bs))) ∧ Drew w w' := by
  go_enter Try.func51, Try.ntmps51
  go_wp2_with fail
  go_quiet ((go_at_call 52; exact Calls.quiet_of_same ((dist_i _ _ (by omega) (by omega) (by omega) (by omega) _).mono fun _ _ ⟨p, q⟩ => ⟨p, q.symm⟩)))
  go_wp2
  go_ret
  exact ⟨rfl, (Drew.refl _).drewN _⟩

set_option maxHeartbeats 4000000 in
theorem indexF_i (b n c : Nat) (J : Nat → Int) (pl st bs : Int) (pb wb : Nat) (w : World) (hn : n ≤ 7) (hJ : ∀ j, j < n → 0 ≤ J j ∧ J j ≤ 1400) (p0 : 0 ≤ pl) (p1 : pl ≤ 1400) (s0 : 3 ≤ st) (s1 : st ≤ 60) (hI : ∀ j, j < n → w.cell? ⟨b, j, none⟩ = some (.int .i64 (J j))) (c0 : w.cell? ⟨pb, 0, none⟩ = some (.int .i64 pl)) (c1 : w.cell? ⟨wb, 0, none⟩ = some (.int .i64 st)) (c2 : w.cell? ⟨wb, 2, none⟩ = some (.int .i64 bs)) :
    Calls Try.prog 55 #[.slice (some ⟨b, 0, none⟩) n c, .func (.func 51) #[] #[.pointer (some ⟨pb, 0, none⟩), .pointer (some ⟨wb, 0, none⟩)]] w fun e w' => ∃ r : Int, e = .returned (.int .i64 r) ∧ decide (0 ≤ r) = anyB (nearB J pl st bs) n ∧ Drew w w' := by
  have HI := Lib.hid hI
  have HJ := Lib.hid hJ
  have HC := Lib.hid (show w.cell? ⟨pb, 0, none⟩ = some (.int .i64 pl) ∧ w.cell? ⟨wb, 0, none⟩ = some (.int .i64 st) ∧ w.cell? ⟨wb, 2, none⟩ = some (.int .i64 bs) from ⟨c0, c1, c2⟩)
  clear hI c0 c1 c2 hJ
  go_enter Try.func55, Try.ntmps55
  go_wp2_with fail
  go_loopw [8] (fun t wr => ∃ (k : Nat), k ≤ n ∧ t = .int .i64 k ∧ Hid (anyB (nearB J pl st bs) k = false) ∧ Drew w wr) (fun t _ => n - (intOf t).toNat)
  case atStart => exact ⟨0, by omega, rfl, rfl, Drew.refl _⟩
  case round =>
    obtain ⟨k, hk, rfl, HA, hd⟩ := hrel
    have HD := Lib.hid hd
    clear hd
    by_cases hlt : k < n
    · have hlt' : (k : Int) < (n : Int) := by omega
      have hk0 : (0 : Int) ≤ (k : Int) := by omega
      have p0' := HD.out.cell (HI.out k hlt)
      obtain ⟨j0, j1⟩ := HJ.out k hlt
      cases hq : nearB J pl st bs k
      · have HN := Lib.hid (show anyB (nearB J pl st bs) (k + 1) = false by unfold anyB; rw [HA.out, hq]; rfl)
        have HQ := Lib.hid hq
        clear hq
        go_wp2_with fail
        refine (below_i (J k) pl st bs pb wb _ j0 j1 p0 p1 s0 s1 (HD.out.cell HC.out.1) (HD.out.cell HC.out.2.1) (HD.out.cell HC.out.2.2)).mono ?_
        rintro e w2 ⟨rfl, hd2⟩
        rw [show decide (siz (pl - J k - st) ≤ bs) = false from HQ.out]
        obtain ⟨m2, rfl⟩ := hd2
        go_wp2
        go_roundw
        case rel => exact ⟨k + 1, by omega, by go_num, HN.out, HD.out.drewN _⟩
        case measure => simp [intOf]; omega
      · have HN := Lib.hid (anyB_yes hlt hq)
        have HQ := Lib.hid hq
        clear hq
        go_wp2_with fail
        refine (below_i (J k) pl st bs pb wb _ j0 j1 p0 p1 s0 s1 (HD.out.cell HC.out.1) (HD.out.cell HC.out.2.1) (HD.out.cell HC.out.2.2)).mono ?_
        rintro e w2 ⟨rfl, hd2⟩
        rw [show decide (siz (pl - J k - st) ≤ bs) = true from HQ.out]
        obtain ⟨m2, rfl⟩ := hd2
        go_wp2
        go_ret
        exact ⟨k, rfl, by rw [HN.out]; simp, HD.out.drewN _⟩
    · obtain rfl : n = k := by omega
      go_wp2
      go_ret
      exact ⟨-1, rfl, by rw [HA.out]; simp, HD.out⟩

set_option maxHeartbeats 1000000 in
theorem containsF_i (b n c : Nat) (J : Nat → Int) (pl st bs : Int) (pb wb : Nat) (w : World) (hn : n ≤ 7) (hJ : ∀ j, j < n → 0 ≤ J j ∧ J j ≤ 1400) (p0 : 0 ≤ pl) (p1 : pl ≤ 1400) (s0 : 3 ≤ st) (s1 : st ≤ 60) (hI : ∀ j, j < n → w.cell? ⟨b, j, none⟩ = some (.int .i64 (J j))) (c0 : w.cell? ⟨pb, 0, none⟩ = some (.int .i64 pl)) (c1 : w.cell? ⟨wb, 0, none⟩ = some (.int .i64 st)) (c2 : w.cell? ⟨wb, 2, none⟩ = some (.int .i64 bs)) :
    Calls Try.prog 53 #[.slice (some ⟨b, 0, none⟩) n c, .func (.func 51) #[] #[.pointer (some ⟨pb, 0, none⟩), .pointer (some ⟨wb, 0, none⟩)]] w fun e w' => e = .returned (.bool (anyB (nearB J pl st bs) n)) ∧ Drew w w' := by
  have HH := Lib.hid (indexF_i b n c J pl st bs pb wb w hn hJ p0 p1 s0 s1 hI c0 c1 c2)
  clear hI hJ c0 c1 c2
  go_enter Try.func53, Try.ntmps53
  go_wp2_with fail
  refine HH.out.mono ?_
  rintro e w1 ⟨r, rfl, hrr, hb1⟩
  have HRR := Lib.hid hrr
  clear hrr
  go_wp2
  go_ret
  exact ⟨by rw [← HRR.out]; rfl, hb1⟩

end Go.Proofs.Ytjemhkjfahoelaa.jns
