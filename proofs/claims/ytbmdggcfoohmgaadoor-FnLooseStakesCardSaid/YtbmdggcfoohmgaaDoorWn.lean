/-
  Contracts: the longest run of a text that is repeated, of the model and of the program.
-/
import Derived.Test.YtbmdggcfoohmgaaDoorWr
import Derived.Laws.RangeString
import Derived.Laws.RangeAny
namespace Go.Proofs.YtbmdggcfoohmgaaDoor.wk
open Go.ChangeShapes Go.WideShapes Go.ChangeAt Go.RowKit
open Go.Proofs.YtbmdggcfoohmgaaDoor.mem Go.Proofs.YtbmdggcfoohmgaaDoor.rod Go.Proofs.YtbmdggcfoohmgaaDoor.wv
set_option linter.unusedVariables false

theorem max_s (a b : Nat) (w : World) :
    Calls Tryd.prog 122 #[.int .i64 (a : Int), .int .i64 (b : Int)] w fun e w' => e = .returned (.int .i64 ((max a b : Nat) : Int)) ∧ w = w' := by
  by_cases h : b < a
  · have h' : (b : Int) < (a : Int) := by omega
    have e : max a b = a := by omega
    rw [e]
    clear e
    go_enter Tryd.func122, Tryd.ntmps122
    go_wp2
    go_ret
    exact ⟨rfl, rfl⟩
  · have h' : ¬ (b : Int) < (a : Int) := by omega
    have e : max a b = b := by omega
    rw [e]
    clear e
    go_enter Tryd.func122, Tryd.ntmps122
    go_wp2
    go_ret
    exact ⟨rfl, rfl⟩

theorem rs_eq {f : Nat → Int} {k : Nat} (h : f (k + 1) = f k) : rs f (k + 1) = re f k := if_pos h
theorem rs_ne {f : Nat → Int} {k : Nat} (h : ¬ f (k + 1) = f k) : rs f (k + 1) = 0 := if_neg h
theorem mb_eq {f : Nat → Int} {k : Nat} (h : f (k + 1) = f k) : mb f (k + 1) = mb f k := if_pos h
theorem mb_ne {f : Nat → Int} {k : Nat} (h : ¬ f (k + 1) = f k) : mb f (k + 1) = max (mb f k) (re f k) := if_neg h
theorem rs_le (f : Nat → Int) (i : Nat) : rs f i ≤ i := by have := re_le f i; have := re_rs f i; omega
set_option maxHeartbeats 2000000 in
theorem run_s (t : ByteArray) (w : World) (h0 : 0 < t.size) (hs : t.size ≤ 60) :
    Calls Tryd.prog 116 #[.string t] w fun e w' => e = .returned (.int .i64 (frun (byteAt t) t.size : Nat)) ∧ Below w.heap.size w w' := by
  obtain ⟨f, hf⟩ : ∃ f, f = cyc (byteAt t) t.size := ⟨_, rfl⟩
  have HF := Lib.hid hf
  unfold frun
  rw [← hf]
  clear hf
  have e3 : ¬ (t.size : Int) = 0 := by omega
  have e1 : ((t.size : Int) == 0) = false := beq_false_of_ne e3
  have h2 : (1 : Int) ≤ (t.size : Int) := by omega
  go_enter Tryd.func116, Tryd.ntmps116
  go_wp2_with fail
  go_loopw [5, 4, 3] (fun i r m wr => ∃ k : Nat, k ≤ 2 * t.size ∧ i = .int .i64 (k : Int) ∧ r = .int .i64 ((rs f k : Nat) : Int) ∧ m = .int .i64 ((mb f k : Nat) : Int) ∧ Below w.heap.size w wr) (fun i _ _ _ => 2 * t.size - (intOf i).toNat)
  case atStart => exact ⟨0, by omega, rfl, rfl, rfl, Below.refl _ _⟩
  case round =>
    obtain ⟨k, hk, rfl, rfl, rfl, hd⟩ := hrel
    have HD := Lib.hid hd
    clear hd
    have b1 := rs_le f k
    have b2 := mb_le f k
    by_cases hlt : k < 2 * t.size
    · have hlt' : (k : Int) < 2 * (t.size : Int) := by omega
      have hk0 : (0 : Int) ≤ (k : Int) := by omega
      have hre := re_rs f k
      obtain ⟨p, hp⟩ : ∃ p, k % t.size = p := ⟨_, rfl⟩
      obtain ⟨q, hq⟩ : ∃ q, (k + 1) % t.size = q := ⟨_, rfl⟩
      have hpl : p < t.size := by rw [← hp]; exact Nat.mod_lt _ h0
      have hql : q < t.size := by rw [← hq]; exact Nat.mod_lt _ h0
      have fp : f k = ((t[p]'hpl).toNat : Int) := by rw [HF.out]; unfold cyc; rw [hp, byteAt_eq hpl]
      have fq : f (k + 1) = ((t[q]'hql).toNat : Int) := by rw [HF.out]; unfold cyc; rw [hq, byteAt_eq hql]
      have ip : (k : Int).tmod (t.size : Int) = (p : Int) := by rw [← hp, Int.tmod_eq_emod_of_nonneg hk0]; omega
      have iq : ((k : Int) + 1).tmod (t.size : Int) = (q : Int) := by rw [← hq, Int.tmod_eq_emod_of_nonneg (by omega)]; push_cast; rfl
      have ip2 : (k : Int) % (t.size : Int) = (p : Int) := by rw [← hp]; omega
      have iq2 : ((k : Int) + 1) % (t.size : Int) = (q : Int) := by rw [← hq]; push_cast; rfl
      have wp : IntKind.i64.wrap (p : Int) = (p : Int) := IntWalk.i64_in _ (by omega)
      have wq : IntKind.i64.wrap (q : Int) = (q : Int) := IntWalk.i64_in _ (by omega)
      have wk : IntKind.i64.wrap ((k : Int) + 1) = (k : Int) + 1 := IntWalk.i64_in _ (by omega)
      have pl : (p : Int) < (t.size : Int) := by omega
      have ql : (q : Int) < (t.size : Int) := by omega
      have p0 : (0 : Int) ≤ (p : Int) := by omega
      have q0 : (0 : Int) ≤ (q : Int) := by omega
      clear hp hq
      by_cases hb : f (k + 1) = f k
      · have n1 := Lib.hid (show rs f (k + 1) = rs f k + 1 from (rs_eq hb).trans hre)
        have n2 := Lib.hid (show mb f (k + 1) = mb f k from mb_eq hb)
        have g1 : (((t[p]'hpl).toNat : Int) == ((t[q]'hql).toNat : Int)) = true := by rw [← fp, ← fq, hb]; simp
        have g2 : (((t[p]'hpl).toNat : Int) != ((t[q]'hql).toNat : Int)) = false := by rw [bne, g1]; rfl
        clear hb fp fq hre
        generalize rs f k = r0 at *
        generalize mb f k = m0 at *
        go_wp2_with fail
        go_quiet (fail)
        go_wp2
        go_roundw
        case rel => exact ⟨k + 1, by omega, by go_num, by rw [n1.out]; go_num, by rw [n2.out], by first | exact HD.out | exact drewN_below HD.out _⟩
        case measure => simp [intOf]; omega
      · have n1 := Lib.hid (show rs f (k + 1) = 0 from rs_ne hb)
        have n2 := Lib.hid (show mb f (k + 1) = max (mb f k) (rs f k + 1) by rw [mb_ne hb, hre])
        have g1 : (((t[p]'hpl).toNat : Int) == ((t[q]'hql).toNat : Int)) = false := by rw [← fp, ← fq]; exact beq_false_of_ne fun e => hb e.symm
        have g2 : (((t[p]'hpl).toNat : Int) != ((t[q]'hql).toNat : Int)) = true := by rw [bne, g1]; rfl
        clear hb fp fq hre
        generalize rs f k = r0 at *
        generalize mb f k = m0 at *
        have HM := Lib.hid (fun W => max_s m0 (r0 + 1) W)
        rw [Int.natCast_add] at HM
        go_wp2_with fail
        go_quiet (fail)
        go_wp2_with (go_at_call 122; refine (HM.out _).mono ?_; rintro e w' ⟨rfl, rfl⟩)
        go_roundw
        case rel => exact ⟨k + 1, by omega, by go_num, by rw [n1.out]; rfl, by rw [n2.out], by first | exact HD.out | exact drewN_below HD.out _⟩
        case measure => simp [intOf]; omega
    · obtain rfl : k = 2 * t.size := by omega
      go_wp2
      go_ret
      exact ⟨rfl, HD.out⟩

end Go.Proofs.YtbmdggcfoohmgaaDoor.wk
