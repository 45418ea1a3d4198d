/-
  The longest run of a text that is repeated: the model's contract in the chapter on twills. No condition of a statement lies here.
-/
import Derived.Test.YtopiecbldnhihaaDoorFold8
import Derived.Test.YtopiecbldnhihaaDoorWl
import Derived.BigQuiet
namespace Go.Proofs.YtopiecbldnhihaaDoor.twl
open Go.ChangeShapes Go.WideShapes Go.ChangeAt Go.RowKit Go.Deep Go.Proofs.YtopiecbldnhihaaDoor.mem Go.Proofs.YtopiecbldnhihaaDoor.rod Go.Proofs.YtopiecbldnhihaaDoor.nums Go.Proofs.YtopiecbldnhihaaDoor.shp Go.Proofs.YtopiecbldnhihaaDoor.wv Go.Proofs.YtopiecbldnhihaaDoor.wk
set_option linter.unusedVariables false
set_option maxRecDepth 100000

theorem minT_s (a b : Nat) (w : World) :
    Calls Tryd.prog 66 #[.int .i64 (a : Int), .int .i64 (b : Int)] w fun e w' => e = .returned (.int .i64 ((min a b : Nat) : Int)) ∧ w = w' := by
  by_cases h : a < b
  · have h' : (a : Int) < (b : Int) := by omega
    have e : min a b = a := by omega
    rw [e]
    clear e
    go_enter Tryd.func66, Tryd.ntmps66
    go_wp2
    go_ret
    exact ⟨rfl, rfl⟩
  · have h' : ¬ (a : Int) < (b : Int) := by omega
    have e : min a b = b := by omega
    rw [e]
    clear e
    go_enter Tryd.func66, Tryd.ntmps66
    go_wp2
    go_ret
    exact ⟨rfl, rfl⟩
theorem re_eq' {f : Nat → Int} {k : Nat} (h : f (k + 1) = f k) : re f (k + 1) = re f k + 1 := if_pos h
theorem re_ne' {f : Nat → Int} {k : Nat} (h : ¬ f (k + 1) = f k) : re f (k + 1) = 1 := if_neg h

set_option maxHeartbeats 2000000 in
theorem run09_s (s : ByteArray) (w : World) (h0 : 0 < s.size) (hs : s.size ≤ 12) :
    Calls Tryd.prog 48 #[.string s] w fun e w' => e = .returned (.int .i64 (lrun (byteAt s) s.size : Nat)) ∧ Drew w w' := by
  obtain ⟨f, hf⟩ : ∃ f, f = cyc (byteAt s) s.size := ⟨_, rfl⟩
  have hL : lrun (byteAt s) s.size = min (mx f (2 * s.size)) s.size := by rw [hf]; rfl
  rw [hL]
  have HF := Lib.hid (fun k => show f k = byteAt s (k % s.size) by rw [hf]; rfl)
  clear hf hL
  go_enter Tryd.func48, Tryd.ntmps48
  go_wp2_with fail
  go_loopw [4, 5, 6] (fun a b i wr => ∃ k : Nat, k ≤ 2 * s.size ∧ i = .int .i64 (k : Int) ∧ a = .int .i64 (mx f k : Nat) ∧ b = .int .i64 (pr f k : Nat) ∧ Drew w wr) (fun _ _ i _ => 2 * s.size - (intOf i).toNat)
  case atStart => exact ⟨0, by omega, rfl, rfl, rfl, Drew.refl _⟩
  case round =>
    obtain ⟨k, hk, rfl, rfl, rfl, hd⟩ := hrel
    have hw2 : IntKind.i64.wrap (2 * (s.size : Int)) = 2 * (s.size : Int) := by rw [IntKind.wrap_i64]; omega
    have hpl := pr_le f k
    have hml := mx_le f k
    have hre := re_le f k
    have HMX := Lib.hid (show mx f (k + 1) = max (mx f k) (re f k) from rfl)
    have HPR := Lib.hid (show pr f (k + 1) = re f k from rfl)
    by_cases hlt : k < 2 * s.size
    · have hlt' : (k : Int) < 2 * (s.size : Int) := by omega
      have hk0 : (0 : Int) ≤ (k : Int) := by omega
      by_cases hz : k = 0
      · subst hz
        have hz1 : decide ((0 : Int) < ((0 : Nat) : Int)) = false := rfl
        have hr1 : re f 0 = 1 := rfl
        rw [hr1] at HMX HPR
        have hp0 : pr f 0 = 0 := rfl
        have hm0 : mx f 0 = 0 := rfl
        rw [hp0, hm0]
        rw [hm0] at HMX
        clear hr1 hp0 hm0 hpl hml hre
        go_wp2_with fail
        go_quiet (fail)
        go_wp2_with (go_at_call 47; refine (max_s 0 1 _).mono ?_; rintro e w' ⟨rfl, rfl⟩)
        go_roundw
        case rel => exact ⟨1, by omega, by go_num, by rw [HMX.out]; rfl, by rw [HPR.out]; rfl, hd.drewN _⟩
        case measure => simp [intOf]; omega
      · obtain ⟨j, hj⟩ : ∃ j, k = j + 1 := ⟨k - 1, by omega⟩
        obtain ⟨a, haa⟩ : ∃ a : Nat, a = k % s.size := ⟨_, rfl⟩
        obtain ⟨b, hbb⟩ : ∃ b : Nat, b = j % s.size := ⟨_, rfl⟩
        have ha : a < s.size := by rw [haa]; exact Nat.mod_lt _ h0
        have hb : b < s.size := by rw [hbb]; exact Nat.mod_lt _ h0
        have ha0 : (0 : Int) ≤ (a : Int) := by omega
        have ha1 : (a : Int) < (s.size : Int) := by omega
        have hb0 : (0 : Int) ≤ (b : Int) := by omega
        have hb1 : (b : Int) < (s.size : Int) := by omega
        have hm1 : (k : Int) % (s.size : Int) = (a : Int) := by rw [haa, Int.natCast_emod]
        have hm2 : (j : Int) % (s.size : Int) = (b : Int) := by rw [hbb, Int.natCast_emod]
        have hw1 : IntKind.i64.wrap ((k : Int) - 1) = (j : Int) := by rw [IntKind.wrap_i64]; omega
        have hn0 : ((s.size : Int) == 0) = false := beq_false_of_ne (by omega)
        have hn1 : 1 ≤ (s.size : Int) := by omega
        have hkp : (0 : Int) < (k : Int) := by omega
        have hkn : 0 < k := by omega
        have hj0 : (0 : Int) ≤ (j : Int) := by omega
        have hpr : pr f k = re f j := by rw [hj]; rfl
        have hfk : f k = ((s[a]'ha).toNat : Int) := by rw [HF.out k, ← haa, byteAt_eq ha]
        have hfj : f j = ((s[b]'hb).toNat : Int) := by rw [HF.out j, ← hbb, byteAt_eq hb]
        rw [hpr]
        have hrj := re_le f j
        have hb2 : (f k = f j ∧ re f k = re f j + 1) ∨ (¬ f k = f j ∧ re f k = 1) := by
          rw [hj]
          by_cases e : f (j + 1) = f j
          · exact .inl ⟨e, re_eq' e⟩
          · exact .inr ⟨e, re_ne' e⟩
        rw [hfk, hfj] at hb2
        clear hfk hfj haa hbb hpr hpl hre hz
        generalize mx f k = M at *
        generalize re f j = R0 at *
        generalize re f k = R at *
        rcases hb2 with ⟨hb2, hR⟩ | ⟨hb2, hR⟩
        · have e1 : (((s[a]'ha).toNat : Int) != ((s[b]'hb).toNat : Int)) = false := by rw [hb2]; simp
          have hwr : IntKind.i64.wrap ((R0 : Int) + 1) = (R : Int) := by rw [IntKind.wrap_i64]; omega
          clear hb2 hR hj
          go_wp2_with fail
          go_quiet (fail)
          go_wp2_with (go_at_call 47; refine (max_s M R _).mono ?_; rintro e w' ⟨rfl, rfl⟩)
          go_roundw
          case rel => exact ⟨k + 1, by omega, by go_num, by rw [HMX.out], by rw [HPR.out], hd.drewN _⟩
          case measure => simp [intOf]; omega
        · have e1 : (((s[a]'ha).toNat : Int) != ((s[b]'hb).toNat : Int)) = true := by rw [bne, beq_false_of_ne hb2]; rfl
          subst hR
          clear hb2 hj
          go_wp2_with fail
          go_quiet (fail)
          go_wp2_with (go_at_call 47; refine (max_s M 1 _).mono ?_; rintro e w' ⟨rfl, rfl⟩)
          go_roundw
          case rel => exact ⟨k + 1, by omega, by go_num, by rw [HMX.out], by rw [HPR.out]; rfl, hd.drewN _⟩
          case measure => simp [intOf]; omega
    · obtain rfl : k = 2 * s.size := by omega
      obtain ⟨M, hM⟩ : ∃ M, M = mx f (2 * s.size) := ⟨_, rfl⟩
      rw [← hM]
      have HM := Lib.hid hM
      clear HMX HPR hpl hml hre hk hlt hM
      go_wp2_with (go_at_call 66; refine (minT_s M s.size _).mono ?_; rintro e w' ⟨rfl, rfl⟩)
      go_ret
      exact ⟨by rw [← HM.out]; rfl, hd⟩

end Go.Proofs.YtopiecbldnhihaaDoor.twl
