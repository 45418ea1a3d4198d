/-
  Contracts: is a list of bundles valid? Of the model and of the program. The weight of one length.
-/
import Derived.Test.YtlepgkmpbhlajaaDoorFBunch
import Derived.Test.YtlepgkmpbhlajaaDoorBunM
import Derived.Test.YtlepgkmpbhlajaaDoorRod
namespace Go.Proofs.YtlepgkmpbhlajaaDoor.rod
open Go.ChangeShapes Go.WideShapes Go.ChangeAt Go.RowKit Go.Proofs.YtlepgkmpbhlajaaDoor.mem
set_option linter.unusedVariables false

theorem thick_s (n : Int) (w : World) :
    Calls Tryd.prog 39 #[.int .i64 n] w fun e w' => e = .returned (.bool (inB n 1 300)) ∧ w = w' := by
  go_enter Tryd.func39, Tryd.ntmps39
  go_wp2_with (go_at_call 38; refine (in_s _ _ _ _).mono ?_; rintro e w' ⟨rfl, rfl⟩)
  go_ret
  exact ⟨rfl, rfl⟩
theorem girth_i (n : Int) (w : World) :
    Calls Tryd.prog 67 #[.int .i64 n] w fun e w' => e = .returned (.bool (inB n 10 2000)) ∧ w = w' := by
  go_enter Tryd.func67, Tryd.ntmps67
  go_wp2_with (go_at_call 36; refine (in_i _ _ _ _).mono ?_; rintro e w' ⟨rfl, rfl⟩)
  go_ret
  exact ⟨rfl, rfl⟩

set_option maxHeartbeats 1000000 in
theorem oneU_s (b o : Nat) (L B T : Int) (w : World) (h0 : w.cell? ⟨b, o, none⟩ = some (.int .i64 L)) (h1 : w.cell? ⟨b, o + 1, none⟩ = some (.int .i64 B)) (h2 : w.cell? ⟨b, o + 2, none⟩ = some (.int .i64 T)) :
    Calls Tryd.prog 64 #[.pointer (some ⟨b, o, none⟩)] w fun e w' => e = .returned (.bool (bunB L B T)) ∧ ∃ n, w' = w.drewN n := by
  unfold bunB
  cases k0 : inB L 100 3000 <;> cases k1 : inB B 10 2000 <;> cases k2 : inB T 1 50000
  all_goals
    go_enter Tryd.func64, Tryd.ntmps64
    go_wp2_with (first | (go_at_call 83; refine (long_s _ _).mono ?_; rintro e w' ⟨rfl, rfl⟩) | (go_at_call 38; refine (in_s _ _ _ _).mono ?_; rintro e w' ⟨rfl, rfl⟩))
    go_ret
    exact ⟨rfl, 0, rfl⟩

set_option maxHeartbeats 1000000 in
theorem bun_i (L B T : Int) (w : World) :
    Calls Tryd.prog 62 #[.agg #[.int .i64 L, .int .i64 B, .int .i64 T]] w fun e w' => e = .returned (.bool (bunB L B T)) ∧ Below w.heap.size w w' := by
  unfold bunB
  cases h1 : inB L 100 3000
  · go_enter Tryd.func62, Tryd.ntmps62
    go_wp2_with (first | (go_at_call 67; refine (girth_i _ _).mono ?_; rintro e w' ⟨rfl, rfl⟩) | (go_at_call 36; refine (in_i _ _ _ _).mono ?_; rintro e w' ⟨rfl, rfl⟩))
    go_ret
    exact ⟨rfl, by go_grown⟩
  · cases h2 : inB B 10 2000
    · go_enter Tryd.func62, Tryd.ntmps62
      go_wp2_with (first | (go_at_call 67; refine (girth_i _ _).mono ?_; rintro e w' ⟨rfl, rfl⟩) | (go_at_call 36; refine (in_i _ _ _ _).mono ?_; rintro e w' ⟨rfl, rfl⟩))
      go_ret
      exact ⟨rfl, by go_grown⟩
    · cases h3 : inB T 1 50000
      all_goals
        go_enter Tryd.func62, Tryd.ntmps62
        go_wp2_with (first | (go_at_call 67; refine (girth_i _ _).mono ?_; rintro e w' ⟨rfl, rfl⟩) | (go_at_call 36; refine (in_i _ _ _ _).mono ?_; rintro e w' ⟨rfl, rfl⟩))
        go_ret
        exact ⟨rfl, by go_grown⟩

set_option maxHeartbeats 1000000 in
theorem okU_s (A : Option Addr) (n c : Nat) (X : Nat → Int) (w : World) (hn : n ≤ maxLen) (hr : Sl w A n 3 X) :
    Calls Tryd.prog 47 #[.slice A n c] w fun e w' => e = .returned (.bool (listU n X)) ∧ ∃ m, w' = w.drewN m := by
  unfold maxLen at hn
  have HR := Lib.hid hr
  clear hr
  go_enter Tryd.func47, Tryd.ntmps47
  go_wp2_with fail
  go_loopw [3] (fun s wr => ∃ k m : Nat, k ≤ n ∧ s = .int .i64 k ∧ Hid (allU X k = true) ∧ wr = w.drewN m) (fun s _ => n - (intOf s).toNat)
  case atStart => exact ⟨0, 0, by omega, rfl, rfl, rfl⟩
  case round =>
    obtain ⟨k, m, hk, rfl, HA, rfl⟩ := hrel
    by_cases hlt : k < n
    · have hlt' : (k : Int) < (n : Int) := by omega
      obtain ⟨b, o, rfl, hb, hX⟩ := HR.out (by omega)
      have h0 := hX (k * 3) (by omega)
      have h1 := hX (k * 3 + 1) (by omega)
      have h2 := hX (k * 3 + 2) (by omega)
      simp only [← Nat.add_assoc] at h1 h2
      clear hX
      cases hv : bunA X k
      · have hf : listU n X = false := by unfold listU; rw [allU_no hlt hv]; simp
        have HF := Lib.hid hf
        clear hf
        unfold bunA at hv
        go_wp2_with fail
        refine (oneU_s b (o + k * 3) (X (k * 3)) (X (k * 3 + 1)) (X (k * 3 + 2)) _ (by go_simp) (by go_simp) (by go_simp)).mono ?_
        rintro e w' ⟨rfl, m2, rfl⟩
        go_wp2
        go_ret
        exact ⟨by rw [HF.out]; rfl, _, rfl⟩
      · have HV := Lib.hid hv
        unfold bunA at hv
        go_wp2_with fail
        refine (oneU_s b (o + k * 3) (X (k * 3)) (X (k * 3 + 1)) (X (k * 3 + 2)) _ (by go_simp) (by go_simp) (by go_simp)).mono ?_
        rintro e w' ⟨rfl, m2, rfl⟩
        clear h0 h1 h2
        go_wp2
        go_roundw
        case rel => exact ⟨k + 1, m + m2, by omega, by go_num, by simp only [Hid, allU, HA.out, HV.out, Bool.and_self], rfl⟩
        case measure => simp [intOf]; omega
    · obtain rfl : k = n := by omega
      have e : listU k X = decide ((k : Int) ≤ 30) := by unfold listU; rw [HA.out, Bool.and_true]; congr 1; exact propext ⟨fun h => by omega, fun h => by omega⟩
      have HE := Lib.hid e
      clear e
      go_wp2
      go_ret
      exact ⟨by rw [HE.out]; rfl, _, rfl⟩

set_option maxHeartbeats 1000000 in
theorem validU_s (A : Option Addr) (n c : Nat) (X : Nat → Int) (w : World) (hn : n ≤ maxLen) (hr : Sl w A n 3 X) :
    Calls Tryd.prog 26 #[.slice A n c] w fun e w' => e = .returned (.bool (listU n X)) ∧ Below w.heap.size w w' := by
  have HR := Lib.hid hr
  clear hr
  go_enter Tryd.func26, Tryd.ntmps26
  go_wp2_with fail
  refine (okU_s A n c X _ hn HR.out).mono ?_
  rintro e w' ⟨rfl, m, rfl⟩
  go_wp2
  go_ret
  exact ⟨rfl, drewN_below (Below.refl _ _) _⟩

set_option maxHeartbeats 1000000 in
theorem areU_i (A : Option Addr) (n c : Nat) (X : Nat → Int) (w : World) (hn : n ≤ maxLen) (hr : Sl w A n 3 X) :
    Calls Tryd.prog 66 #[.slice A n c, .int .i64 30, .func (.func 62) #[] #[]] w fun e w' => e = .returned (.bool (listU n X)) ∧ Below w.heap.size w w' := by
  unfold maxLen at hn
  have HR := Lib.hid hr
  clear hr
  by_cases hbig : 30 < n
  · have hf : listU n X = false := by unfold listU; rw [decide_eq_false (by omega)]; rfl
    rw [hf]
    have hbig' : (30 : Int) < (n : Int) := by omega
    clear hf
    go_enter Tryd.func66, Tryd.ntmps66
    go_wp2
    go_ret
    exact ⟨rfl, by go_grown⟩
  have hbig' : ¬ (30 : Int) < (n : Int) := by omega
  have he : listU n X = allU X n := by unfold listU; rw [decide_eq_true (by omega)]; rfl
  have HE := Lib.hid he
  clear he hbig
  go_enter Tryd.func66, Tryd.ntmps66
  go_wp2_with fail
  go_outline
  go_loopw [15] (fun s wr => ∃ k : Nat, k ≤ n ∧ s = .int .i64 k ∧ Hid (allU X k = true) ∧ Below w.heap.size w wr) (fun s _ => n - (intOf s).toNat)
  case atStart => exact ⟨0, by omega, rfl, rfl, by go_grown⟩
  case round =>
    obtain ⟨k, hk, rfl, HA, hbl⟩ := hrel
    have hzz := hbl.size
    by_cases hlt : k < n
    · have hlt' : (k : Int) < (n : Int) := by omega
      obtain ⟨b, o, rfl, hb, hX⟩ := HR.out (by omega)
      have h0 := hX.below hbl hb (k * 3) (by omega)
      have h1 := hX.below hbl hb (k * 3 + 1) (by omega)
      have h2 := hX.below hbl hb (k * 3 + 2) (by omega)
      simp only [← Nat.add_assoc] at h1 h2
      clear hX
      cases hv : bunA X k
      · have hf : listU n X = false := by rw [HE.out]; exact allU_no hlt hv
        have HF := Lib.hid hf
        clear hf
        unfold bunA at hv
        go_wp2_with fail
        refine (bun_i (X (k * 3)) (X (k * 3 + 1)) (X (k * 3 + 2)) _).mono ?_
        rintro e w' ⟨rfl, hb2⟩
        have g2 : Below w.heap.size w w' := Below.trans (by go_grown) (hb2.mono (by simp <;> omega))
        clear hb2 h0 h1 h2
        go_wp2
        go_ret
        exact ⟨by rw [HF.out]; rfl, g2⟩
      · have HV := Lib.hid hv
        unfold bunA at hv
        go_wp2_with fail
        refine (bun_i (X (k * 3)) (X (k * 3 + 1)) (X (k * 3 + 2)) _).mono ?_
        rintro e w' ⟨rfl, hb2⟩
        have g2 : Below w.heap.size w w' := Below.trans (by go_grown) (hb2.mono (by simp <;> omega))
        clear hb2 h0 h1 h2
        go_wp2
        go_roundw
        case rel => exact ⟨k + 1, by omega, by go_num, by simp only [Hid, allU, HA.out, HV.out, Bool.and_self], g2⟩
        case measure => simp [intOf]; omega
    · obtain rfl : k = n := by omega
      go_wp2
      go_ret
      exact ⟨by rw [HE.out, HA.out]; rfl, hbl⟩

theorem validU_i (A : Option Addr) (n c : Nat) (X : Nat → Int) (w : World) (hn : n ≤ maxLen) (hr : Sl w A n 3 X) :
    Calls Tryd.prog 25 #[.slice A n c] w fun e w' => e = .returned (.bool (listU n X)) ∧ Below w.heap.size w w' := by
  have HR := Lib.hid hr
  clear hr
  go_enter Tryd.func25, Tryd.ntmps25
  go_wp2_with fail
  refine (areU_i A n c X _ hn HR.out).mono ?_
  rintro e w' ⟨rfl, hb⟩
  go_wp2
  go_ret
  exact ⟨rfl, hb⟩

end Go.Proofs.YtlepgkmpbhlajaaDoor.rod
