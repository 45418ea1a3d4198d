/-
  The comparison of bundles by length and weight.
-/
import Derived.Test.YtlepgkmpbhlajaaDoorStab
import Derived.Test.YtlepgkmpbhlajaaDoorIn
import Derived.Deep.CutRange
import Derived.BigRegion
import Derived.Deep.RegionWith
namespace Go.Proofs.YtlepgkmpbhlajaaDoor.rod
open Go.ChangeShapes Go.WideShapes Go.ChangeAt Go.RowKit Go.Proofs.YtlepgkmpbhlajaaDoor.mem Go.Proofs.YtlepgkmpbhlajaaDoor.stab
set_option linter.unusedVariables false

/-- the answer of cmp.Compare -/
def cmpI (a b : Int) : Int := if a < b then -1 else if b < a then 1 else 0
theorem cmpI_neg (a b : Int) : cmpI a b < 0 ↔ a < b := by
  unfold cmpI
  by_cases h : a < b
  · rw [if_pos h]; omega
  · rw [if_neg h]
    by_cases k : b < a
    · rw [if_pos k]; omega
    · rw [if_neg k]; omega
theorem cmpI_zero (a b : Int) : cmpI a b = 0 ↔ a = b := by
  unfold cmpI
  by_cases h : a < b
  · rw [if_pos h]; omega
  · rw [if_neg h]
    by_cases k : b < a
    · rw [if_pos k]; omega
    · rw [if_neg k]; omega
theorem isNaN_c (a : Int) (w : World) :
    Calls Tryd.prog 74 #[.int .i64 a] w fun e w' => e = .returned (.bool false) ∧ w = w' := by
  have e1 : (a == a) = true := by simp
  have e2 : (a != a) = false := by simp
  go_enter Tryd.func74, Tryd.ntmps74
  go_wp2
  go_ret
  exact ⟨rfl, rfl⟩
theorem compare_c (a b : Int) (w : World) :
    Calls Tryd.prog 46 #[.int .i64 a, .int .i64 b] w fun e w' => e = .returned (.int .i64 (cmpI a b)) ∧ w = w' := by
  by_cases h1 : a < b
  · have HE := Lib.hid (show cmpI a b = -1 by unfold cmpI; rw [if_pos h1])
    go_enter Tryd.func46, Tryd.ntmps46
    go_wp2_with (go_at_call 74; refine (isNaN_c _ _).mono ?_; rintro e w' ⟨rfl, rfl⟩)
    go_ret
    exact ⟨by rw [HE.out]; rfl, rfl⟩
  by_cases h2 : b < a
  · have HE := Lib.hid (show cmpI a b = 1 by unfold cmpI; rw [if_neg h1, if_pos h2])
    go_enter Tryd.func46, Tryd.ntmps46
    go_wp2_with (go_at_call 74; refine (isNaN_c _ _).mono ?_; rintro e w' ⟨rfl, rfl⟩)
    go_ret
    exact ⟨by rw [HE.out]; rfl, rfl⟩
  · have HE := Lib.hid (show cmpI a b = 0 by unfold cmpI; rw [if_neg h1, if_neg h2])
    go_enter Tryd.func46, Tryd.ntmps46
    go_wp2_with (go_at_call 74; refine (isNaN_c _ _).mono ?_; rintro e w' ⟨rfl, rfl⟩)
    go_ret
    exact ⟨by rw [HE.out]; rfl, rfl⟩

/-- the first answer that is not zero, of two -/
def orI (a b : Int) : Int := if a = 0 then b else a
set_option maxHeartbeats 1000000 in
theorem or_c (b : Nat) (r s : Int) (w : World) (h0 : w.cell? ⟨b, 0, none⟩ = some (.int .i64 r)) (h1 : w.cell? ⟨b, 1, none⟩ = some (.int .i64 s)) :
    Calls Tryd.prog 45 #[.slice (some ⟨b, 0, none⟩) 2 2] w fun e w' => e = .returned (.int .i64 (orI r s)) ∧ w = w' := by
  go_enter Tryd.func45, Tryd.ntmps45
  go_wp2_with fail
  go_loop [8] (fun t => ∃ k : Nat, k ≤ 2 ∧ t = .int .i64 k ∧ Hid (0 < k → r = 0) ∧ Hid (1 < k → s = 0)) (fun t => 2 - (intOf t).toNat)
  case atStart => exact ⟨0, by omega, by first | trivial | rfl, fun h => absurd h (by omega), fun h => absurd h (by omega)⟩
  case round =>
    obtain ⟨k, hk, rfl, H0, H1⟩ := hrel
    by_cases k0 : k = 0
    · subst k0
      by_cases e : r = 0
      · subst e
        go_wp2
        go_round
        case rel => exact ⟨1, by omega, by first | trivial | go_num, by first | exact fun _ => rfl | exact fun _ => True.intro, fun h => absurd h (by omega)⟩
        case measure => simp [intOf]
      · have e1 : (r == 0) = false := by simpa using e
        have e2 : (r != 0) = true := by simpa using e
        have HE := Lib.hid (show orI r s = r by unfold orI; rw [if_neg e])
        clear e
        go_wp2
        go_ret
        exact ⟨by rw [HE.out]; rfl, rfl⟩
    by_cases k1 : k = 1
    · subst k1
      have r0 : r = 0 := H0.out (by omega)
      have HE := Lib.hid (show orI r s = s by unfold orI; rw [if_pos r0])
      clear r0
      by_cases e : s = 0
      · subst e
        go_wp2
        go_round
        case rel => exact ⟨2, by omega, by first | trivial | go_num, by first | exact fun _ => H0.out (by omega) | exact fun _ => True.intro, by first | exact fun _ => rfl | exact fun _ => True.intro⟩
        case measure => simp [intOf]
      · have e1 : (s == 0) = false := by simpa using e
        have e2 : (s != 0) = true := by simpa using e
        clear e
        go_wp2
        go_ret
        exact ⟨by rw [HE.out]; rfl, rfl⟩
    · obtain rfl : k = 2 := by omega
      have HE := Lib.hid (show orI r s = 0 by unfold orI; rw [if_pos (H0.out (by omega)), H1.out (by omega)])
      go_wp2
      go_ret
      exact ⟨by rw [HE.out]; rfl, rfl⟩

/-- a bundle comes first: the shorter one, of one length the lighter one -/
def ltU (X : Nat → Int) (x y : Nat) : Bool := decide (X (x * 3) < X (y * 3) ∨ X (x * 3) = X (y * 3) ∧ X (x * 3 + 2) < X (y * 3 + 2))
theorem ltU_swo (X : Nat → Int) : Swo (ltU X) where
  asymm := fun x y h => by
    unfold ltU at *
    simp only [decide_eq_true_eq] at h
    simp only [decide_eq_false_iff_not]
    omega
  ntrans := fun x y z h k => by
    unfold ltU at *
    simp only [decide_eq_false_iff_not] at h k
    simp only [decide_eq_false_iff_not]
    omega
theorem ltU_neg (X : Nat → Int) (x y : Nat) : (orI (cmpI (X (x * 3)) (X (y * 3))) (cmpI (X (x * 3 + 2)) (X (y * 3 + 2))) < 0) ↔ ltU X x y = true := by
  unfold ltU orI
  simp only [decide_eq_true_eq]
  by_cases e : X (x * 3) = X (y * 3)
  · rw [if_pos ((cmpI_zero _ _).2 e), cmpI_neg]; omega
  · rw [if_neg (fun h => e ((cmpI_zero _ _).1 h)), cmpI_neg]; omega

set_option maxHeartbeats 4000000 in
set_option maxRecDepth 100000 in
theorem cmpU_c (X : Nat → Int) (x y : Nat) (w : World) :
    Calls Tryd.prog 44 #[.agg #[.int .i64 (X (x * 3)), .int .i64 (X (x * 3 + 1)), .int .i64 (X (x * 3 + 2))], .agg #[.int .i64 (X (y * 3)), .int .i64 (X (y * 3 + 1)), .int .i64 (X (y * 3 + 2))]] w fun e w' => e = .returned (.int .i64 (orI (cmpI (X (x * 3)) (X (y * 3))) (cmpI (X (x * 3 + 2)) (X (y * 3 + 2))))) ∧ Below w.heap.size w w' := by
  generalize X (x * 3) = a0
  generalize X (x * 3 + 1) = a1
  generalize X (x * 3 + 2) = a2
  generalize X (y * 3) = b0
  generalize X (y * 3 + 1) = b1
  generalize X (y * 3 + 2) = b2
  go_enter Tryd.func44, Tryd.ntmps44
  go_wp2_with fail
  have p0 : ((w.alloc (Obj.cells #[Value.int IntKind.i64 a0, Value.int IntKind.i64 a1, Value.int IntKind.i64 a2] 40)).alloc (Obj.cells #[Value.int IntKind.i64 b0, Value.int IntKind.i64 b1, Value.int IntKind.i64 b2] 40)).cell? ⟨w.heap.size, 0, none⟩ = some (.int .i64 a0) := by go_simp
  have p2 : ((w.alloc (Obj.cells #[Value.int IntKind.i64 a0, Value.int IntKind.i64 a1, Value.int IntKind.i64 a2] 40)).alloc (Obj.cells #[Value.int IntKind.i64 b0, Value.int IntKind.i64 b1, Value.int IntKind.i64 b2] 40)).cell? ⟨w.heap.size, 2, none⟩ = some (.int .i64 a2) := by go_simp
  have q0 : ((w.alloc (Obj.cells #[Value.int IntKind.i64 a0, Value.int IntKind.i64 a1, Value.int IntKind.i64 a2] 40)).alloc (Obj.cells #[Value.int IntKind.i64 b0, Value.int IntKind.i64 b1, Value.int IntKind.i64 b2] 40)).cell? ⟨w.heap.size + 1, 0, none⟩ = some (.int .i64 b0) := by go_simp
  have q2 : ((w.alloc (Obj.cells #[Value.int IntKind.i64 a0, Value.int IntKind.i64 a1, Value.int IntKind.i64 a2] 40)).alloc (Obj.cells #[Value.int IntKind.i64 b0, Value.int IntKind.i64 b1, Value.int IntKind.i64 b2] 40)).cell? ⟨w.heap.size + 1, 2, none⟩ = some (.int .i64 b2) := by go_simp
  go_region_held3 (fun x => x.cell? ⟨w.heap.size, 0, none⟩ = some (.int .i64 a0) ∧ x.cell? ⟨w.heap.size, 2, none⟩ = some (.int .i64 a2) ∧ x.cell? ⟨w.heap.size + 1, 0, none⟩ = some (.int .i64 b0) ∧ x.cell? ⟨w.heap.size + 1, 2, none⟩ = some (.int .i64 b2)) (first | exact ⟨p0, p2, q0, q2⟩ | go_keep)
    (first
      | (go_at_call 46; refine (compare_c _ _ _).mono ?_; rintro e w' ⟨rfl, rfl⟩)
      | (go_at_call 45; refine (or_c _ (cmpI a0 b0) (cmpI a2 b2) _ (by go_simp) (by go_simp)).mono ?_; rintro e w' ⟨rfl, rfl⟩))
  go_wp2
  go_ret
  exact ⟨rfl, by go_grown⟩
/-- the comparison: a number, less than zero just if the first one comes first -/
theorem cmpU_ex (X : Nat → Int) (x y : Nat) : ∃ r : Int, (r < 0 ↔ ltU X x y = true) ∧ Hid (∀ w : World, Calls Tryd.prog 44 #[.agg #[.int .i64 (X (x * 3)), .int .i64 (X (x * 3 + 1)), .int .i64 (X (x * 3 + 2))], .agg #[.int .i64 (X (y * 3)), .int .i64 (X (y * 3 + 1)), .int .i64 (X (y * 3 + 2))]] w fun e w' => e = .returned (.int .i64 r) ∧ Below w.heap.size w w') :=
  ⟨_, ltU_neg X x y, fun w => cmpU_c X x y w⟩

end Go.Proofs.YtlepgkmpbhlajaaDoor.rod
