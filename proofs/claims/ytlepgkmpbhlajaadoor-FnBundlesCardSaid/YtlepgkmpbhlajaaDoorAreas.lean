/-
  Contracts of AreaOf, RodsIn and GirthFor, of the model and of the program.
-/
import Derived.Test.YtlepgkmpbhlajaaDoorBunch
import Derived.Test.YtlepgkmpbhlajaaDoorFrac
namespace Go.Proofs.YtlepgkmpbhlajaaDoor.rod
open Go.ChangeShapes Go.WideShapes Go.ChangeAt Go.RowKit Go.Proofs.YtlepgkmpbhlajaaDoor.mem
set_option linter.unusedVariables false

theorem area_bd {g : Int} (g1 : 10 ≤ g) (g2 : g ≤ 2000) : 0 ≤ 7 * g * g ∧ 7 * g * g ≤ 28000000 := by
  constructor
  · exact Int.mul_nonneg (by omega) (by omega)
  · have := Int.mul_le_mul (a := 7 * g) (b := g) (c := 14000) (d := 2000) (by omega) g2 (by omega) (by omega)
    omega
/-- how many rods of a thickness a bundle has -/
def rin (g t : Int) : Int := 44100 * g * g / (4840 * t * t)
theorem rin_bd {g t : Int} (g1 : 10 ≤ g) (g2 : g ≤ 2000) (t1 : 1 ≤ t) (t2 : t ≤ 300) : 0 ≤ 44100 * g ∧ 44100 * g ≤ 88200000 ∧ 0 ≤ 44100 * g * g ∧ 44100 * g * g ≤ 176400000000 ∧ 0 ≤ 4840 * t ∧ 4840 * t ≤ 1452000 ∧ 1 ≤ 4840 * t * t ∧ 4840 * t * t ≤ 435600000 ∧ 0 ≤ rin g t ∧ rin g t ≤ 176400000000 := by
  have h1 : 0 ≤ 44100 * g * g := Int.mul_nonneg (by omega) (by omega)
  have h2 : 44100 * g * g ≤ 176400000000 := by
    have := Int.mul_le_mul (a := 44100 * g) (b := g) (c := 88200000) (d := 2000) (by omega) g2 (by omega) (by omega)
    omega
  have h3 : 1 ≤ 4840 * t * t := by
    have := Int.mul_le_mul (a := 4840) (b := 1) (c := 4840 * t) (d := t) (by omega) t1 (by omega) (by omega)
    omega
  have h4 : 4840 * t * t ≤ 435600000 := by
    have := Int.mul_le_mul (a := 4840 * t) (b := t) (c := 1452000) (d := 300) (by omega) t2 (by omega) (by omega)
    omega
  refine ⟨by omega, by omega, h1, h2, by omega, by omega, h3, h4, ?_, ?_⟩
  · exact Int.ediv_nonneg h1 (by omega)
  · exact Int.le_trans (Int.ediv_le_self _ h1) h2
/-- how many rods a bundle has, and the code -/
def rodsIn (g t : Int) : Int × Int := if inB g 10 2000 && inB t 1 300 then (rin g t, 0) else (0, 2)
/-- the least girth, and the code -/
def GirthIs (r t v code : Int) : Prop :=
  ((inB r 1 100000 && inB t 1 300) = false ∧ v = 0 ∧ code = 2) ∨ ((inB r 1 100000 && inB t 1 300) = true ∧ ((10 ≤ v ∧ v ≤ 2000 ∧ r ≤ rin v t ∧ (∀ j, 10 ≤ j → j < v → rin j t < r) ∧ code = 0) ∨ (v = 0 ∧ code = 3 ∧ ∀ j, 10 ≤ j → j ≤ 2000 → rin j t < r)))
theorem GirthIs.uniq {r t v code v2 code2 : Int} (h : GirthIs r t v code) (k : GirthIs r t v2 code2) : v = v2 ∧ code = code2 := by
  rcases h with ⟨a, b, c⟩ | ⟨a, h⟩ <;> rcases k with ⟨a', b', c'⟩ | ⟨a', k⟩
  · exact ⟨by omega, by omega⟩
  · rw [a] at a'; cases a'
  · rw [a] at a'; cases a'
  · rcases h with ⟨h1, h2, h3, h4, h5⟩ | ⟨h1, h2, h3⟩ <;> rcases k with ⟨k1, k2, k3, k4, k5⟩ | ⟨k1, k2, k3⟩
    · refine ⟨?_, by omega⟩
      rcases Int.lt_trichotomy v v2 with g | g | g
      · have := k4 v h1 g; omega
      · exact g
      · have := h4 v2 k1 g; omega
    · have := k3 v h1 h2; omega
    · have := h3 v2 k1 k2; omega
    · exact ⟨by omega, by omega⟩
theorem GirthIs.ex (r t : Int) : ∃ v code, GirthIs r t v code := by
  cases h : (inB r 1 100000 && inB t 1 300)
  · exact ⟨0, 2, .inl ⟨h, rfl, rfl⟩⟩
  · have key : ∀ k : Nat, (∀ j, 10 ≤ j → j < 10 + (k : Int) → rin j t < r) ∨ ∃ v, 10 ≤ v ∧ v < 10 + (k : Int) ∧ r ≤ rin v t ∧ ∀ j, 10 ≤ j → j < v → rin j t < r := by
      intro k
      induction k with
      | zero => exact .inl fun j h1 h2 => by omega
      | succ k ih =>
        rcases ih with ih | ⟨v, v1, v2, v3, v4⟩
        · by_cases hr : r ≤ rin (10 + (k : Int)) t
          · exact .inr ⟨10 + (k : Int), by omega, by omega, hr, ih⟩
          · exact .inl fun j h1 h2 => by
              by_cases e : j = 10 + (k : Int)
              · subst e; omega
              · exact ih j h1 (by omega)
        · exact .inr ⟨v, v1, by omega, v3, v4⟩
    rcases key 1991 with k | ⟨v, v1, v2, v3, v4⟩
    · exact ⟨0, 3, .inr ⟨h, .inr ⟨rfl, rfl, fun j h1 h2 => k j h1 (by omega)⟩⟩⟩
    · exact ⟨v, 0, .inr ⟨h, .inl ⟨v1, by omega, v3, v4, rfl⟩⟩⟩
theorem thick_s' (n : Int) (w : World) :
    Calls Tryd.prog 39 #[.int .i64 n] w fun e w' => e = .returned (.bool (inB n 1 300)) ∧ w = w' := by
  go_enter Tryd.func39, Tryd.ntmps39
  go_wp2_with (go_at_call 38; refine (in_s _ _ _ _).mono ?_; rintro e w' ⟨rfl, rfl⟩)
  go_ret
  exact ⟨rfl, rfl⟩

set_option maxHeartbeats 1000000 in
theorem rin_s (g t : Int) (w : World) (g1 : 10 ≤ g) (g2 : g ≤ 2000) (t1 : 1 ≤ t) (t2 : t ≤ 300) :
    Calls Tryd.prog 40 #[.int .i64 g, .int .i64 t] w fun e w' => e = .returned (.int .i64 (rin g t)) ∧ w = w' := by
  obtain ⟨a1, a2, a3, a4, b1, b2, b3, b4, c1, c2⟩ := rin_bd g1 g2 t1 t2
  have hne : (4840 * t * t == 0) = false := by simp only [beq_eq_false_iff_ne]; omega
  unfold rin
  unfold rin at c1 c2
  go_enter Tryd.func40, Tryd.ntmps40
  go_wp2
  go_ret
  exact ⟨rfl, rfl⟩

set_option maxHeartbeats 1000000 in
theorem rin_i (g t : Int) (w : World) (g1 : 10 ≤ g) (g2 : g ≤ 2000) (t1 : 1 ≤ t) (t2 : t ≤ 300) :
    Calls Tryd.prog 37 #[.int .i64 g, .int .i64 t] w fun e w' => e = .returned (.int .i64 (rin g t)) ∧ w = w' := by
  obtain ⟨a1, a2, a3, a4, b1, b2, b3, b4, c1, c2⟩ := rin_bd g1 g2 t1 t2
  have hne : (4840 * t * t == 0) = false := by simp only [beq_eq_false_iff_ne]; omega
  unfold rin
  unfold rin at c1 c2
  go_enter Tryd.func37, Tryd.ntmps37
  go_wp2
  go_ret
  exact ⟨rfl, rfl⟩

set_option maxHeartbeats 1000000 in
theorem rodsIn_i (g t : Int) (w : World) :
    Calls Tryd.prog 28 #[.int .i64 g, .int .i64 t] w fun e w' => e = .returned (.tuple #[.int .i64 (rodsIn g t).1, .int .i64 (rodsIn g t).2]) ∧ Below w.heap.size w w' := by
  cases h1 : inB g 10 2000
  · have HE := Lib.hid (show rodsIn g t = (0, 2) by unfold rodsIn; rw [h1]; rfl)
    go_enter Tryd.func28, Tryd.ntmps28
    go_wp2_with (first | (go_at_call 67; refine (girth_i _ _).mono ?_; rintro e w' ⟨rfl, rfl⟩) | (go_at_call 36; refine (in_i _ _ _ _).mono ?_; rintro e w' ⟨rfl, rfl⟩))
    go_ret2
    exact ⟨by rw [HE.out]; rfl, Below.refl _ _⟩
  cases h2 : inB t 1 300
  · have HE := Lib.hid (show rodsIn g t = (0, 2) by unfold rodsIn; rw [h1, h2]; rfl)
    go_enter Tryd.func28, Tryd.ntmps28
    go_wp2_with (first | (go_at_call 67; refine (girth_i _ _).mono ?_; rintro e w' ⟨rfl, rfl⟩) | (go_at_call 36; refine (in_i _ _ _ _).mono ?_; rintro e w' ⟨rfl, rfl⟩))
    go_ret2
    exact ⟨by rw [HE.out]; rfl, Below.refl _ _⟩
  · have HE := Lib.hid (show rodsIn g t = (rin g t, 0) by unfold rodsIn; rw [h1, h2]; rfl)
    obtain ⟨g1, g2⟩ := inB_of h1
    obtain ⟨t1, t2⟩ := inB_of h2
    go_enter Tryd.func28, Tryd.ntmps28
    go_wp2_with (first | (go_at_call 67; refine (girth_i _ _).mono ?_; rintro e w' ⟨rfl, rfl⟩) | (go_at_call 36; refine (in_i _ _ _ _).mono ?_; rintro e w' ⟨rfl, rfl⟩) | (go_at_call 37; refine (rin_i g t _ g1 g2 t1 t2).mono ?_; rintro e w' ⟨rfl, rfl⟩))
    go_ret2
    exact ⟨by rw [HE.out]; rfl, Below.refl _ _⟩

set_option maxHeartbeats 2000000 in
theorem girthFor_s (r t v code : Int) (w : World) (h : GirthIs r t v code) :
    Calls Tryd.prog 8 #[.int .i64 r, .int .i64 t] w fun e w' => e = .returned (.tuple #[.int .i64 v, .int .i64 code]) ∧ Below w.heap.size w w' := by
  have HG := Lib.hid h
  clear h
  cases h1 : inB r 1 100000
  · obtain ⟨rfl, rfl⟩ := HG.out.uniq (.inl ⟨by rw [h1]; rfl, rfl, rfl⟩)
    go_enter Tryd.func8, Tryd.ntmps8
    go_wp2_with (first | (go_at_call 38; refine (in_s _ _ _ _).mono ?_; rintro e w' ⟨rfl, rfl⟩) | (go_at_call 39; refine (thick_s' _ _).mono ?_; rintro e w' ⟨rfl, rfl⟩))
    go_ret2
    exact ⟨rfl, Below.refl _ _⟩
  cases h2 : inB t 1 300
  · obtain ⟨rfl, rfl⟩ := HG.out.uniq (.inl ⟨by rw [h1, h2]; rfl, rfl, rfl⟩)
    go_enter Tryd.func8, Tryd.ntmps8
    go_wp2_with (first | (go_at_call 38; refine (in_s _ _ _ _).mono ?_; rintro e w' ⟨rfl, rfl⟩) | (go_at_call 39; refine (thick_s' _ _).mono ?_; rintro e w' ⟨rfl, rfl⟩))
    go_ret2
    exact ⟨rfl, Below.refl _ _⟩
  obtain ⟨t1, t2⟩ := inB_of h2
  obtain ⟨r1, r2⟩ := inB_of h1
  go_enter Tryd.func8, Tryd.ntmps8
  go_wp2_with (first | (go_at_call 38; refine (in_s _ _ _ _).mono ?_; rintro e w' ⟨rfl, rfl⟩) | (go_at_call 39; refine (thick_s' _ _).mono ?_; rintro e w' ⟨rfl, rfl⟩))
  go_outline
  go_loopw [6] (fun s wr => ∃ g : Int, 10 ≤ g ∧ g ≤ 2001 ∧ s = .int .i64 g ∧ Hid (∀ j, 10 ≤ j → j < g → rin j t < r) ∧ wr = w) (fun s _ => (2001 - intOf s).toNat)
  case atStart => exact ⟨10, by omega, by omega, rfl, fun j _ _ => by omega, rfl⟩
  case round =>
    obtain ⟨g, g1, g2, rfl, HA, rfl⟩ := hrel
    by_cases hg : g ≤ 2000
    · have hb := (rin_bd g1 hg t1 t2).2.2.2.2.2.2.2.2
      by_cases hr : r ≤ rin g t
      · obtain ⟨rfl, rfl⟩ := HG.out.uniq (.inr ⟨by rw [h1, h2]; rfl, .inl ⟨g1, hg, hr, HA.out, rfl⟩⟩)
        generalize hR : rin v t = R at *
        have HR := Lib.hid hR
        clear hR
        go_wp2_with (go_at_call 40; refine (rin_s v t _ g1 hg t1 t2).mono ?_; rintro e w' ⟨rfl, rfl⟩; rw [HR.out])
        go_ret2
        exact ⟨rfl, Below.refl _ _⟩
      · have HA2 := Lib.hid (show ∀ j, 10 ≤ j → j < g + 1 → rin j t < r from fun j j1 j2 => by
          by_cases e : j = g
          · subst e; omega
          · exact HA.out j j1 (by omega))
        generalize hR : rin g t = R at *
        have HR := Lib.hid hR
        clear hR
        go_wp2_with (go_at_call 40; refine (rin_s g t _ g1 hg t1 t2).mono ?_; rintro e w' ⟨rfl, rfl⟩; rw [HR.out])
        go_roundw
        case rel => exact ⟨g + 1, by omega, by omega, rfl, HA2.out, by first | trivial | rfl⟩
        case measure => simp [intOf]; omega
    · obtain ⟨rfl, rfl⟩ := HG.out.uniq (.inr ⟨by rw [h1, h2]; rfl, .inr ⟨rfl, rfl, fun j j1 j2 => HA.out j j1 (by omega)⟩⟩)
      go_wp2
      go_ret2
      exact ⟨rfl, Below.refl _ _⟩

set_option maxHeartbeats 2000000 in
theorem girthFor_i (r t v code : Int) (w : World) (h : GirthIs r t v code) :
    Calls Tryd.prog 7 #[.int .i64 r, .int .i64 t] w fun e w' => e = .returned (.tuple #[.int .i64 v, .int .i64 code]) ∧ Below w.heap.size w w' := by
  have HG := Lib.hid h
  clear h
  cases h1 : inB r 1 100000
  · obtain ⟨rfl, rfl⟩ := HG.out.uniq (.inl ⟨by rw [h1]; rfl, rfl, rfl⟩)
    go_enter Tryd.func7, Tryd.ntmps7
    go_wp2_with ((go_at_call 36; refine (in_i _ _ _ _).mono ?_; rintro e w' ⟨rfl, rfl⟩))
    go_ret2
    exact ⟨rfl, Below.refl _ _⟩
  cases h2 : inB t 1 300
  · obtain ⟨rfl, rfl⟩ := HG.out.uniq (.inl ⟨by rw [h1, h2]; rfl, rfl, rfl⟩)
    go_enter Tryd.func7, Tryd.ntmps7
    go_wp2_with ((go_at_call 36; refine (in_i _ _ _ _).mono ?_; rintro e w' ⟨rfl, rfl⟩))
    go_ret2
    exact ⟨rfl, Below.refl _ _⟩
  obtain ⟨t1, t2⟩ := inB_of h2
  obtain ⟨r1, r2⟩ := inB_of h1
  go_enter Tryd.func7, Tryd.ntmps7
  go_wp2_with ((go_at_call 36; refine (in_i _ _ _ _).mono ?_; rintro e w' ⟨rfl, rfl⟩))
  go_outline
  go_loopw [6] (fun s wr => ∃ g : Int, 10 ≤ g ∧ g ≤ 2001 ∧ s = .int .i64 g ∧ Hid (∀ j, 10 ≤ j → j < g → rin j t < r) ∧ wr = w) (fun s _ => (2001 - intOf s).toNat)
  case atStart => exact ⟨10, by omega, by omega, rfl, fun j _ _ => by omega, rfl⟩
  case round =>
    obtain ⟨g, g1, g2, rfl, HA, rfl⟩ := hrel
    by_cases hg : g ≤ 2000
    · have hb := (rin_bd g1 hg t1 t2).2.2.2.2.2.2.2.2
      by_cases hr : r ≤ rin g t
      · obtain ⟨rfl, rfl⟩ := HG.out.uniq (.inr ⟨by rw [h1, h2]; rfl, .inl ⟨g1, hg, hr, HA.out, rfl⟩⟩)
        generalize hR : rin v t = R at *
        have HR := Lib.hid hR
        clear hR
        go_wp2_with (go_at_call 37; refine (rin_i v t _ g1 hg t1 t2).mono ?_; rintro e w' ⟨rfl, rfl⟩; rw [HR.out])
        go_ret2
        exact ⟨rfl, Below.refl _ _⟩
      · have HA2 := Lib.hid (show ∀ j, 10 ≤ j → j < g + 1 → rin j t < r from fun j j1 j2 => by
          by_cases e : j = g
          · subst e; omega
          · exact HA.out j j1 (by omega))
        generalize hR : rin g t = R at *
        have HR := Lib.hid hR
        clear hR
        go_wp2_with (go_at_call 37; refine (rin_i g t _ g1 hg t1 t2).mono ?_; rintro e w' ⟨rfl, rfl⟩; rw [HR.out])
        go_roundw
        case rel => exact ⟨g + 1, by omega, by omega, rfl, HA2.out, by first | trivial | rfl⟩
        case measure => simp [intOf]; omega
    · obtain ⟨rfl, rfl⟩ := HG.out.uniq (.inr ⟨by rw [h1, h2]; rfl, .inr ⟨rfl, rfl, fun j j1 j2 => HA.out j j1 (by omega)⟩⟩)
      go_wp2
      go_ret2
      exact ⟨rfl, Below.refl _ _⟩

end Go.Proofs.YtlepgkmpbhlajaaDoor.rod
