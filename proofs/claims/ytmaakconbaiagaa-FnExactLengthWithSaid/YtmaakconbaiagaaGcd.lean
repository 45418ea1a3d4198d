/-
  Contracts of the greatest common divisor, of lowest terms, and of the thickness of a rod.
-/
import Derived.Test.YtmaakconbaiagaaRod
namespace Go.Proofs.Ytmaakconbaiagaa.rod
open Go.ChangeShapes Go.WideShapes Go.ChangeAt Go.RowKit
set_option linter.unusedVariables false

def gcdI (a b : Int) : Int := (Int.gcd a b : Int)
theorem gcdI_step {x y : Int} (hx : 0 ≤ x) (hy : 1 ≤ y) : gcdI y (x % y) = gcdI x y := by
  obtain ⟨m, rfl⟩ := Int.eq_ofNat_of_zero_le hx
  obtain ⟨n, rfl⟩ := Int.eq_ofNat_of_zero_le (by omega : 0 ≤ y)
  unfold gcdI
  rw [← Int.natCast_emod]
  simp only [Int.gcd_natCast_natCast]
  rw [Nat.gcd_comm m n, Nat.gcd_rec n m, Nat.gcd_comm]
theorem gcdI_zero {x : Int} (hx : 0 ≤ x) : gcdI x 0 = x := by
  unfold gcdI; simp; omega
theorem gcdI_pos {x y : Int} (hy : 1 ≤ y) : 1 ≤ gcdI x y := by
  unfold gcdI
  have : 0 < Int.gcd x y := Int.gcd_pos_of_ne_zero_right _ (by omega)
  omega
theorem gcdI_le {x y : Int} (hy : 1 ≤ y) : gcdI x y ≤ y := by
  unfold gcdI
  exact Int.gcd_le_right x (by omega)

set_option maxHeartbeats 1000000 in
theorem size_s (n : Int) (h : 0 ≤ n) (w : World) :
    Calls Try.prog 56 #[.int .i64 n] w fun e w' => e = .returned (.int .i64 n) ∧ w = w' := by
  go_enter Try.func56, Try.ntmps56
  go_wp2
  go_ret
  exact ⟨rfl, rfl⟩

set_option maxHeartbeats 1000000 in
theorem gcd_s (a b : Int) (ha : 0 ≤ a) (hb : 0 ≤ b) (ha' : a ≤ 1000000000) (hb' : b ≤ 1000000000) (w : World) :
    Calls Try.prog 55 #[.int .i64 a, .int .i64 b] w fun e w' => e = .returned (.int .i64 (gcdI a b)) ∧ w = w' := by
  go_enter Try.func55, Try.ntmps55
  go_wp2_with fail
  go_loop [0, 1] (fun s t => ∃ x y : Int, 0 ≤ x ∧ 0 ≤ y ∧ x ≤ 1000000000 ∧ y ≤ 1000000000 ∧ s = .int .i64 x ∧ t = .int .i64 y ∧ Hid (gcdI x y = gcdI a b)) (fun _ t => (intOf t).toNat)
  case atStart => exact ⟨a, b, ha, hb, ha', hb', rfl, rfl, rfl⟩
  case round =>
    obtain ⟨x, y, hx, hy, hx', hy', rfl, rfl, HG⟩ := hrel
    by_cases h0 : y = 0
    · subst h0
      go_wp2
      go_ret
      exact ⟨by rw [← HG.out, gcdI_zero hx]; rfl, rfl⟩
    · have h1 : (y == 0) = false := by simpa using h0
      have h2 : (y != 0) = true := by simpa using h0
      have h3 : 1 ≤ y := by omega
      have h4 : 0 ≤ x % y := Int.emod_nonneg _ h0
      have h5 : x % y < y := Int.emod_lt_of_pos _ (by omega)
      clear h0
      go_wp2
      go_round
      case rel => exact ⟨y, x % y, hy, h4, hy', by omega, rfl, rfl, (gcdI_step hx h3).trans HG.out⟩
      case measure => simp [intOf]; omega

/-- the thickness of a rod at a distance, times its length -/
def thk (L B T at' : Int) : Int := B * L - (B - T) * at'
/-- what a valid rod and a distance give: the products in bounds, as the walk wants them -/
theorem thk_bd {L B T d : Int} (h : rodB L B T = true) (h0 : 0 ≤ d) (h1 : d ≤ L) :
    0 ≤ B * L ∧ B * L ≤ 900000 ∧ 0 ≤ (B - T) * d ∧ (B - T) * d ≤ 900000 ∧ 100 ≤ B * L - (B - T) * d ∧ B * L - (B - T) * d ≤ 900000 ∧ L ≤ B * L - (B - T) * d := by
  unfold rodB at h
  simp only [Bool.and_eq_true] at h
  obtain ⟨h2, h3, h4⟩ := h
  obtain ⟨a1, a2⟩ := inB_of h2
  obtain ⟨b1, b2⟩ := inB_of h3
  obtain ⟨c1, c2⟩ := inB_of h4
  have e1 : 0 ≤ B * L := Int.mul_nonneg (by omega) (by omega)
  have e2 : B * L ≤ 300 * 3000 := Int.mul_le_mul b2 a2 (by omega) (by omega)
  have e3 : 0 ≤ (B - T) * d := Int.mul_nonneg (by omega) h0
  have e4 : (B - T) * d ≤ (B - T) * L := Int.mul_le_mul_of_nonneg_left h1 (by omega)
  have e5 : (B - T) * L = B * L - T * L := by rw [Int.sub_mul]
  have e6 : 1 * L ≤ T * L := Int.mul_le_mul_of_nonneg_right c1 (by omega)
  omega
theorem rodB_of {L B T : Int} (h : rodB L B T = true) : 100 ≤ L ∧ L ≤ 3000 ∧ 1 ≤ B ∧ B ≤ 300 ∧ 1 ≤ T ∧ T ≤ B := by
  unfold rodB at h
  simp only [Bool.and_eq_true] at h
  obtain ⟨h2, h3, h4⟩ := h
  obtain ⟨a1, a2⟩ := inB_of h2
  obtain ⟨b1, b2⟩ := inB_of h3
  obtain ⟨c1, c2⟩ := inB_of h4
  exact ⟨a1, a2, b1, b2, c1, c2⟩

set_option maxHeartbeats 1000000 in
theorem thick_s (b o : Nat) (L B T d : Int) (w : World) (h0 : w.cell? ⟨b, o, none⟩ = some (.int .i64 L)) (h1 : w.cell? ⟨b, o + 1, none⟩ = some (.int .i64 B)) (h2 : w.cell? ⟨b, o + 2, none⟩ = some (.int .i64 T))
    (hr : rodB L B T = true) (d0 : 0 ≤ d) (d1 : d ≤ L) :
    Calls Try.prog 47 #[.pointer (some ⟨b, o, none⟩), .int .i64 d] w fun e w' => e = .returned (.int .i64 (thk L B T d)) ∧ ∃ n, w' = w.drewN n := by
  obtain ⟨a1, a2, b1, b2, c1, c2⟩ := rodB_of hr
  obtain ⟨e1, e2, e3, e4, e5, e6, e7⟩ := thk_bd hr d0 d1
  have HR := Lib.hid hr
  clear hr
  have k1 : IntKind.i64.wrap (B * L) = B * L := IntWalk.i64_in _ (by omega)
  have k2 : IntKind.i64.wrap (B - T) = B - T := IntWalk.i64_in _ (by omega)
  have k3 : IntKind.i64.wrap ((B - T) * d) = (B - T) * d := IntWalk.i64_in _ (by omega)
  have k4 : IntKind.i64.wrap (B * L - (B - T) * d) = B * L - (B - T) * d := IntWalk.i64_in _ (by omega)
  go_enter Try.func47, Try.ntmps47
  go_wp2_with fail
  go_quiet (fail)
  go_wp2
  go_ret
  exact ⟨rfl, _, rfl⟩

set_option maxHeartbeats 1000000 in
theorem thick_i (L B T d : Int) (w : World) (hr : rodB L B T = true) (d0 : 0 ≤ d) (d1 : d ≤ L) :
    Calls Try.prog 50 #[.agg #[.int .i64 L, .int .i64 B, .int .i64 T], .int .i64 d] w fun e w' => e = .returned (.int .i64 (thk L B T d)) ∧ Below w.heap.size w w' := by
  obtain ⟨a1, a2, b1, b2, c1, c2⟩ := rodB_of hr
  obtain ⟨e1, e2, e3, e4, e5, e6, e7⟩ := thk_bd hr d0 d1
  clear hr
  go_enter Try.func50, Try.ntmps50
  go_wp2
  go_ret
  exact ⟨rfl, by go_grown⟩

set_option maxHeartbeats 1000000 in
theorem make_s (n d : Int) (n0 : 0 ≤ n) (n1 : n ≤ 1000000000) (d0 : 1 ≤ d) (d1 : d ≤ 1000000000) (w : World) :
    Calls Try.prog 46 #[.int .i64 n, .int .i64 d] w fun e w' => e = .returned (.agg #[.int .i64 (n / gcdI n d), .int .i64 (d / gcdI n d)]) ∧ Below w.heap.size w w' := by
  have g0 := gcdI_pos (x := n) d0
  have g1 := gcdI_le (x := n) d0
  go_enter Try.func46, Try.ntmps46
  go_wp2_with (first | (go_at_call 56; refine (size_s _ (by omega) _).mono ?_; rintro e w' ⟨rfl, rfl⟩) | (go_at_call 55; refine (gcd_s _ _ (by omega) (by omega) (by omega) (by omega) _).mono ?_; rintro e w' ⟨rfl, rfl⟩))
  have t1 : n.tdiv (gcdI n d) = n / gcdI n d := Int.tdiv_eq_ediv_of_nonneg n0
  have t2 : d.tdiv (gcdI n d) = d / gcdI n d := Int.tdiv_eq_ediv_of_nonneg (by omega)
  have r1 : n / gcdI n d ≤ n := Int.ediv_le_self _ n0
  have r2 : d / gcdI n d ≤ d := Int.ediv_le_self _ (by omega)
  have r3 : 0 ≤ n / gcdI n d := Int.ediv_nonneg n0 (by omega)
  have r4 : 0 ≤ d / gcdI n d := Int.ediv_nonneg (by omega) (by omega)
  go_region
  go_wp2
  exact bodyPost_ret (v := .agg #[.int .i64 (n / gcdI n d), .int .i64 (d / gcdI n d)]) (by simp [results, Try.results46, go_sem]) rfl ⟨rfl, by go_grown⟩
end Go.Proofs.Ytmaakconbaiagaa.rod
