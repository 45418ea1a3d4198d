/-
  Contracts of the greatest common divisor, of lowest terms, and of the comparison of fractions.
-/
import Derived.Test.YtakcgeafcecimaaIn
import Derived.StillTailTactics
namespace Go.Proofs.Ytakcgeafcecimaa.rod
open Go.ChangeShapes Go.WideShapes Go.ChangeAt Go.RowKit Go.Proofs.Ytakcgeafcecimaa.mem
set_option linter.unusedVariables false

def gcdI (a b : Int) : Int := (Int.gcd a b : Int)
theorem gcdI_step {x y : Int} (hx : 0 ≤ x) (hy : 1 ≤ y) : gcdI y (x % y) = gcdI x y := by
  obtain ⟨m, rfl⟩ := Int.eq_ofNat_of_zero_le hx
  obtain ⟨n, rfl⟩ := Int.eq_ofNat_of_zero_le (by omega : 0 ≤ y)
  unfold gcdI
  rw [← Int.natCast_emod]
  simp only [Int.gcd_natCast_natCast]
  rw [Nat.gcd_comm m n, Nat.gcd_rec n m, Nat.gcd_comm]
theorem gcdI_zero {x : Int} (hx : 0 ≤ x) : gcdI x 0 = x := by
  unfold gcdI; simp; omega
theorem gcdI_pos {x y : Int} (hy : 1 ≤ y) : 1 ≤ gcdI x y := by
  unfold gcdI
  have : 0 < Int.gcd x y := Int.gcd_pos_of_ne_zero_right _ (by omega)
  omega
theorem gcdI_le {x y : Int} (hy : 1 ≤ y) : gcdI x y ≤ y := by
  unfold gcdI
  exact Int.gcd_le_right x (by omega)

set_option maxHeartbeats 1000000 in
theorem size_s (n : Int) (h : 0 ≤ n) (w : World) :
    Calls Try.prog 79 #[.int .i64 n] w fun e w' => e = .returned (.int .i64 n) ∧ w = w' := by
  go_enter Try.func79, Try.ntmps79
  go_wp2
  go_ret
  exact ⟨rfl, rfl⟩

set_option maxHeartbeats 1000000 in
theorem gcd_s (a b : Int) (ha : 0 ≤ a) (hb : 0 ≤ b) (ha' : a ≤ 1000000000) (hb' : b ≤ 1000000000) (w : World) :
    Calls Try.prog 51 #[.int .i64 a, .int .i64 b] w fun e w' => e = .returned (.int .i64 (gcdI a b)) ∧ w = w' := by
  go_enter Try.func51, Try.ntmps51
  go_wp2_with fail
  go_loop [0, 1] (fun s t => ∃ x y : Int, 0 ≤ x ∧ 0 ≤ y ∧ x ≤ 1000000000 ∧ y ≤ 1000000000 ∧ s = .int .i64 x ∧ t = .int .i64 y ∧ Hid (gcdI x y = gcdI a b)) (fun _ t => (intOf t).toNat)
  case atStart => exact ⟨a, b, ha, hb, ha', hb', rfl, rfl, rfl⟩
  case round =>
    obtain ⟨x, y, hx, hy, hx', hy', rfl, rfl, HG⟩ := hrel
    by_cases h0 : y = 0
    · subst h0
      go_wp2
      go_ret
      exact ⟨by rw [← HG.out, gcdI_zero hx]; rfl, rfl⟩
    · have h1 : (y == 0) = false := by simpa using h0
      have h2 : (y != 0) = true := by simpa using h0
      have h3 : 1 ≤ y := by omega
      have h4 : 0 ≤ x % y := Int.emod_nonneg _ h0
      have h5 : x % y < y := Int.emod_lt_of_pos _ (by omega)
      clear h0
      go_wp2
      go_round
      case rel => exact ⟨y, x % y, hy, h4, hy', by omega, rfl, rfl, (gcdI_step hx h3).trans HG.out⟩
      case measure => simp [intOf]; omega

set_option maxHeartbeats 1000000 in
theorem make_s (n d : Int) (n0 : 0 ≤ n) (n1 : n ≤ 1000000000) (d0 : 1 ≤ d) (d1 : d ≤ 1000000000) (w : World) :
    Calls Try.prog 63 #[.int .i64 n, .int .i64 d] w fun e w' => e = .returned (.agg #[.int .i64 (n / gcdI n d), .int .i64 (d / gcdI n d)]) ∧ Below w.heap.size w w' := by
  have g0 := gcdI_pos (x := n) d0
  have g1 := gcdI_le (x := n) d0
  go_enter Try.func63, Try.ntmps63
  go_wp2_with (first | (go_at_call 79; refine (size_s _ (by omega) _).mono ?_; rintro e w' ⟨rfl, rfl⟩) | (go_at_call 51; refine (gcd_s _ _ (by omega) (by omega) (by omega) (by omega) _).mono ?_; rintro e w' ⟨rfl, rfl⟩))
  have t1 : n.tdiv (gcdI n d) = n / gcdI n d := Int.tdiv_eq_ediv_of_nonneg n0
  have t2 : d.tdiv (gcdI n d) = d / gcdI n d := Int.tdiv_eq_ediv_of_nonneg (by omega)
  have r1 : n / gcdI n d ≤ n := Int.ediv_le_self _ n0
  have r2 : d / gcdI n d ≤ d := Int.ediv_le_self _ (by omega)
  have r3 : 0 ≤ n / gcdI n d := Int.ediv_nonneg n0 (by omega)
  have r4 : 0 ≤ d / gcdI n d := Int.ediv_nonneg (by omega) (by omega)
  go_region
  go_wp2
  exact bodyPost_ret (v := .agg #[.int .i64 (n / gcdI n d), .int .i64 (d / gcdI n d)]) (by simp [results, Try.results63, go_sem]) rfl ⟨rfl, by go_grown⟩

set_option maxHeartbeats 1000000 in
theorem lowest_i (n d : Int) (n0 : 0 ≤ n) (n1 : n ≤ 1000000000) (d0 : 1 ≤ d) (d1 : d ≤ 1000000000) (w : World) :
    Calls Try.prog 65 #[.int .i64 n, .int .i64 d] w fun e w' => e = .returned (.agg #[.int .i64 (n / gcdI n d), .int .i64 (d / gcdI n d)]) ∧ Below w.heap.size w w' := by
  have g0 := gcdI_pos (x := n) d0
  have g1 := gcdI_le (x := n) d0
  have r1 : n / gcdI n d ≤ n := Int.ediv_le_self _ n0
  have r2 : d / gcdI n d ≤ d := Int.ediv_le_self _ (by omega)
  have r3 : 0 ≤ n / gcdI n d := Int.ediv_nonneg n0 (by omega)
  have r4 : 0 ≤ d / gcdI n d := Int.ediv_nonneg (by omega) (by omega)
  go_enter Try.func65, Try.ntmps65
  go_wp2_with fail
  go_loopw [5, 6] (fun s t wr => ∃ (x y : Int) (m : Nat), 0 ≤ x ∧ 0 ≤ y ∧ x ≤ 1000000000 ∧ y ≤ 1000000000 ∧ s = .int .i64 x ∧ t = .int .i64 y ∧ Hid (gcdI x y = gcdI n d) ∧ wr = (w.alloc (Obj.cells #[Value.int IntKind.i64 0, Value.int IntKind.i64 0] 42)).drewN m) (fun _ t _ => (intOf t).toNat)
  case atStart => exact ⟨n, d, 0, n0, by omega, n1, d1, rfl, rfl, rfl, rfl⟩
  case round =>
    obtain ⟨x, y, m, hx, hy, hx', hy', rfl, rfl, HG, rfl⟩ := hrel
    by_cases h0 : y = 0
    · subst h0
      obtain rfl : x = gcdI n d := by rw [← HG.out, gcdI_zero hx]
      have t1 : n.tdiv (gcdI n d) = n / gcdI n d := Int.tdiv_eq_ediv_of_nonneg n0
      have t2 : d.tdiv (gcdI n d) = d / gcdI n d := Int.tdiv_eq_ediv_of_nonneg (by omega)
      go_wp2
      go_region
      go_wp2
      go_returns
      exact ⟨rfl, by go_grown; exact drewN_below (by go_grown) _⟩
    · have h1 : (y == 0) = false := by simpa using h0
      have h2 : (y != 0) = true := by simpa using h0
      have h3 : 1 ≤ y := by omega
      have h4 : 0 ≤ x % y := Int.emod_nonneg _ h0
      have h5 : x % y < y := Int.emod_lt_of_pos _ (by omega)
      have t3 : x.tmod y = x % y := Int.tmod_eq_emod_of_nonneg hx
      clear h0
      go_wp2
      go_region
      go_wp2
      go_roundw
      case rel => exact ⟨y, x % y, m + 1, hy, h4, hy', by omega, rfl, rfl, (gcdI_step hx h3).trans HG.out, rfl⟩
      case measure => simp [intOf]; omega

set_option maxHeartbeats 1000000 in
theorem eqFraction_same (n m : Int) (w : World) :
    Calls Try.prog 31 #[.agg #[.int .i64 n, .int .i64 m], .agg #[.int .i64 n, .int .i64 m]] w fun e w' => e = .returned (.bool true) ∧ Below w.heap.size w w' := by
  go_enter Try.func31, Try.ntmps31
  go_wp2
  go_returns
  exact ⟨rfl, by go_grown⟩
end Go.Proofs.Ytakcgeafcecimaa.rod
