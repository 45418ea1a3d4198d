/-
  Rods in plain numbers: lowest terms, the greatest distance that is thick enough, the tip of a cut rod. No function of the program lies here.
-/
import Derived.Test.YtobohjfenjeckabDoorCutI
import Derived.Test.YtobohjfenjeckabDoorLenI
namespace Go.Proofs.YtobohjfenjeckabDoor.rod
set_option linter.unusedVariables false

theorem low_of {N L : Int} (hN : 0 ≤ N) (hL : 1 ≤ L) : 1 ≤ L / gcdI N L ∧ L / gcdI N L ≤ L ∧ 0 ≤ N / gcdI N L ∧ N / gcdI N L ≤ N ∧ N / gcdI N L * L = N * (L / gcdI N L) ∧ ∀ t : Int, t * (L / gcdI N L) ≤ N / gcdI N L ↔ t * L ≤ N := by
  have g0 := gcdI_pos (x := N) hL
  have g1 := gcdI_le (x := N) hL
  have hd1 : gcdI N L ∣ N := by unfold gcdI; exact Int.gcd_dvd_left ..
  have hd2 : gcdI N L ∣ L := by unfold gcdI; exact Int.gcd_dvd_right ..
  generalize gcdI N L = g at *
  obtain ⟨n, hn⟩ := hd1
  obtain ⟨k, hk⟩ := hd2
  have e1 : N / g = n := by rw [hn]; exact Int.mul_ediv_cancel_left _ (by omega)
  have e2 : L / g = k := by rw [hk]; exact Int.mul_ediv_cancel_left _ (by omega)
  rw [e1, e2]
  have k1 : 1 ≤ k := by
    have : 0 < g * k := by omega
    have := Int.pos_of_mul_pos_right this (by omega : (0 : Int) < g)
    omega
  have n1 : 0 ≤ n := by
    have : 0 ≤ g * n := by omega
    exact Int.nonneg_of_mul_nonneg_right this (by omega)
  have k2 : k ≤ L := by rw [hk]; have := Int.mul_le_mul_of_nonneg_right g0 (by omega : (0 : Int) ≤ k); omega
  have n2 : n ≤ N := by rw [hn]; have := Int.mul_le_mul_of_nonneg_right g0 n1; omega
  refine ⟨k1, k2, n1, n2, ?_, fun t => ?_⟩
  · rw [hk, hn, Int.mul_left_comm, Int.mul_assoc]
  · rw [hk, hn, Int.mul_left_comm]
    exact (Int.mul_le_mul_left (by omega : (0 : Int) < g)).symm

theorem thk_end {L B T : Int} : thk L B T L = T * L := by unfold thk; rw [← Int.sub_mul]; congr 1; omega
theorem len_all {L B T t : Int} (hL : 0 ≤ L) (h : t ≤ T) : t * L ≤ thk L B T L := by rw [thk_end]; exact Int.mul_le_mul_of_nonneg_right h hL
theorem len_part {L B T t : Int} (hL : 1 ≤ L) (h0 : T < t) (h1 : t ≤ B) (hT : 1 ≤ T) :
    0 ≤ (B - t) * L / (B - T) ∧ (B - t) * L / (B - T) < L ∧ t * L ≤ thk L B T ((B - t) * L / (B - T)) ∧ thk L B T ((B - t) * L / (B - T) + 1) < t * L := by
  have p0 : 0 < B - T := by omega
  have m0 : 0 ≤ (B - t) * L := Int.mul_nonneg (by omega) (by omega)
  obtain ⟨a, ha⟩ : ∃ a, (B - t) * L / (B - T) = a := ⟨_, rfl⟩
  have h2 : (B - T) * a ≤ (B - t) * L := by rw [← ha]; exact Int.mul_ediv_self_le (by omega)
  have h3 : (B - t) * L < (B - T) * (a + 1) := by rw [← ha]; have := Int.lt_mul_ediv_self_add (x := (B - t) * L) p0; rw [Int.mul_add, Int.mul_one]; exact this
  have h4 : (B - t) * L < (B - T) * L := Int.mul_lt_mul_of_pos_right (by omega) (by omega)
  have h5 : a < L := by
    have : (B - T) * a < (B - T) * L := by omega
    exact Int.lt_of_mul_lt_mul_left this (by omega)
  have e1 : (B - t) * L = B * L - t * L := Int.sub_mul ..
  rw [ha]
  refine ⟨by rw [← ha]; exact Int.ediv_nonneg m0 (by omega), h5, ?_, ?_⟩
  · unfold thk; omega
  · unfold thk; omega
theorem tip_of {N L : Int} (hL : 1 ≤ L) : N / L * L ≤ N ∧ N < (N / L + 1) * L := by
  have h1 := Int.mul_ediv_self_le (x := N) (k := L) (by omega)
  have h2 := Int.lt_mul_ediv_self_add (x := N) (k := L) (by omega)
  rw [Int.add_mul, Int.one_mul, Int.mul_comm (N / L)]
  exact ⟨h1, h2⟩
theorem prod_le {a b x y : Int} (a0 : 0 ≤ a) (b0 : 0 ≤ b) (ha : a ≤ x) (hb : b ≤ y) : 0 ≤ a * b ∧ a * b ≤ x * y :=
  ⟨Int.mul_nonneg a0 b0, Int.mul_le_mul ha hb b0 (by omega)⟩
end Go.Proofs.YtobohjfenjeckabDoor.rod
