/-
  Twills: where a stroke stands in the row; the model's contract. No condition of a statement lies here.
-/
import Derived.Test.YtakcgeafcecimaaQd
namespace Go.Proofs.Ytakcgeafcecimaa.twl
open Go.ChangeShapes Go.WideShapes Go.ChangeAt Go.RowKit Go.Deep Go.Proofs.Ytakcgeafcecimaa.mem Go.Proofs.Ytakcgeafcecimaa.rod Go.Proofs.Ytakcgeafcecimaa.nums Go.Proofs.Ytakcgeafcecimaa.shp Go.Proofs.Ytakcgeafcecimaa.wv Go.Proofs.Ytakcgeafcecimaa.wk
set_option linter.unusedVariables false
set_option maxRecDepth 100000

/-- the place of the stroke at stake k in round r, of a row of n letters that is moved by t -/
def plc (n t k r : Nat) : Nat := (k + r * (n - t)) % n
theorem plc_lt {n t k r : Nat} (h : 0 < n) : plc n t k r < n := Nat.mod_lt _ h
theorem plc_int {n t k r : Nat} (h : 0 < n) (ht : t ≤ n) : (((k : Int) - (t : Int) * (r : Int)) % (n : Int)) = (plc n t k r : Int) := by
  unfold plc
  rw [Int.natCast_emod, Int.natCast_add, Int.natCast_mul, Int.ofNat_sub ht]
  have e : (k : Int) + (r : Int) * ((n : Int) - (t : Int)) = (k : Int) - (t : Int) * (r : Int) + (n : Int) * (r : Int) := by
    rw [Int.mul_sub, Int.mul_comm (r : Int) (n : Int), Int.mul_comm (r : Int) (t : Int)]; omega
  rw [e, Int.add_mul_emod_self_left]
theorem tmod_up {a n : Int} (h : 0 < n) : -n < a.tmod n ∧ a.tmod n < n ∧ (a.tmod n + n) % n = a % n := by
  refine ⟨Int.lt_tmod_of_pos a h, Int.tmod_lt_of_pos a h, ?_⟩
  rw [Int.add_emod_right]
  have h1 := Int.mul_tdiv_add_tmod a n
  have e : a.tmod n = a + n * (-(a.tdiv n)) := by rw [Int.mul_neg]; omega
  rw [e, Int.add_mul_emod_self_left]
theorem prod_at {t r : Nat} (ht : t ≤ 12) (hr : r ≤ 40) : 0 ≤ (t : Int) * (r : Int) ∧ (t : Int) * (r : Int) ≤ 480 := by
  have := Nat.mul_le_mul ht hr
  constructor
  · exact Int.mul_nonneg (by omega) (by omega)
  · have e : ((t * r : Nat) : Int) = (t : Int) * (r : Int) := by simp
    omega

set_option maxHeartbeats 1000000 in
theorem at09_s (s : ByteArray) (t k r : Nat) (w : World) (h0 : 0 < s.size) (hs : s.size ≤ 12) (ht : t ≤ s.size) (hk : k ≤ 40) (hr : r ≤ 40) :
    Calls Try.prog 56 #[.string s, .int .i64 (t : Int), .int .i64 (k : Int), .int .i64 (r : Int)] w fun e w' => e = .returned (.int .u8 ((byteU s (plc s.size t k r)).toNat : Int)) ∧ Drew w w' := by
  obtain ⟨m0, m1⟩ := prod_at (t := t) (r := r) (by omega) hr
  obtain ⟨u1, u2, u3⟩ := tmod_up (a := (k : Int) - (t : Int) * (r : Int)) (n := (s.size : Int)) (by omega)
  have hp := plc_int (n := s.size) (t := t) (k := k) (r := r) h0 ht
  have hlt := plc_lt (n := s.size) (t := t) (k := k) (r := r) h0
  have hby : byteU s (plc s.size t k r) = s[plc s.size t k r]'hlt := by unfold byteU; rw [dif_pos hlt]
  rw [hby]
  generalize plc s.size t k r = p at *
  rw [hp] at u3
  obtain ⟨M, hM⟩ : ∃ M, M = (t : Int) * (r : Int) := ⟨_, rfl⟩
  rw [← hM] at u1 u2 u3 m0 m1
  have hw1 : wrap64 ((t : Int) * (r : Int)) = M := by rw [hM]; exact IntWalk.wrap64_in _ ⟨by omega, by omega⟩
  obtain ⟨D, hD⟩ : ∃ D, D = (k : Int) - M := ⟨_, rfl⟩
  rw [← hD] at u1 u2 u3
  have hw2 : wrap64 ((k : Int) - M) = D := by rw [hD]; exact IntWalk.wrap64_in _ ⟨by omega, by omega⟩
  obtain ⟨Q, hQ⟩ : ∃ Q, Q = D.tmod (s.size : Int) := ⟨_, rfl⟩
  rw [← hQ] at u1 u2 u3
  have hQ' : D.tmod (s.size : Int) = Q := hQ.symm
  obtain ⟨E, hE⟩ : ∃ E, E = Q + (s.size : Int) := ⟨_, rfl⟩
  rw [← hE] at u3
  have hw3 : wrap64 (Q + (s.size : Int)) = E := by rw [hE]; exact IntWalk.wrap64_in _ ⟨by omega, by omega⟩
  have hE' : E.tmod (s.size : Int) = (p : Int) := by rw [Int.tmod_eq_emod_of_nonneg (by omega)]; exact u3
  have hn0 : ((s.size : Int) == 0) = false := beq_false_of_ne (by omega)
  have hn1 : 1 ≤ (s.size : Int) := by omega
  have hp0 : (0 : Int) ≤ (p : Int) := by omega
  have hp1 : (p : Int) < (s.size : Int) := by omega
  clear hM hD hQ hE u1 u2 u3 m0 m1
  clear hby hp
  go_enter Try.func56, Try.ntmps56
  go_wp2_with fail
  go_wp2
  go_ret
  exact ⟨rfl, Drew.refl _⟩

end Go.Proofs.Ytakcgeafcecimaa.twl
