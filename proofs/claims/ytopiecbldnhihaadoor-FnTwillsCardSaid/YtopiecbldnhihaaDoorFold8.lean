/-
  Twills: their rows as texts; the contract of the model's row. No condition of a statement lies here.
  Twills: where a stroke stands in the row; the model's contract. No condition of a statement lies here.
-/
import Derived.Test.YtopiecbldnhihaaDoorQb
import Derived.Test.YtopiecbldnhihaaDoorFold4
import Derived.Test.YtopiecbldnhihaaDoorFold7
namespace Go.Proofs.YtopiecbldnhihaaDoor.twl
open Go.ChangeShapes Go.WideShapes Go.ChangeAt Go.RowKit Go.Deep Go.Proofs.YtopiecbldnhihaaDoor.mem Go.Proofs.YtopiecbldnhihaaDoor.rod Go.Proofs.YtopiecbldnhihaaDoor.nums Go.Proofs.YtopiecbldnhihaaDoor.shp Go.Proofs.YtopiecbldnhihaaDoor.wv Go.Proofs.YtopiecbldnhihaaDoor.wk
set_option linter.unusedVariables false
set_option maxRecDepth 100000

/-- the letter of part i -/
def lt (i : Nat) : UInt8 := if i % 2 = 0 then 70 else 66
theorem lt_even {i : Nat} (h : i % 2 = 0) : lt i = 70 := if_pos h
theorem lt_odd {i : Nat} (h : ¬ i % 2 = 0) : lt i = 66 := if_neg h
def rowL (X : Nat → Int) : Nat → List UInt8
  | 0 => []
  | n + 1 => rowL X n ++ List.replicate (X n).toNat (lt n)
/-- the row of the first n parts -/
def rowB (X : Nat → Int) (n : Nat) : ByteArray := ⟨(rowL X n).toArray⟩
/-- the row of the first i parts with k letters of the next one -/
def rowK (X : Nat → Int) (i k : Nat) : ByteArray := ⟨(rowL X i ++ List.replicate k (lt i)).toArray⟩
theorem rowK_0 (X : Nat → Int) (i : Nat) : rowK X i 0 = rowB X i := by unfold rowK rowB; simp
theorem rowK_end (X : Nat → Int) {i k : Nat} (h : X i = (k : Int)) : rowK X i k = rowB X (i + 1) := by unfold rowK rowB; simp [rowL, h]
theorem snocB (l : List UInt8) (c : UInt8) : (⟨l.toArray⟩ : ByteArray) ++ (⟨#[c]⟩ : ByteArray) = ⟨(l ++ [c]).toArray⟩ := by
  apply ByteArray.ext
  rw [ByteArray.data_append]
  simp
theorem rowK_succ (X : Nat → Int) (i k : Nat) : rowK X i k ++ (⟨#[lt i]⟩ : ByteArray) = rowK X i (k + 1) := by
  unfold rowK
  rw [snocB, List.append_assoc, List.replicate_succ']
theorem rowL_len {X : Nat → Int} : ∀ {n : Nat}, (∀ k, k < n → 1 ≤ X k ∧ X k ≤ 12) → ((rowL X n).length : Int) = sumN X n
  | 0, _ => rfl
  | n + 1, h => by
    have ih := rowL_len (n := n) fun k hk => h k (by omega)
    have := h n (by omega)
    simp only [rowL, sumN, List.length_append, List.length_replicate]
    omega
theorem rowB_size (X : Nat → Int) (n : Nat) : (rowB X n).size = (rowL X n).length := by
  show (rowL X n).toArray.size = _
  simp
theorem rowK_size (X : Nat → Int) (i k : Nat) : (rowK X i k).size = (rowL X i).length + k := by
  show (rowL X i ++ List.replicate k (lt i)).toArray.size = _
  simp
theorem rowL_mem {X : Nat → Int} : ∀ {n : Nat} {c : UInt8}, c ∈ rowL X n → c = 70 ∨ c = 66
  | 0, _, h => by simp [rowL] at h
  | n + 1, c, h => by
    simp only [rowL, List.mem_append] at h
    rcases h with h | h
    · exact rowL_mem h
    · have := List.eq_of_mem_replicate h
      subst this
      unfold lt
      split
      · exact .inl rfl
      · exact .inr rfl

set_option maxHeartbeats 2000000 in
theorem row_s (A : Option Addr) (n c b : Nat) (X : Nat → Int) (w : World) (hn : n ≤ 12) (hX : ∀ k, k < n → 1 ≤ X k ∧ X k ≤ 12) (hr : Sl w A n 1 X) (c0 : w.cell? ⟨b, 0, none⟩ = some (.slice A n c)) :
    Calls Tryd.prog 33 #[.pointer (some ⟨b, 0, none⟩)] w fun e w' => e = .returned (.string (rowB X n)) ∧ w = w' := by
  have HR := Lib.hid hr
  have HX := Lib.hid hX
  clear hr hX
  go_enter Tryd.func33, Tryd.ntmps33
  go_wp2_with fail
  go_loop [3, 4] (fun t s => ∃ i : Nat, i ≤ n ∧ s = .int .i64 i ∧ t = .string (rowB X i)) (fun _ s => n - (intOf s).toNat)
  case atStart => exact ⟨0, by omega, rfl, rfl⟩
  case round =>
    obtain ⟨i, hi, rfl, rfl⟩ := hrel
    by_cases hlt : i < n
    · have hlt' : (i : Int) < (n : Int) := by omega
      obtain ⟨b1, o1, rfl, hb, hI⟩ := HR.out (by omega)
      have h0 := hI i (by omega)
      obtain ⟨x0, x1⟩ := HX.out i hlt
      obtain ⟨m, hm⟩ : ∃ m : Nat, X i = (m : Int) := ⟨(X i).toNat, by omega⟩
      have HE := Lib.hid (rowK_end X hm)
      rw [hm] at h0 x0 x1
      have HS := Lib.hid (fun k => rowK_succ X i k)
      have HZ := Lib.hid (fun (k : Nat) (hk : k ≤ 12) => show (rowK X i k).size ≤ 200 by
        have h1 := rowK_size X i k
        have h2 := rowL_len (n := i) fun j hj => HX.out j (by omega)
        have h3 := (sumN_bd (n := i) fun j hj => HX.out j (by omega)).2
        omega)
      rw [← rowK_0]
      clear hI hm
      generalize hR : rowK X i = R at *
      clear hR
      go_wp2_with fail
      go_loop [3, 5] (fun t s => ∃ k : Nat, k ≤ m ∧ s = .int .i64 k ∧ t = .string (R k)) (fun _ s => m - (intOf s).toNat)
      case atStart => exact ⟨0, by omega, rfl, rfl⟩
      case round =>
        obtain ⟨k, hk, rfl, rfl⟩ := hrel
        by_cases hkm : k < m
        · have hkm' : (k : Int) < (m : Int) := by omega
          have HR2 := Lib.hid (HS.out k)
          have hz : ¬ 9223372036854775807 < (R k).size + 1 := by have := HZ.out k (by omega); omega
          by_cases he : i % 2 = 0
          · rw [lt_even he] at HR2
            have e1 : ((i : Int) % 2 == 0) = true := beq_iff_eq.2 (by omega)
            clear he
            go_wp2
            go_round
            case rel => exact ⟨k + 1, by omega, by go_num, by rw [← HR2.out]⟩
            case measure => simp [intOf]; omega
          · rw [lt_odd he] at HR2
            have e1 : ((i : Int) % 2 == 0) = false := beq_false_of_ne (by omega)
            clear he
            go_wp2
            go_round
            case rel => exact ⟨k + 1, by omega, by go_num, by rw [← HR2.out]⟩
            case measure => simp [intOf]; omega
        · obtain rfl : k = m := by omega
          go_wp2
          go_round
          case rel => exact ⟨i + 1, by omega, by go_num, by rw [← HE.out]⟩
          case measure => simp [intOf]; omega
    · obtain rfl : i = n := by omega
      go_wp2
      go_ret
      exact ⟨rfl, rfl⟩

end Go.Proofs.YtopiecbldnhihaaDoor.twl

namespace Go.Proofs.YtopiecbldnhihaaDoor.twl
open Go.ChangeShapes Go.WideShapes Go.ChangeAt Go.RowKit Go.Deep Go.Proofs.YtopiecbldnhihaaDoor.mem Go.Proofs.YtopiecbldnhihaaDoor.rod Go.Proofs.YtopiecbldnhihaaDoor.nums Go.Proofs.YtopiecbldnhihaaDoor.shp Go.Proofs.YtopiecbldnhihaaDoor.wv Go.Proofs.YtopiecbldnhihaaDoor.wk
set_option linter.unusedVariables false
set_option maxRecDepth 100000

/-- the place of the stroke at stake k in round r, of a row of n letters that is moved by t -/
def plc (n t k r : Nat) : Nat := (k + r * (n - t)) % n
theorem plc_lt {n t k r : Nat} (h : 0 < n) : plc n t k r < n := Nat.mod_lt _ h
theorem plc_int {n t k r : Nat} (h : 0 < n) (ht : t ≤ n) : (((k : Int) - (t : Int) * (r : Int)) % (n : Int)) = (plc n t k r : Int) := by
  unfold plc
  rw [Int.natCast_emod, Int.natCast_add, Int.natCast_mul, Int.ofNat_sub ht]
  have e : (k : Int) + (r : Int) * ((n : Int) - (t : Int)) = (k : Int) - (t : Int) * (r : Int) + (n : Int) * (r : Int) := by
    rw [Int.mul_sub, Int.mul_comm (r : Int) (n : Int), Int.mul_comm (r : Int) (t : Int)]; omega
  rw [e, Int.add_mul_emod_self_left]
theorem tmod_up {a n : Int} (h : 0 < n) : -n < a.tmod n ∧ a.tmod n < n ∧ (a.tmod n + n) % n = a % n := by
  refine ⟨Int.lt_tmod_of_pos a h, Int.tmod_lt_of_pos a h, ?_⟩
  rw [Int.add_emod_right]
  have h1 := Int.mul_tdiv_add_tmod a n
  have e : a.tmod n = a + n * (-(a.tdiv n)) := by rw [Int.mul_neg]; omega
  rw [e, Int.add_mul_emod_self_left]
theorem prod_at {t r : Nat} (ht : t ≤ 12) (hr : r ≤ 40) : 0 ≤ (t : Int) * (r : Int) ∧ (t : Int) * (r : Int) ≤ 480 := by
  have := Nat.mul_le_mul ht hr
  constructor
  · exact Int.mul_nonneg (by omega) (by omega)
  · have e : ((t * r : Nat) : Int) = (t : Int) * (r : Int) := by simp
    omega

set_option maxHeartbeats 1000000 in
theorem at09_s (s : ByteArray) (t k r : Nat) (w : World) (h0 : 0 < s.size) (hs : s.size ≤ 12) (ht : t ≤ s.size) (hk : k ≤ 40) (hr : r ≤ 40) :
    Calls Tryd.prog 34 #[.string s, .int .i64 (t : Int), .int .i64 (k : Int), .int .i64 (r : Int)] w fun e w' => e = .returned (.int .u8 ((byteU s (plc s.size t k r)).toNat : Int)) ∧ Drew w w' := by
  obtain ⟨m0, m1⟩ := prod_at (t := t) (r := r) (by omega) hr
  obtain ⟨u1, u2, u3⟩ := tmod_up (a := (k : Int) - (t : Int) * (r : Int)) (n := (s.size : Int)) (by omega)
  have hp := plc_int (n := s.size) (t := t) (k := k) (r := r) h0 ht
  have hlt := plc_lt (n := s.size) (t := t) (k := k) (r := r) h0
  have hby : byteU s (plc s.size t k r) = s[plc s.size t k r]'hlt := by unfold byteU; rw [dif_pos hlt]
  rw [hby]
  generalize plc s.size t k r = p at *
  rw [hp] at u3
  obtain ⟨M, hM⟩ : ∃ M, M = (t : Int) * (r : Int) := ⟨_, rfl⟩
  rw [← hM] at u1 u2 u3 m0 m1
  have hw1 : wrap64 ((t : Int) * (r : Int)) = M := by rw [hM]; exact IntWalk.wrap64_in _ ⟨by omega, by omega⟩
  obtain ⟨D, hD⟩ : ∃ D, D = (k : Int) - M := ⟨_, rfl⟩
  rw [← hD] at u1 u2 u3
  have hw2 : wrap64 ((k : Int) - M) = D := by rw [hD]; exact IntWalk.wrap64_in _ ⟨by omega, by omega⟩
  obtain ⟨Q, hQ⟩ : ∃ Q, Q = D.tmod (s.size : Int) := ⟨_, rfl⟩
  rw [← hQ] at u1 u2 u3
  have hQ' : D.tmod (s.size : Int) = Q := hQ.symm
  obtain ⟨E, hE⟩ : ∃ E, E = Q + (s.size : Int) := ⟨_, rfl⟩
  rw [← hE] at u3
  have hw3 : wrap64 (Q + (s.size : Int)) = E := by rw [hE]; exact IntWalk.wrap64_in _ ⟨by omega, by omega⟩
  have hE' : E.tmod (s.size : Int) = (p : Int) := by rw [Int.tmod_eq_emod_of_nonneg (by omega)]; exact u3
  have hn0 : ((s.size : Int) == 0) = false := beq_false_of_ne (by omega)
  have hn1 : 1 ≤ (s.size : Int) := by omega
  have hp0 : (0 : Int) ≤ (p : Int) := by omega
  have hp1 : (p : Int) < (s.size : Int) := by omega
  clear hM hD hQ hE u1 u2 u3 m0 m1
  clear hby hp
  go_enter Tryd.func34, Tryd.ntmps34
  go_wp2_with fail
  go_wp2
  go_ret
  exact ⟨rfl, Drew.refl _⟩

end Go.Proofs.YtopiecbldnhihaaDoor.twl
