/-
  Twills: their rows as texts; the contract of the model's row. No condition of a statement lies here.
-/
import Derived.Test.YtakcgeafcecimaaQb
import Derived.Test.YtakcgeafcecimaaWk
import Derived.Test.YtakcgeafcecimaaWb
namespace Go.Proofs.Ytakcgeafcecimaa.twl
open Go.ChangeShapes Go.WideShapes Go.ChangeAt Go.RowKit Go.Deep Go.Proofs.Ytakcgeafcecimaa.mem Go.Proofs.Ytakcgeafcecimaa.rod Go.Proofs.Ytakcgeafcecimaa.nums Go.Proofs.Ytakcgeafcecimaa.shp Go.Proofs.Ytakcgeafcecimaa.wv Go.Proofs.Ytakcgeafcecimaa.wk
set_option linter.unusedVariables false
set_option maxRecDepth 100000

/-- the letter of part i -/
def lt (i : Nat) : UInt8 := if i % 2 = 0 then 70 else 66
theorem lt_even {i : Nat} (h : i % 2 = 0) : lt i = 70 := if_pos h
theorem lt_odd {i : Nat} (h : ¬ i % 2 = 0) : lt i = 66 := if_neg h
def rowL (X : Nat → Int) : Nat → List UInt8
  | 0 => []
  | n + 1 => rowL X n ++ List.replicate (X n).toNat (lt n)
/-- the row of the first n parts -/
def rowB (X : Nat → Int) (n : Nat) : ByteArray := ⟨(rowL X n).toArray⟩
/-- the row of the first i parts with k letters of the next one -/
def rowK (X : Nat → Int) (i k : Nat) : ByteArray := ⟨(rowL X i ++ List.replicate k (lt i)).toArray⟩
theorem rowK_0 (X : Nat → Int) (i : Nat) : rowK X i 0 = rowB X i := by unfold rowK rowB; simp
theorem rowK_end (X : Nat → Int) {i k : Nat} (h : X i = (k : Int)) : rowK X i k = rowB X (i + 1) := by unfold rowK rowB; simp [rowL, h]
theorem snocB (l : List UInt8) (c : UInt8) : (⟨l.toArray⟩ : ByteArray) ++ (⟨#[c]⟩ : ByteArray) = ⟨(l ++ [c]).toArray⟩ := by
  apply ByteArray.ext
  rw [ByteArray.data_append]
  simp
theorem rowK_succ (X : Nat → Int) (i k : Nat) : rowK X i k ++ (⟨#[lt i]⟩ : ByteArray) = rowK X i (k + 1) := by
  unfold rowK
  rw [snocB, List.append_assoc, List.replicate_succ']
theorem rowL_len {X : Nat → Int} : ∀ {n : Nat}, (∀ k, k < n → 1 ≤ X k ∧ X k ≤ 12) → ((rowL X n).length : Int) = sumN X n
  | 0, _ => rfl
  | n + 1, h => by
    have ih := rowL_len (n := n) fun k hk => h k (by omega)
    have := h n (by omega)
    simp only [rowL, sumN, List.length_append, List.length_replicate]
    omega
theorem rowB_size (X : Nat → Int) (n : Nat) : (rowB X n).size = (rowL X n).length := by
  show (rowL X n).toArray.size = _
  simp
theorem rowK_size (X : Nat → Int) (i k : Nat) : (rowK X i k).size = (rowL X i).length + k := by
  show (rowL X i ++ List.replicate k (lt i)).toArray.size = _
  simp
theorem rowL_mem {X : Nat → Int} : ∀ {n : Nat} {c : UInt8}, c ∈ rowL X n → c = 70 ∨ c = 66
  | 0, _, h => by simp [rowL] at h
  | n + 1, c, h => by
    simp only [rowL, List.mem_append] at h
    rcases h with h | h
    · exact rowL_mem h
    · have := List.eq_of_mem_replicate h
      subst this
      unfold lt
      split
      · exact .inl rfl
      · exact .inr rfl

set_option maxHeartbeats 2000000 in
theorem row_s (A : Option Addr) (n c b : Nat) (X : Nat → Int) (w : World) (hn : n ≤ 12) (hX : ∀ k, k < n → 1 ≤ X k ∧ X k ≤ 12) (hr : Sl w A n 1 X) (c0 : w.cell? ⟨b, 0, none⟩ = some (.slice A n c)) :
    Calls Try.prog 50 #[.pointer (some ⟨b, 0, none⟩)] w fun e w' => e = .returned (.string (rowB X n)) ∧ w = w' := by
  have HR := Lib.hid hr
  have HX := Lib.hid hX
  clear hr hX
  go_enter Try.func50, Try.ntmps50
  go_wp2_with fail
  go_loop [3, 4] (fun t s => ∃ i : Nat, i ≤ n ∧ s = .int .i64 i ∧ t = .string (rowB X i)) (fun _ s => n - (intOf s).toNat)
  case atStart => exact ⟨0, by omega, rfl, rfl⟩
  case round =>
    obtain ⟨i, hi, rfl, rfl⟩ := hrel
    by_cases hlt : i < n
    · have hlt' : (i : Int) < (n : Int) := by omega
      obtain ⟨b1, o1, rfl, hb, hI⟩ := HR.out (by omega)
      have h0 := hI i (by omega)
      obtain ⟨x0, x1⟩ := HX.out i hlt
      obtain ⟨m, hm⟩ : ∃ m : Nat, X i = (m : Int) := ⟨(X i).toNat, by omega⟩
      have HE := Lib.hid (rowK_end X hm)
      rw [hm] at h0 x0 x1
      have HS := Lib.hid (fun k => rowK_succ X i k)
      have HZ := Lib.hid (fun (k : Nat) (hk : k ≤ 12) => show (rowK X i k).size ≤ 200 by
        have h1 := rowK_size X i k
        have h2 := rowL_len (n := i) fun j hj => HX.out j (by omega)
        have h3 := (sumN_bd (n := i) fun j hj => HX.out j (by omega)).2
        omega)
      rw [← rowK_0]
      clear hI hm
      generalize hR : rowK X i = R at *
      clear hR
      go_wp2_with fail
      go_loop [3, 5] (fun t s => ∃ k : Nat, k ≤ m ∧ s = .int .i64 k ∧ t = .string (R k)) (fun _ s => m - (intOf s).toNat)
      case atStart => exact ⟨0, by omega, rfl, rfl⟩
      case round =>
        obtain ⟨k, hk, rfl, rfl⟩ := hrel
        by_cases hkm : k < m
        · have hkm' : (k : Int) < (m : Int) := by omega
          have HR2 := Lib.hid (HS.out k)
          have hz : ¬ 9223372036854775807 < (R k).size + 1 := by have := HZ.out k (by omega); omega
          by_cases he : i % 2 = 0
          · rw [lt_even he] at HR2
            have e1 : ((i : Int) % 2 == 0) = true := beq_iff_eq.2 (by omega)
            clear he
            go_wp2
            go_round
            case rel => exact ⟨k + 1, by omega, by go_num, by rw [← HR2.out]⟩
            case measure => simp [intOf]; omega
          · rw [lt_odd he] at HR2
            have e1 : ((i : Int) % 2 == 0) = false := beq_false_of_ne (by omega)
            clear he
            go_wp2
            go_round
            case rel => exact ⟨k + 1, by omega, by go_num, by rw [← HR2.out]⟩
            case measure => simp [intOf]; omega
        · obtain rfl : k = m := by omega
          go_wp2
          go_round
          case rel => exact ⟨i + 1, by omega, by go_num, by rw [← HE.out]⟩
          case measure => simp [intOf]; omega
    · obtain rfl : i = n := by omega
      go_wp2
      go_ret
      exact ⟨rfl, rfl⟩

end Go.Proofs.Ytakcgeafcecimaa.twl
