/-
  Twills: their rows as texts; the contract of the model's row. No condition of a statement lies here.
-/
import Derived.Test.YtakcgeafcecimaaDoorQb
import Derived.Test.YtakcgeafcecimaaDoorWk
import Derived.Test.YtakcgeafcecimaaDoorWb
namespace Go.Proofs.YtakcgeafcecimaaDoor.twl
open Go.ChangeShapes Go.WideShapes Go.ChangeAt Go.RowKit Go.Deep Go.Proofs.YtakcgeafcecimaaDoor.mem Go.Proofs.YtakcgeafcecimaaDoor.rod Go.Proofs.YtakcgeafcecimaaDoor.nums Go.Proofs.YtakcgeafcecimaaDoor.shp Go.Proofs.YtakcgeafcecimaaDoor.wv Go.Proofs.YtakcgeafcecimaaDoor.wk
set_option linter.unusedVariables false
set_option maxRecDepth 100000

/-- the letter of part i -/
def lt (i : Nat) : UInt8 := if i % 2 = 0 then 70 else 66
theorem lt_even {i : Nat} (h : i % 2 = 0) : lt i = 70 := if_pos h
theorem lt_odd {i : Nat} (h : ¬ i % 2 = 0) : lt i = 66 := if_neg h
def rowL (X : Nat → Int) : Nat → List UInt8
  | 0 => []
  | n + 1 => rowL X n ++ List.replicate (X n).toNat (lt n)
/-- the row of the first n parts -/
def rowB (X : Nat → Int) (n : Nat) : ByteArray := ⟨(rowL X n).toArray⟩
/-- the row of the first i parts with k letters of the next one -/
def rowK (X : Nat → Int) (i k : Nat) : ByteArray := ⟨(rowL X i ++ List.replicate k (lt i)).toArray⟩
theorem rowK_0 (X : Nat → Int) (i : Nat) : rowK X i 0 = rowB X i := by unfold rowK rowB; simp
theorem rowK_end (X : Nat → Int) {i k : Nat} (h : X i = (k : Int)) : rowK X i k = rowB X (i + 1) := by unfold rowK rowB; simp [rowL, h]
theorem snocB (l : List UInt8) (c : UInt8) : (⟨l.toArray⟩ : ByteArray) ++ (⟨#[c]⟩ : ByteArray) = ⟨(l ++ [c]).toArray⟩ := by
  apply ByteArray.ext
  rw [ByteArray.data_append]
  simp
theorem rowK_succ (X : Nat → Int) (i k : Nat) : rowK X i k ++ (⟨#[lt i]⟩ : ByteArray) = rowK X i (k + 1) := by
  unfold rowK
  rw [snocB, List.append_assoc, List.replicate_succ']
theorem rowL_len {X : Nat → Int} : ∀ {n : Nat}, (∀ k, k < n → 1 ≤ X k ∧ X k ≤ 12) → ((rowL X n).length : Int) = sumN X n
  | 0, _ => rfl
  | n + 1, h => by
    have ih := rowL_len (n := n) fun k hk => h k (by omega)
    have := h n (by omega)
    simp only [rowL, sumN, List.length_append, List.length_replicate]
    omega
theorem rowB_size (X : Nat → Int) (n : Nat) : (rowB X n).size = (rowL X n).length := by
  show (rowL X n).toArray.size = _
  simp
theorem rowK_size (X : Nat → Int) (i k : Nat) : (rowK X i k).size = (rowL X i).length + k := by
  show (rowL X i ++ List.replicate k (lt i)).toArray.size = _
  simp
theorem rowL_mem {X : Nat → Int} : ∀ {n : Nat} {c : UInt8}, c ∈ rowL X n → c = 70 ∨ c = 66
  | 0, _, h => by simp [rowL] at h
  | n + 1, c, h => by
    simp only [rowL, List.mem_append] at h
    rcases h with h | h
    · exact rowL_mem h
    · have := List.eq_of_mem_replicate h
      subst this
      unfold lt
      split
      · exact .inl rfl
      · exact .inr rfl

end Go.Proofs.YtakcgeafcecimaaDoor.twl
