/-
  The fewest beds for a need: contracts of the model's search and of the program's.
-/
import Derived.Test.YtcpaenmhnoagdacLess
namespace Go.Proofs.Ytcpaenmhnoagdac.rod
open Go.ChangeShapes Go.WideShapes Go.ChangeAt Go.RowKit Go.Proofs.Ytcpaenmhnoagdac.mem Go.Proofs.Ytcpaenmhnoagdac.nums
set_option linter.unusedVariables false

/-- a new slice of the numbers of a set -/
def SetRow (w : World) (n B : Nat) (e : Ending) (w' : World) : Prop :=
  ∃ A c, e = .returned (.slice A (idxs B.testBit n).length c) ∧ (idxs B.testBit n).length ≤ c ∧ c ≤ maxLen ∧ Row w' w.heap.size w'.heap.size A (idxs B.testBit n).length 1 2 (fun j => (idxs B.testBit n).getD j 0) ∧ Below w.heap.size w w'

set_option maxHeartbeats 2000000 in
theorem numbers_i (B n : Nat) (w : World) (hn : n ≤ 32) (hB : B < 2 ^ n) :
    Calls Try.prog 81 #[.int .u32 B] w (SetRow w n B) := by
  have hB16 : B < 2 ^ 32 := Nat.lt_of_lt_of_le hB (Nat.pow_le_pow_right (by decide) hn)
  have hbl := bitLen_32 hB hn
  have hend : idxs B.testBit n = idxs B.testBit (Lib.bitLen B) := idxs_more _ _ hbl fun i hi => bit_out (bitLen_lt hB16) hi
  have HE := Lib.hid hend
  clear hend
  obtain ⟨i0, hi0, hz0, hz1, hz2⟩ := info_parts info_num
  generalize hL : Lib.bitLen B = L at *
  have HL := Lib.hid hL
  clear hL
  go_enter Try.func81, Try.ntmps81
  go_wp2_with fail
  refine (len_i B _ hB16).mono ?_
  rintro e w' ⟨rfl, rfl⟩
  rw [HL.out]
  go_wp2_with fail
  go_loopw [7, 3] (fun s v wr => ∃ k : Nat, k ≤ L ∧ s = .int .i64 k ∧ Hid (wr.ownsRow w.heap.size 2 1 v (idxs B.testBit k).length ((idxs B.testBit k).map (Value.int .i64))) ∧ Below w.heap.size w wr) (fun s _ _ => L - (intOf s).toNat)
  case atStart => exact ⟨0, by omega, rfl, owns_nil _ _ _, Below.refl _ _⟩
  case round =>
    obtain ⟨k, hk, rfl, hown, hbl⟩ := hrel
    have HB := Lib.hid hbl
    have hzz := hbl.size
    clear hbl
    by_cases hlt : k < L
    · have hlt' : (k : Int) < (L : Int) := by omega
      have hk16 : k < 32 := by omega
      have hlen := idxs_len B.testBit k
      cases hp : B.testBit k
      · have HP := Lib.hid hp
        clear hp
        go_wp2_with (go_at_call 106; refine (pickHas_i B k _ hB16 hk16).mono ?_; rintro e w' ⟨rfl, rfl⟩; rw [HP.out])
        go_roundw
        case rel => exact ⟨k + 1, by omega, by go_num, by rw [idxs_no HP.out]; exact hown.out, HB.out⟩
        case measure => simp [intOf]; omega
      · have HP := Lib.hid hp
        clear hp
        have hl1 : (idxs B.testBit k).length + 1 ≤ maxLen := by unfold maxLen; omega
        have hl2 : ((idxs B.testBit k).length + 1) * 8 ≤ 140737488355328 := by omega
        generalize hL : idxs B.testBit k = l at *
        have HL := Lib.hid hL
        clear hL
        go_wp2_with (first
          | (go_at_call 106; refine (pickHas_i B k _ hB16 hk16).mono ?_; rintro e w' ⟨rfl, rfl⟩; rw [HP.out])
          | (at_builtin; refine wpList_append_own _ rfl _ _ 24 rfl w.heap.size 2 i0 (.int .i64 0) 1 8 Try.underlying24 hi0 hz0 hz1 hz2 rfl (by decide) _ _ _ rfl (hown.out.alloc _) ⟨wr.heap.size, 0, none⟩ 1 1 [.int .i64 k] rfl rfl ?c1 ?c2 hl1 hl2 ?c5 ?_))
        case c1 => intro j u hj; rcases j with _ | j <;> simp at hj; subst hj; go_simp
        case c2 => intro u hu; simp at hu; subst hu; rfl
        case c5 => simp; omega
        intro v' w1 hown1 hgrow1 _
        have g1 : Below w.heap.size w w1 := Below.grown (HB.out.alloc hzz _) hgrow1 (by simp; omega) (owns_block hown.out)
        have HO := Lib.hid (owns_snoc hown1)
        clear hown1 hgrow1
        go_wp2
        go_roundw
        case rel => exact ⟨k + 1, by omega, by go_num, by rw [idxs_yes HP.out, HL.out]; exact HO.out, g1⟩
        case measure => simp [intOf]; omega
    · obtain rfl : k = L := by omega
      obtain ⟨A', c', rfl, hc1, hc2, hrow⟩ := row_of_owns hown.out
      have HW := Lib.hid hrow
      clear hrow
      go_wp2
      go_ret
      unfold SetRow
      rw [HE.out]
      exact ⟨_, _, rfl, hc1, hc2, HW.out, HB.out⟩

/-- two rows, number by number from place k on, r numbers -/
def lexF (X Z : Nat → Int) : Nat → Nat → Bool
  | 0, _ => false
  | r + 1, k => if X k = Z k then lexF X Z r (k + 1) else decide (X k < Z k)
theorem lexF_step {X Z : Nat → Int} {a k : Nat} (h : k < a) : lexF X Z (a - k) k = if X k = Z k then lexF X Z (a - (k + 1)) (k + 1) else decide (X k < Z k) := by
  rw [show a - k = (a - (k + 1)) + 1 by omega]
  rfl
theorem lexF_shift (X Z : Nat → Int) : ∀ r k, lexF X Z r (k + 1) = lexF (fun j => X (j + 1)) (fun j => Z (j + 1)) r k
  | 0, _ => rfl
  | r + 1, k => by simp only [lexF, lexF_shift X Z r (k + 1)]
theorem lexL_F : ∀ (l m : List Int), l.length = m.length → lexL l m = lexF (fun j => l.getD j 0) (fun j => m.getD j 0) l.length 0
  | [], [], _ => rfl
  | a :: l, b :: m, h => by
    have ih := lexL_F l m (by simpa using h)
    show (if a = b then lexL l m else decide (a < b)) = (if a = b then lexF _ _ l.length 1 else decide (a < b))
    rw [lexF_shift, ih]
    rfl

/-- the first best set below b of those that suffice -/
def pick (n : Nat) (P : Nat → Bool) : Nat → Option Nat
  | 0 => none
  | b + 1 => if P b && (match pick n P b with | none => true | some q => befB n b q) then some b else pick n P b
def best (n : Nat) (P : Nat → Bool) (b : Nat) : Nat := (pick n P b).getD 0
def found (n : Nat) (P : Nat → Bool) (b : Nat) : Bool := (pick n P b).isSome
theorem pick_new {n b : Nat} {P : Nat → Bool} (h : P b = true) (h2 : found n P b = false ∨ befB n b (best n P b) = true) : best n P (b + 1) = b ∧ found n P (b + 1) = true := by
  unfold best found at *
  have : pick n P (b + 1) = some b := by
    simp only [pick, h, Bool.true_and]
    cases e : pick n P b
    · rfl
    · rw [e] at h2
      rcases h2 with h2 | h2
      · cases h2
      · simp only [Option.getD_some] at h2
        simp only [h2, if_true]
  rw [this]
  exact ⟨rfl, rfl⟩
theorem pick_old {n b : Nat} {P : Nat → Bool} (h : P b = false ∨ found n P b = true ∧ befB n b (best n P b) = false) : best n P (b + 1) = best n P b ∧ found n P (b + 1) = found n P b := by
  unfold best found at *
  have : pick n P (b + 1) = pick n P b := by
    rcases h with h | ⟨h1, h2⟩
    · simp only [pick, h, Bool.false_and]; rfl
    · cases e : pick n P b
      · rw [e] at h1; cases h1
      · rw [e] at h2
        simp only [Option.getD_some] at h2
        simp only [pick, e, h2, Bool.and_false]
        rfl
  rw [this]
  exact ⟨rfl, rfl⟩
theorem pick_lt (n : Nat) (P : Nat → Bool) : ∀ b, ∀ q, pick n P b = some q → q < b
  | 0, q, h => by cases h
  | b + 1, q, h => by
    have key : ∀ c : Bool, (if c = true then some b else pick n P b) = some q → q < b + 1 := fun c hc => by
      cases c
      · exact Nat.lt_succ_of_lt (pick_lt n P b q (by simpa using hc))
      · simp at hc; omega
    exact key _ h
theorem best_lt {n b : Nat} {P : Nat → Bool} (hb : 0 < b) : best n P b < b := by
  unfold best
  cases e : pick n P b
  · exact hb
  · exact pick_lt n P b _ e
theorem best_le {n b : Nat} {P : Nat → Bool} : best n P b ≤ b := by
  unfold best
  cases e : pick n P b
  · exact Nat.zero_le _
  · exact Nat.le_of_lt (pick_lt n P b _ e)

end Go.Proofs.Ytcpaenmhnoagdac.rod
