/-
  The fewest beds for a need: contracts of the model's search and of the program's.
-/
import Derived.Test.YtlepgkmpbhlajaaDoorLess
namespace Go.Proofs.YtlepgkmpbhlajaaDoor.rod
open Go.ChangeShapes Go.WideShapes Go.ChangeAt Go.RowKit Go.Proofs.YtlepgkmpbhlajaaDoor.mem Go.Proofs.YtlepgkmpbhlajaaDoor.nums
set_option linter.unusedVariables false

/-- a new slice of the numbers of a set -/
def SetRow (w : World) (n B : Nat) (e : Ending) (w' : World) : Prop :=
  ∃ A c, e = .returned (.slice A (idxs B.testBit n).length c) ∧ (idxs B.testBit n).length ≤ c ∧ c ≤ maxLen ∧ Row w' w.heap.size w'.heap.size A (idxs B.testBit n).length 1 2 (fun j => (idxs B.testBit n).getD j 0) ∧ Below w.heap.size w w'

set_option maxHeartbeats 2000000 in
theorem numbers_i (B n : Nat) (w : World) (hn : n ≤ 32) (hB : B < 2 ^ n) :
    Calls Tryd.prog 52 #[.int .u32 B] w (SetRow w n B) := by
  have hB16 : B < 2 ^ 32 := Nat.lt_of_lt_of_le hB (Nat.pow_le_pow_right (by decide) hn)
  have hbl := bitLen_32 hB hn
  have hend : idxs B.testBit n = idxs B.testBit (Lib.bitLen B) := idxs_more _ _ hbl fun i hi => bit_out (bitLen_lt hB16) hi
  have HE := Lib.hid hend
  clear hend
  obtain ⟨i0, hi0, hz0, hz1, hz2⟩ := info_parts info_num
  generalize hL : Lib.bitLen B = L at *
  have HL := Lib.hid hL
  clear hL
  go_enter Tryd.func52, Tryd.ntmps52
  go_wp2_with fail
  refine (len_i B _ hB16).mono ?_
  rintro e w' ⟨rfl, rfl⟩
  rw [HL.out]
  go_wp2_with fail
  go_loopw [7, 3] (fun s v wr => ∃ k : Nat, k ≤ L ∧ s = .int .i64 k ∧ Hid (wr.ownsRow w.heap.size 2 1 v (idxs B.testBit k).length ((idxs B.testBit k).map (Value.int .i64))) ∧ Below w.heap.size w wr) (fun s _ _ => L - (intOf s).toNat)
  case atStart => exact ⟨0, by omega, rfl, owns_nil _ _ _, Below.refl _ _⟩
  case round =>
    obtain ⟨k, hk, rfl, hown, hbl⟩ := hrel
    have HB := Lib.hid hbl
    have hzz := hbl.size
    clear hbl
    by_cases hlt : k < L
    · have hlt' : (k : Int) < (L : Int) := by omega
      have hk16 : k < 32 := by omega
      have hlen := idxs_len B.testBit k
      cases hp : B.testBit k
      · have HP := Lib.hid hp
        clear hp
        go_wp2_with (go_at_call 77; refine (pickHas_i B k _ hB16 hk16).mono ?_; rintro e w' ⟨rfl, rfl⟩; rw [HP.out])
        go_roundw
        case rel => exact ⟨k + 1, by omega, by go_num, by rw [idxs_no HP.out]; exact hown.out, HB.out⟩
        case measure => simp [intOf]; omega
      · have HP := Lib.hid hp
        clear hp
        have hl1 : (idxs B.testBit k).length + 1 ≤ maxLen := by unfold maxLen; omega
        have hl2 : ((idxs B.testBit k).length + 1) * 8 ≤ 140737488355328 := by omega
        generalize hL : idxs B.testBit k = l at *
        have HL := Lib.hid hL
        clear hL
        go_wp2_with (first
          | (go_at_call 77; refine (pickHas_i B k _ hB16 hk16).mono ?_; rintro e w' ⟨rfl, rfl⟩; rw [HP.out])
          | (at_builtin; refine wpList_append_own _ rfl _ _ 32 rfl w.heap.size 2 i0 (.int .i64 0) 1 8 Tryd.underlying32 hi0 hz0 hz1 hz2 rfl (by decide) _ _ _ rfl (hown.out.alloc _) ⟨wr.heap.size, 0, none⟩ 1 1 [.int .i64 k] rfl rfl ?c1 ?c2 hl1 hl2 ?c5 ?_))
        case c1 => intro j u hj; rcases j with _ | j <;> simp at hj; subst hj; go_simp
        case c2 => intro u hu; simp at hu; subst hu; rfl
        case c5 => simp; omega
        intro v' w1 hown1 hgrow1 _
        have g1 : Below w.heap.size w w1 := Below.grown (HB.out.alloc hzz _) hgrow1 (by simp; omega) (owns_block hown.out)
        have HO := Lib.hid (owns_snoc hown1)
        clear hown1 hgrow1
        go_wp2
        go_roundw
        case rel => exact ⟨k + 1, by omega, by go_num, by rw [idxs_yes HP.out, HL.out]; exact HO.out, g1⟩
        case measure => simp [intOf]; omega
    · obtain rfl : k = L := by omega
      obtain ⟨A', c', rfl, hc1, hc2, hrow⟩ := row_of_owns hown.out
      have HW := Lib.hid hrow
      clear hrow
      go_wp2
      go_ret
      unfold SetRow
      rw [HE.out]
      exact ⟨_, _, rfl, hc1, hc2, HW.out, HB.out⟩

/-- two rows, number by number from place k on, r numbers -/
def lexF (X Z : Nat → Int) : Nat → Nat → Bool
  | 0, _ => false
  | r + 1, k => if X k = Z k then lexF X Z r (k + 1) else decide (X k < Z k)
theorem lexF_step {X Z : Nat → Int} {a k : Nat} (h : k < a) : lexF X Z (a - k) k = if X k = Z k then lexF X Z (a - (k + 1)) (k + 1) else decide (X k < Z k) := by
  rw [show a - k = (a - (k + 1)) + 1 by omega]
  rfl
theorem lexF_shift (X Z : Nat → Int) : ∀ r k, lexF X Z r (k + 1) = lexF (fun j => X (j + 1)) (fun j => Z (j + 1)) r k
  | 0, _ => rfl
  | r + 1, k => by simp only [lexF, lexF_shift X Z r (k + 1)]
theorem lexL_F : ∀ (l m : List Int), l.length = m.length → lexL l m = lexF (fun j => l.getD j 0) (fun j => m.getD j 0) l.length 0
  | [], [], _ => rfl
  | a :: l, b :: m, h => by
    have ih := lexL_F l m (by simpa using h)
    show (if a = b then lexL l m else decide (a < b)) = (if a = b then lexF _ _ l.length 1 else decide (a < b))
    rw [lexF_shift, ih]
    rfl

set_option maxHeartbeats 2000000 in
theorem less_f (A1 A2 : Option Addr) (a b c1 c2 : Nat) (X Z : Nat → Int) (w : World) (hl : a ≤ maxLen) (hm : b ≤ maxLen) (h1 : Sl w A1 a 1 X) (h2 : Sl w A2 b 1 Z) :
    Calls Tryd.prog 54 #[.slice A1 a c1, .slice A2 b c2] w fun e w' => e = .returned (.bool (if a = b then lexF X Z a 0 else decide (a < b))) ∧ ∃ k, w' = w.drewN k := by
  unfold maxLen at hl hm
  have H1 := Lib.hid h1
  have H2 := Lib.hid h2
  clear h1 h2
  by_cases hc : a = b
  · subst hc
    rw [if_pos rfl]
    go_enter Tryd.func54, Tryd.ntmps54
    go_wp2_with fail
    go_loopw [5] (fun s wr => ∃ k : Nat, k ≤ a ∧ s = .int .i64 k ∧ Hid (lexF X Z a 0 = lexF X Z (a - k) k) ∧ Drew w wr) (fun s _ => a - (intOf s).toNat)
    case atStart => exact ⟨0, by omega, rfl, rfl, Drew.refl _⟩
    case round =>
      obtain ⟨k, hk, rfl, HA, hd⟩ := hrel
      have HDr := Lib.hid hd
      clear hd
      by_cases hlt : k < a
      · have hlt' : (k : Int) < (a : Int) := by omega
        have hk0 : (0 : Int) ≤ (k : Int) := by omega
        obtain ⟨b1, o1, rfl, hb1, hX1⟩ := (HDr.out.sl H1.out) (by omega)
        obtain ⟨b2, o2, rfl, hb2, hX2⟩ := (HDr.out.sl H2.out) (by omega)
        have p0 := hX1 k (by omega)
        have q0 := hX2 k (by omega)
        have hstep := lexF_step (X := X) (Z := Z) hlt
        clear hX1 hX2
        by_cases hxy : X k = Z k
        · rw [if_pos hxy] at hstep
          have HS := Lib.hid hstep
          rw [hxy] at p0
          clear hstep hxy
          go_wp2_with fail
          go_quiet (fail)
          go_wp2
          go_roundw
          case rel => exact ⟨k + 1, by omega, by go_num, HA.out.trans HS.out, HDr.out.drewN _⟩
          case measure => simp [intOf]; omega
        · rw [if_neg hxy] at hstep
          have HS := Lib.hid (HA.out.trans hstep)
          have e1 : (X k == Z k) = false := by simpa using hxy
          have e2 : (X k != Z k) = true := by simpa using hxy
          clear hstep hxy
          go_wp2_with fail
          go_quiet (fail)
          go_wp2_with fail
          go_quiet (fail)
          go_wp2
          go_ret
          exact ⟨by rw [HS.out]; rfl, (HDr.out.drewN _).drewN _⟩
      · obtain rfl : k = a := by omega
        have HF := Lib.hid (show lexF X Z k 0 = false from HA.out.trans (by rw [Nat.sub_self]; rfl))
        go_wp2
        go_ret
        exact ⟨by rw [HF.out]; rfl, HDr.out⟩
  · rw [if_neg hc]
    have e1 : ((a : Int) == (b : Int)) = false := by simp; omega
    have e2 : ((a : Int) != (b : Int)) = true := by simp; omega
    clear hc
    go_enter Tryd.func54, Tryd.ntmps54
    go_wp2_with fail
    go_ret
    exact ⟨rfl, 0, rfl⟩
theorem less_s (A1 A2 : Option Addr) (n p q a b c1 c2 : Nat) (w : World) (ha : (idxs p.testBit n).length = a) (hb : (idxs q.testBit n).length = b) (hn : n ≤ 64) (h1 : Sl w A1 a 1 (fun j => (idxs p.testBit n).getD j 0)) (h2 : Sl w A2 b 1 (fun j => (idxs q.testBit n).getD j 0)) :
    Calls Tryd.prog 54 #[.slice A1 a c1, .slice A2 b c2] w fun e w' => e = .returned (.bool (befB n p q)) ∧ ∃ k, w' = w.drewN k := by
  have l1 := idxs_len p.testBit n
  have l2 := idxs_len q.testBit n
  have h := less_f A1 A2 a b c1 c2 _ _ w (by unfold maxLen; omega) (by unfold maxLen; omega) h1 h2
  have e : (if a = b then lexF (fun j => (idxs p.testBit n).getD j 0) (fun j => (idxs q.testBit n).getD j 0) a 0 else decide (a < b)) = befB n p q := by
    unfold befB lessL
    subst ha hb
    by_cases hc : (idxs p.testBit n).length = (idxs q.testBit n).length
    · rw [if_pos hc, if_pos hc, lexL_F _ _ hc]
    · rw [if_neg hc, if_neg hc]
  rw [e] at h
  exact h

/-- the first best set below b of those that suffice -/
def pick (n : Nat) (P : Nat → Bool) : Nat → Option Nat
  | 0 => none
  | b + 1 => if P b && (match pick n P b with | none => true | some q => befB n b q) then some b else pick n P b
def best (n : Nat) (P : Nat → Bool) (b : Nat) : Nat := (pick n P b).getD 0
def found (n : Nat) (P : Nat → Bool) (b : Nat) : Bool := (pick n P b).isSome
theorem pick_new {n b : Nat} {P : Nat → Bool} (h : P b = true) (h2 : found n P b = false ∨ befB n b (best n P b) = true) : best n P (b + 1) = b ∧ found n P (b + 1) = true := by
  unfold best found at *
  have : pick n P (b + 1) = some b := by
    simp only [pick, h, Bool.true_and]
    cases e : pick n P b
    · rfl
    · rw [e] at h2
      rcases h2 with h2 | h2
      · cases h2
      · simp only [Option.getD_some] at h2
        simp only [h2, if_true]
  rw [this]
  exact ⟨rfl, rfl⟩
theorem pick_old {n b : Nat} {P : Nat → Bool} (h : P b = false ∨ found n P b = true ∧ befB n b (best n P b) = false) : best n P (b + 1) = best n P b ∧ found n P (b + 1) = found n P b := by
  unfold best found at *
  have : pick n P (b + 1) = pick n P b := by
    rcases h with h | ⟨h1, h2⟩
    · simp only [pick, h, Bool.false_and]; rfl
    · cases e : pick n P b
      · rw [e] at h1; cases h1
      · rw [e] at h2
        simp only [Option.getD_some] at h2
        simp only [pick, e, h2, Bool.and_false]
        rfl
  rw [this]
  exact ⟨rfl, rfl⟩
theorem pick_lt (n : Nat) (P : Nat → Bool) : ∀ b, ∀ q, pick n P b = some q → q < b
  | 0, q, h => by cases h
  | b + 1, q, h => by
    have key : ∀ c : Bool, (if c = true then some b else pick n P b) = some q → q < b + 1 := fun c hc => by
      cases c
      · exact Nat.lt_succ_of_lt (pick_lt n P b q (by simpa using hc))
      · simp at hc; omega
    exact key _ h
theorem best_lt {n b : Nat} {P : Nat → Bool} (hb : 0 < b) : best n P b < b := by
  unfold best
  cases e : pick n P b
  · exact hb
  · exact pick_lt n P b _ e
theorem best_le {n b : Nat} {P : Nat → Bool} : best n P b ≤ b := by
  unfold best
  cases e : pick n P b
  · exact Nat.zero_le _
  · exact Nat.le_of_lt (pick_lt n P b _ e)

end Go.Proofs.YtlepgkmpbhlajaaDoor.rod
