/-
  The marks that a law writes over beds of the call's own, and how it finds them again.
-/
import Derived.Test.YtcpaenmhnoagdabBeds
namespace Go.Proofs.Ytcpaenmhnoagdab.rod
open Go.ChangeShapes Go.WideShapes Go.ChangeAt Go.RowKit Go.Proofs.Ytcpaenmhnoagdab.mem Go.Proofs.Ytcpaenmhnoagdab.nums
set_option linter.unusedVariables false

theorem row_narrow {w : World} {lo hi n : Nat} {A : Option Addr} {X : Nat → Int} (h : Row w lo hi A n 1 2 X) (hn : 0 < n) : ∃ g, A = some ⟨g, 0, none⟩ ∧ lo ≤ g ∧ g < hi ∧ g < w.heap.size ∧ Row w g (g + 1) A n 1 2 X := by
  obtain ⟨g, e, h1, h2, ho⟩ := h hn
  exact ⟨g, e, h1, h2, ho.lt, fun _ => ⟨g, e, Nat.le_refl _, Nat.lt_succ_self _, ho⟩⟩
theorem WroteIn.trans {w w1 w2 : World} {lo hi lo' hi' : Nat} (h : WroteIn w w1 lo hi) (h2 : WroteIn w1 w2 lo' hi') (hl : lo ≤ lo' ∧ hi' ≤ hi ∨ hi' ≤ lo') : WroteIn w w2 lo hi :=
  ⟨h2.os.trans h.os, h2.tape.trans h.tape, h2.output.trans h.output, Nat.le_trans h.size h2.size, fun k hk hd => (h2.block k (Nat.lt_of_lt_of_le hk h.size) (by omega)).trans (h.block k hk hd)⟩

/-- the marks of a bed's numbers, and of its age -/
def mkY (q : Int) (M : Nat → Nat) (j i : Nat) : Int := q + (sumM M j + j : Nat) + i
def mkG (q : Int) (M : Nat → Nat) (j : Nat) : Int := q + (sumM M j + j : Nat) + M j

set_option maxHeartbeats 4000000 in
theorem markBedS_c (A : Option Addr) (n c : Nat) (M : Nat → Nat) (Y : Nat → Nat → Int) (G : Nat → Int) (T lo hi : Nat) (q : Int) (w : World) (hT : n + sumM M n = T) (hn : T ≤ 1048576) (q0 : 0 ≤ q) (q1 : q ≤ 900000000) (hr : RowBs w lo hi A n M Y G) :
    Calls Try.prog 55 #[.slice A n c, .int .i64 q] w fun e w' => e = .returned (.int .i64 (q + T)) ∧ RowBs w' lo hi A n M (mkY q M) (mkG q M) ∧ WroteIn w w' lo hi := by
  have hnn : n ≤ 1048576 := by omega
  have HT := Lib.hid hT
  clear hT
  rcases Nat.eq_zero_or_pos n with h0 | h0
  · subst h0
    have hq : Value.int .i64 (q + T) = Value.int .i64 q := by have := HT.out; simp only [sumM] at this; congr 1; omega
    rw [hq]
    clear hq
    go_enter Try.func55, Try.ntmps55
    go_wp2_with fail
    go_loopw [5, 1] (fun s t wr => s = .int .i64 ((0 : Nat) : Int) ∧ t = .int .i64 q ∧ wr = w) (fun s _ _ => 0 - (intOf s).toNat)
    case atStart => exact ⟨rfl, rfl, rfl⟩
    case round =>
      obtain ⟨rfl, rfl, rfl⟩ := hrel
      go_wp2
      go_ret
      exact ⟨rfl, fun h => absurd h (by omega), WroteIn.refl _ _ _⟩
  obtain ⟨g, P, C, rfl, g1, g2, ho, hrows, hdis⟩ := hr h0
  have HO := Lib.hid ho
  have HR := Lib.hid hrows
  have HD := Lib.hid hdis
  clear ho hrows hdis hr
  go_enter Try.func55, Try.ntmps55
  go_wp2_with fail
  go_loopw [5, 1] (fun s t wr => ∃ (k : Nat) (z : Int), k ≤ n ∧ s = .int .i64 k ∧ t = .int .i64 z ∧ Hid (z = q + (sumM M k + k : Nat)) ∧ 0 ≤ z ∧ z ≤ 902000000 ∧ OwnV wr g 65 (n * 2) (bedV P M C (fun j => if j < k then mkG q M j else G j)) ∧ (∀ j, j < n → Row wr lo hi (P j) (M j) 1 2 (if j < k then mkY q M j else Y j)) ∧ WroteIn w wr lo hi) (fun s _ _ => n - (intOf s).toNat)
  case atStart => exact ⟨0, q, by omega, rfl, rfl, by simp [Hid, sumM], by omega, by omega, HO.out.congr (fun j _ => by simp), fun j hj => by rw [if_neg (by omega)]; exact HR.out j hj, WroteIn.refl _ _ _⟩
  case round =>
    obtain ⟨k, z, hk, rfl, rfl, HZ, z0, z1, ho, hrows, hw⟩ := hrel
    have hzz := hw.size
    have HO' := Lib.hid ho
    have HR' := Lib.hid hrows
    have HW := Lib.hid hw
    clear ho hrows hw
    by_cases hlt : k < n
    · have hlt' : (k : Int) < (n : Int) := by omega
      have hs := sumM_le (M := M) (j := k + 1) (n := n) hlt
      simp only [sumM] at hs
      have hMk : M k ≤ 1048576 := by have := HT.out; omega
      have c0 := HO'.out.cell (j := k * 2) (by omega)
      rw [bedV_0] at c0
      have hgl := HO'.out.lt
      -- the range of the k-th row
      obtain ⟨l2, h2, hrk, hin, hout, hg⟩ : ∃ l2 h2, Row wr l2 h2 (P k) (M k) 1 2 (Y k) ∧ (lo ≤ l2 ∧ h2 ≤ hi ∨ h2 ≤ l2) ∧ (∀ j, j < n → j ≠ k → 0 < M j → ∀ g', P j = some ⟨g', 0, none⟩ → ¬ (l2 ≤ g' ∧ g' < h2)) ∧ ¬ (l2 ≤ g ∧ g < h2) := by
        have hr := HR'.out k hlt
        rw [if_neg (by omega)] at hr
        rcases Nat.eq_zero_or_pos (M k) with hm | hm
        · exact ⟨0, 0, fun h => absurd h (by omega), .inr (Nat.le_refl _), fun _ _ _ _ _ _ h => absurd h.2 (by omega), fun h => absurd h.2 (by omega)⟩
        · obtain ⟨gk, e, a1, a2, a3, hnar⟩ := row_narrow hr hm
          refine ⟨gk, gk + 1, hnar, .inl ⟨a1, by omega⟩, fun j hj hne hmj g' e' h => ?_, fun h => ?_⟩
          · obtain rfl : g' = gk := by omega
            rcases Nat.lt_or_ge j k with hl | hl
            · exact HD.out j k hl hlt hmj hm (e'.trans e.symm)
            · exact HD.out k j (by omega) hj hm hmj (e.trans e'.symm)
          · obtain rfl : g = gk := by omega
            obtain ⟨g', e', _, _, ho'⟩ := hnar hm
            rw [e] at e'
            injection e' with e'
            injection e' with e'
            subst e'
            exact absurd (ownV_type HO'.out ho') (by decide)
      have HRK := Lib.hid hrk
      have HOUT := Lib.hid hout
      have HIN := Lib.hid hin
      have HG := Lib.hid hg
      clear hrk hout hin hg
      go_wp2_with fail
      refine (markInts_c (P k) (M k) (C k) l2 h2 z (Y k) _ hMk z0 (by omega) HRK.out).mono ?_
      rintro e w2 ⟨rfl, hr2, hw2⟩
      have hz2 := hw2.size
      have o2 := HO'.out.wrote hw2 HG.out
      have d1 := o2.cell (j := k * 2 + 1) (by omega)
      rw [bedV_1] at d1
      have f1 := o2.frozen (k * 2 + 1)
      have HO2 := Lib.hid o2
      have HR2 := Lib.hid hr2
      have HW2 := Lib.hid hw2
      have HS := Lib.hid hs
      clear o2 hr2 hw2 c0 hs
      go_wp2
      go_roundw
      case rel =>
        refine ⟨k + 1, z + (M k : Int) + 1, by omega, by go_num, rfl, ?_, by omega, ?_, (HO2.out.set (k * 2 + 1) (.int .i64 (z + (M k : Int)))).congr ?_, ?_, ?_⟩
        · show z + (M k : Int) + 1 = q + ((sumM M k + M k + (k + 1) : Nat) : Int)
          have := HZ.out; omega
        · have h1 := HZ.out; have h2 := HS.out; have h3 := HT.out; omega
        · intro j hj
          by_cases e1 : j = k * 2 + 1
          · subst e1; rw [if_pos rfl, bedV_1, if_pos (by omega)]
            show Value.int .i64 (z + (M k : Int)) = .int .i64 (q + (sumM M k + k : Nat) + M k)
            rw [HZ.out]
          · rw [if_neg e1]
            unfold bedV
            split
            · rfl
            · show Value.int .i64 (if j / 2 < k then mkG q M (j / 2) else G (j / 2)) = .int .i64 (if j / 2 < k + 1 then mkG q M (j / 2) else G (j / 2))
              by_cases e3 : j / 2 < k
              · rw [if_pos e3, if_pos (by omega)]
              · rw [if_neg e3, if_neg (by omega)]
        · intro j hj
          refine row_setBed ?_ HO2.out
          by_cases e : j = k
          · subst e
            rw [if_pos (by omega)]
            have h1 : Row w2 l2 h2 (P j) (M j) 1 2 (mkY q M j) := HR2.out.congr fun i _ => by
              show z + (i : Int) = q + (sumM M j + j : Nat) + i
              rw [HZ.out]
            intro hm
            obtain ⟨gk, e, a1, a2, ho⟩ := h1 hm
            obtain ⟨g', e', b1, b2, _⟩ := HR'.out j hlt hm
            rw [e] at e'
            injection e' with e'
            injection e' with e'
            subst e'
            exact ⟨gk, e, b1, b2, ho⟩
          · have hj1 := HR'.out j hj
            have h1 : Row w2 lo hi (P j) (M j) 1 2 (if j < k then mkY q M j else Y j) := by
              intro hm
              obtain ⟨gj, e2, a1, a2, ho⟩ := hj1 hm
              exact ⟨gj, e2, a1, a2, ho.of_block (HW2.out.block gj ho.lt (HOUT.out j hj e hm gj e2))⟩
            by_cases e3 : j < k
            · rw [if_pos e3] at h1; rw [if_pos (by omega)]; exact h1
            · rw [if_neg e3] at h1; rw [if_neg (by omega)]; exact h1
        · exact (WroteIn.trans HW.out HW2.out HIN.out).set g1 g2 _
      case measure => simp [intOf]; omega
    · obtain rfl : k = n := by omega
      have hq : Value.int .i64 (q + T) = Value.int .i64 z := by have h1 := HT.out; have h2 := HZ.out; congr 1; omega
      have HQ := Lib.hid hq
      clear hq
      go_wp2
      go_ret
      exact ⟨by rw [HQ.out]; rfl, fun _ => ⟨g, P, C, rfl, g1, g2, HO'.out.congr (fun j hj => by
        unfold bedV
        split
        · rfl
        · show Value.int .i64 (if j / 2 < k then mkG q M (j / 2) else G (j / 2)) = .int .i64 (mkG q M (j / 2))
          rw [if_pos (by omega)]), fun j hj => by have := HR'.out j hj; rwa [if_pos hj] at this, HD.out⟩, HW.out⟩

set_option maxHeartbeats 2000000 in
theorem heldBedS_c (A : Option Addr) (n c : Nat) (M : Nat → Nat) (T : Nat) (q : Int) (w : World) (hT : n + sumM M n = T) (hn : T ≤ 1048576) (q0 : 0 ≤ q) (q1 : q ≤ 900000000) (hr : Beds w A n M (mkY q M) (mkG q M)) :
    Calls Try.prog 58 #[.slice A n c, .int .i64 q] w fun e w' => e = .returned (.int .i64 (q + T)) ∧ Below w.heap.size w w' := by
  have hnn : n ≤ 1048576 := by omega
  have HT := Lib.hid hT
  have HB := Lib.hid hr
  clear hT hr
  go_enter Try.func58, Try.ntmps58
  go_wp2_with fail
  go_loopw [5, 1] (fun s t wr => ∃ (k : Nat) (z : Int), k ≤ n ∧ s = .int .i64 k ∧ t = .int .i64 z ∧ Hid (z = q + (sumM M k + k : Nat)) ∧ 0 ≤ z ∧ z ≤ 902000000 ∧ Below w.heap.size w wr) (fun s _ _ => n - (intOf s).toNat)
  case atStart => exact ⟨0, q, by omega, rfl, rfl, by simp [Hid, sumM], by omega, by omega, Below.refl _ _⟩
  case round =>
    obtain ⟨k, z, hk, rfl, rfl, HZ, z0, z1, hbl⟩ := hrel
    have hzz := hbl.size
    by_cases hlt : k < n
    · have hlt' : (k : Int) < (n : Int) := by omega
      have hs := sumM_le (M := M) (j := k + 1) (n := n) hlt
      simp only [sumM] at hs
      have hMk : M k ≤ 1048576 := by have := HT.out; omega
      obtain ⟨b, o, rfl, hb, hX⟩ := HB.out (by omega)
      obtain ⟨⟨P, C, p0, hp⟩, p1⟩ := hX k hlt
      have a1 : mkG q M k = z + (M k : Int) := by unfold mkG; rw [HZ.out]
      rw [a1] at p1
      have hp' : Sl w P (M k) 1 (fun j => z + j) := fun h => by
        obtain ⟨b, o, e, h1, h2⟩ := hp h
        exact ⟨b, o, e, h1, h2.congr fun j _ => by unfold mkY; rw [HZ.out]⟩
      replace p0 := (hbl.cell (p := ⟨b, o + k * 2, none⟩) hb).trans p0
      replace p1 := (hbl.cell (p := ⟨b, o + k * 2 + 1, none⟩) hb).trans p1
      have HP := Lib.hid (hp'.below hbl (Nat.le_refl _))
      have HS := Lib.hid hs
      have hlt0 : ¬ (z + (M k : Int)) < 0 := by omega
      clear hX hp hp' a1 hs
      go_wp2_with fail
      refine (heldInts_b P (M k) C z _ hMk z0 (by omega) HP.out).mono ?_
      rintro e w2 ⟨rfl, hb2⟩
      have g2 : Below w.heap.size w w2 := hbl.trans (hb2.mono (by omega))
      replace p1 := (hb2.cell (p := ⟨b, o + k * 2 + 1, none⟩) (show b < wr.heap.size by omega)).trans p1
      clear hb2 p0
      go_wp2
      go_roundw
      case rel =>
        refine ⟨k + 1, z + (M k : Int) + 1, by omega, by go_num, rfl, ?_, by omega, ?_, g2⟩
        · show z + (M k : Int) + 1 = q + ((sumM M k + M k + (k + 1) : Nat) : Int)
          have := HZ.out; omega
        · have h1 := HZ.out; have h2 := HS.out; have h3 := HT.out; omega
      case measure => simp [intOf]; omega
    · obtain rfl : k = n := by omega
      have hq : Value.int .i64 (q + T) = Value.int .i64 z := by have h1 := HT.out; have h2 := HZ.out; congr 1; omega
      have HQ := Lib.hid hq
      clear hq
      go_wp2
      go_ret
      exact ⟨by rw [HQ.out]; rfl, hbl⟩

end Go.Proofs.Ytcpaenmhnoagdab.rod
