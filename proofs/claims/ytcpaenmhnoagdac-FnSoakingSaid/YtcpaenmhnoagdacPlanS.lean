/-
  The model's plan of batches, each put in as early as there is room.
-/
import Derived.Test.YtcpaenmhnoagdacTmS
import Derived.Test.YtcpaenmhnoagdacFits
import Derived.Test.YtcpaenmhnoagdacSrcBat
namespace Go.Proofs.Ytcpaenmhnoagdac.rod
open Go.Proofs.Ytcpaenmhnoagdac.src
open Go.ChangeShapes Go.WideShapes Go.ChangeAt Go.RowKit Go.Proofs.Ytcpaenmhnoagdac.mem
set_option linter.unusedVariables false

theorem planY_cell (X v : Nat → Int) (k : Nat) (u : Int) : iC (planY X (put v k u)) ((k + 1) * 4) = iC (planY X v) (k * 4) ++ [.int .i64 u, .int .i64 (X (k * 4 + 1)), .int .i64 (X (k * 4 + 2)), .int .i64 (X (k * 4 + 3))] := by
  rw [← iC_add]
  unfold iC
  refine List.map_congr_left fun j hj => ?_
  have hj := List.mem_range.1 hj
  congr 1
  unfold add4 planY
  by_cases e0 : j = k * 4
  · rw [if_pos e0, if_pos (by omega), show j / 4 = k by omega, put_i]
  rw [if_neg e0]
  by_cases e1 : j = k * 4 + 1
  · rw [if_pos e1, if_neg (by omega), e1]
  rw [if_neg e1]
  by_cases e2 : j = k * 4 + 2
  · rw [if_pos e2, if_neg (by omega), e2]
  rw [if_neg e2]
  by_cases e3 : j = k * 4 + 3
  · rw [if_pos e3, if_neg (by omega), e3]
  rw [if_neg e3]
  split
  · rw [put_o (by omega)]
  · rfl
/-- the number in a cell -/
def numAt (b : Nat) (w : World) : Int := match w.cell? ⟨b, 0, none⟩ with
  | some (.int _ t) => t
  | _ => 0
theorem numAt_of {w : World} {b : Nat} {t : Int} (h : w.cell? ⟨b, 0, none⟩ = some (.int .i64 t)) : numAt b w = t := by unfold numAt; rw [h]
theorem owns_below' {w w' : World} {B n size : Nat} {E : TypeId} {v : Value} {xs : List Value} (h : w.ownsRow B E size v n xs) (hb : Below w.heap.size w w') : w'.ownsRow B E size v n xs := by
  rcases h with ⟨hl, ⟨rfl, h0⟩ | ⟨g, cap, cur, rfl, hB, hh, hrest⟩⟩
  · exact ⟨hl, .inl ⟨rfl, h0⟩⟩
  · exact ⟨hl, .inr ⟨g, cap, cur, rfl, hB, (hb.block g (Array.getElem?_eq_some_iff.1 hh).1).trans hh, hrest⟩⟩

set_option maxHeartbeats 8000000 in
set_option maxRecDepth 100000 in
theorem plan_s (A : Option Addr) (n c : Nat) (X : Nat → Int) (room : Int) (v : Nat → Int) (code : Int) (R : Nat) (w : World) (hn : n ≤ maxLen) (hr : Sl w A n 4 X) (hv : listT n X = true) (h1 : inB room 0 100 = true) (hB : ∀ k, k < n → X (k * 4 + 3) ≤ room) (hp : PlanTo X n room v code) (hR : R = if code = 0 then n else 0) :
    Calls Try.prog 39 #[.slice A n c, .int .i64 room] w fun e w' => ∃ A' c', e = .returned (.tuple #[.slice A' R c', .int .i64 code]) ∧ R ≤ c' ∧ c' ≤ maxLen ∧ Row w' w.heap.size w'.heap.size A' R 4 64 (planY X v) ∧ Below w.heap.size w w' := by
  have hn10 := (listT_of hv).1
  have hva := (listT_of hv).2
  have hr1 := (inB_of h1).2
  have HR := Lib.hid hr
  have HB := Lib.hid hB
  have HP := Lib.hid hp
  obtain ⟨i0, hi0, hz0, hz1, hz2⟩ := info_parts info_batch
  clear hr hB hp
  go_enter Try.func39, Try.ntmps39
  go_wp2_with (go_at_call 93; refine (room_s A n c X room 0 _ hn HR.out (.inr (.inr ⟨hv, h1, rfl⟩))).mono ?_; rintro e w1 ⟨rfl, b1⟩)
  have B1 := Lib.hid b1
  clear b1
  go_loopw [7] (fun s wr => ∃ (k : Nat), k ≤ n ∧ s = .int .i64 k ∧ Below w.heap.size w wr) (fun s _ => n - (intOf s).toNat)
  case atStart => exact ⟨0, by omega, rfl, B1.out⟩
  case round =>
    obtain ⟨k, hk, rfl, hd⟩ := hrel
    have hzz := hd.size
    have HD := Lib.hid hd
    clear hd
    by_cases hlt : k < n
    · have hlt' : (k : Int) < (n : Int) := by omega
      have hk0 : (0 : Int) ≤ (k : Int) := by omega
      obtain ⟨b, o, rfl, hb, hX⟩ := HR.out (by omega)
      have p3 := hX.below HD.out hb (k * 4 + 3) (by omega)
      simp only [← Nat.add_assoc] at p3
      clear hX
      obtain ⟨v1, v2, v3, v4, v5, v6, v7, v8⟩ := allT_bd hva hlt
      have hq := HB.out k hlt
      go_wp2
      go_roundw
      case rel => exact ⟨k + 1, by omega, by go_num, HD.out⟩
      case measure => simp [intOf]; omega
    · obtain rfl : k = n := by omega
      clear B1
      go_wp2_with fail
      go_loopw [9, 8] (fun s t wr => ∃ (i : Nat) (v' : Nat → Int), i ≤ k ∧ s = .int .i64 i ∧ Plan X v' room i ∧ wr.ownsRow w.heap.size 64 4 t i (iC (planY X v') (i * 4)) ∧ Below w.heap.size w wr) (fun s _ _ => k - (intOf s).toNat)
      case atStart => exact ⟨0, fun _ => 0, by omega, rfl, fun j hj => absurd hj (by omega), owns_0 wr 64 w.heap.size _ hzz, Below.alloc HD.out hzz _⟩
      case round =>
        obtain ⟨i, v', hi, rfl, hpl, ho, hd⟩ := hrel
        have hz2' := hd.size
        have HD2 := Lib.hid hd
        have HPL := Lib.hid hpl
        have HO := Lib.hid ho
        obtain ⟨A', c', rfl, hc1, hc2, hrow⟩ := sl_of_owns ho
        have HW := Lib.hid hrow.sl
        have hrow0 := hrow
        clear hd hpl ho hrow
        by_cases hil : i < k
        · have hil' : (i : Int) < (k : Int) := by omega
          have hi0' : (0 : Int) ≤ (i : Int) := by omega
          obtain ⟨b, o, rfl, hb, hX⟩ := HR.out (by omega)
          have p0 := hX.below HD2.out hb (i * 4) (by omega)
          have p1 := hX.below HD2.out hb (i * 4 + 1) (by omega)
          have p2 := hX.below HD2.out hb (i * 4 + 2) (by omega)
          have p3 := hX.below HD2.out hb (i * 4 + 3) (by omega)
          simp only [← Nat.add_assoc] at p1 p2 p3
          clear hX
          obtain ⟨v1, v2, v3, v4, v5, v6, v7, v8⟩ := allT_bd hva hil
          have hq := HB.out i hil
          have hvp := (HPL.out.all (allT_le (m := i) (by omega) hva) i (Nat.le_refl _))
          obtain ⟨u, hu⟩ := ES.ex (Y := planY X v') (n := i) (S := X (i * 4)) (K := X (i * 4 + 1)) (B := X (i * 4 + 3)) (room := room) hvp hq
          have hul := hu.le hvp hq (by omega)
          have hus := hu.1
          have HST := Lib.hid (HP.out.step hil HPL.out hu)
          have HU := Lib.hid hu
          clear hu
          obtain ⟨W2, hW2⟩ : ∃ W2, W2 = wr := ⟨_, rfl⟩
          subst hW2
          go_wp2_with fail
          go_loopw [] (fun wi => ∃ t : Int, X (i * 4) ≤ t ∧ t ≤ u ∧ wi.heap[W2.heap.size]? = some (.cells #[.int .i64 t, .int .i64 (X (i * 4 + 1)), .int .i64 (X (i * 4 + 2)), .int .i64 (X (i * 4 + 3))] 64 (0, 0)) ∧ Below W2.heap.size W2 wi) (fun wi => (u - numAt W2.heap.size wi).toNat)
          case atStart => exact ⟨_, Int.le_refl _, hus, Go.Deep.blk_alloc_new _ _, Below.alloc (Below.refl _ _) (Nat.le_refl _) _⟩
          case round =>
            obtain ⟨t, ht0, ht1, hbx, hd3⟩ := hrel
            have q0 : wr.cell? ⟨W2.heap.size, 0, none⟩ = some (.int .i64 t) := by simp [World.cell?, hbx]
            have q1 : wr.cell? ⟨W2.heap.size, 1, none⟩ = some (.int .i64 (X (i * 4 + 1))) := by simp [World.cell?, hbx]
            have q2 : wr.cell? ⟨W2.heap.size, 2, none⟩ = some (.int .i64 (X (i * 4 + 2))) := by simp [World.cell?, hbx]
            have q3 : wr.cell? ⟨W2.heap.size, 3, none⟩ = some (.int .i64 (X (i * 4 + 3))) := by simp [World.cell?, hbx]
            have qf : wr.frozen? ⟨W2.heap.size, 0, none⟩ = false := by simp [World.frozen?, hbx]
            have ql : W2.heap.size < wr.heap.size := (Array.getElem?_eq_some_iff.1 hbx).1
            have HBX := Lib.hid hbx
            have HD3 := Lib.hid hd3
            have HSP := Lib.hid (HW.out.below hd3 (Nat.le_refl _))
            clear hbx hd3
            by_cases htu : t < u
            · have hfit := HU.out.2.2 t ht0 htu
              go_wp2_with (go_at_call 95; refine (fits_s A' i c' (planY X v') t (X (i * 4 + 1)) (X (i * 4 + 2)) (X (i * 4 + 3)) room false _ (by omega) HSP.out hvp (by omega) (by omega) v3 v4 v7 hq hr1 (.inr ⟨rfl, hfit⟩)).mono ?_; rintro e w3 ⟨rfl, hb3⟩; have hc0 := (hb3.cell (p := ⟨W2.heap.size, 0, none⟩) ql).trans q0; have hf0 := (hb3.frozen (p := ⟨W2.heap.size, 0, none⟩) ql).trans qf; have HB3 := Lib.hid hb3; have ql3 := hb3.size; clear hb3)
              go_roundw
              case rel =>
                refine ⟨t + 1, by omega, by omega, ?_, Below.setCell (HD3.out.trans (HB3.out.mono (by omega))) (Nat.le_refl _) _⟩
                have h := (HB3.out.block _ ql).trans HBX.out
                simp [World.setCell, Array.getElem?_modify, h]
              case measure =>
                rw [numAt_of q0, numAt_of (t := t + 1) (by exact World.cell?_setCell_same' _ _ _ (by rw [hc0]; rfl))]
                omega
            · obtain rfl : t = u := by omega
              have hfit := HU.out.2.1
              have hl1 : i + 1 ≤ maxLen := by unfold maxLen; omega
              have hl2 : (i + 1) * 32 ≤ 140737488355328 := by omega
              rcases HST.out with ⟨ul, hplan⟩ | ⟨ug, rfl⟩
              · have HN := Lib.hid hplan
                clear hplan
                go_wp2_with (first
                  | (go_at_call 95; refine (fits_s A' i c' (planY X v') t (X (i * 4 + 1)) (X (i * 4 + 2)) (X (i * 4 + 3)) room true _ (by omega) HSP.out hvp (by omega) (by omega) v3 v4 v7 hq hr1 (.inl ⟨rfl, hfit⟩)).mono ?_; rintro e w3 ⟨rfl, hb3⟩; have hc0 := (hb3.cell (p := ⟨W2.heap.size, 0, none⟩) ql).trans q0; have hc1 := (hb3.cell (p := ⟨W2.heap.size, 1, none⟩) ql).trans q1; have hc2 := (hb3.cell (p := ⟨W2.heap.size, 2, none⟩) ql).trans q2; have hc3 := (hb3.cell (p := ⟨W2.heap.size, 3, none⟩) ql).trans q3; have HB3 := Lib.hid hb3; have ql3 := hb3.size; clear hb3; have O3 := Lib.hid (owns_below' HO.out (HD3.out.trans (HB3.out.mono (by omega)))); have D3 := Lib.hid (HD2.out.trans ((HD3.out.trans (HB3.out.mono (by omega))).mono hz2')))
                  | (at_builtin; refine wpList_append_own _ rfl _ _ 49 rfl w.heap.size 64 i0 _ 4 32 Try.underlying49 hi0 hz0 hz1 hz2 rfl (by decide) _ _ _ rfl (O3.out.alloc _) ⟨w3.heap.size, 0, none⟩ 1 1 [.int .i64 t, .int .i64 (X (i * 4 + 1)), .int .i64 (X (i * 4 + 2)), .int .i64 (X (i * 4 + 3))] rfl rfl ?c1 ?c2 hl1 hl2 ?c5 ?_))
                case c1 => intro j u hj; rcases j with _ | _ | _ | _ | j <;> simp at hj <;> subst hj <;> go_simp
                case c2 => intro u hu; simp at hu; rcases hu with rfl | rfl | rfl | rfl <;> rfl
                case c5 => have := D3.out.size; simp; omega
                intro v6 w6 hown6 hgrow6 _
                have H6 := Lib.hid (show w6.ownsRow w.heap.size 64 4 v6 (i + 1) (iC (planY X (put v' i t)) ((i + 1) * 4)) from by rw [planY_cell]; exact hown6)
                have G6 := Lib.hid (show Below w.heap.size w w6 from Below.grown (Below.alloc D3.out D3.out.size _) hgrow6 (by have := D3.out.size; simp; omega) (owns_ge O3.out))
                clear hown6 hgrow6
                go_wp2
                go_roundw
                case rel => exact ⟨i + 1, _, by omega, by go_num, HN.out, H6.out, G6.out⟩
                case measure => simp [intOf]; omega
              · have hR0 : R = 0 := by rw [hR, if_neg (by decide)]
                clear hR
                subst hR0
                go_wp2_with (go_at_call 95; refine (fits_s A' i c' (planY X v') t (X (i * 4 + 1)) (X (i * 4 + 2)) (X (i * 4 + 3)) room true _ (by omega) HSP.out hvp (by omega) (by omega) v3 v4 v7 hq hr1 (.inl ⟨rfl, hfit⟩)).mono ?_; rintro e w3 ⟨rfl, hb3⟩; have hc0 := (hb3.cell (p := ⟨W2.heap.size, 0, none⟩) ql).trans q0; have hc1 := (hb3.cell (p := ⟨W2.heap.size, 1, none⟩) ql).trans q1; have hc2 := (hb3.cell (p := ⟨W2.heap.size, 2, none⟩) ql).trans q2; have hc3 := (hb3.cell (p := ⟨W2.heap.size, 3, none⟩) ql).trans q3; have HB3 := Lib.hid hb3; have ql3 := hb3.size; clear hb3; have O3 := Lib.hid (owns_below' HO.out (HD3.out.trans (HB3.out.mono (by omega)))); have D3 := Lib.hid (HD2.out.trans ((HD3.out.trans (HB3.out.mono (by omega))).mono hz2')))
                go_ret2
                exact ⟨none, 0, rfl, Nat.le_refl _, by unfold maxLen; omega, Row.none_, D3.out⟩
        · obtain rfl : i = k := by omega
          obtain ⟨rfl, heq⟩ := HP.out.over HPL.out
          simp only [if_true] at hR
          subst hR
          have HRW := Lib.hid (show Row wr w.heap.size wr.heap.size A' _ 4 64 (planY X v) from hrow0.congr (fun j hj => plan_congr heq j hj))
          go_wp2
          go_ret2
          exact ⟨_, _, rfl, hc1, hc2, HRW.out, HD2.out⟩
end Go.Proofs.Ytcpaenmhnoagdac.rod
