/-
  The program's plan of batches, each put in as early as there is room.
-/
import Derived.Test.YtcpaenmhnoagdacEsW
namespace Go.Proofs.Ytcpaenmhnoagdac.ag
open Go.Proofs.Ytcpaenmhnoagdac.src Go.Proofs.Ytcpaenmhnoagdac.rod
open Go.ChangeShapes Go.WideShapes Go.ChangeAt Go.RowKit Go.Proofs.Ytcpaenmhnoagdac.mem
set_option linter.unusedVariables false

set_option maxHeartbeats 4000000 in
set_option maxRecDepth 100000 in
theorem plan_i_no (A : Option Addr) (n c : Nat) (X Z : Nat → Int) (room code : Int) (w : World) (hn : n ≤ maxLen) (hr : Sl w A n 4 X)
    (hv : listT n X = false ∧ code = 1 ∨ listT n X = true ∧ inB room 0 100 = false ∧ code = 2) :
    Calls Try.prog 40 #[.slice A n c, .int .i64 room] w fun e w' => ∃ A' c', e = .returned (.tuple #[.slice A' 0 c', .int .i64 code]) ∧ 0 ≤ c' ∧ c' ≤ maxLen ∧ Row w' w.heap.size w'.heap.size A' 0 4 64 Z ∧ Below w.heap.size w w' := by
  have HR := Lib.hid hr
  clear hr
  rcases hv with ⟨hv, rfl⟩ | ⟨hv, h1, rfl⟩
  all_goals
    go_enter Try.func40, Try.ntmps40
    go_wp2_with (first
      | (go_at_call 31; refine (validT_i A n c X _ hn (HR.out.below (w' := _) (K := w.heap.size) (by go_grown) (Nat.le_refl _))).mono ?_; rintro e w1 ⟨rfl, b1⟩; have z1 := b1.size; obtain ⟨hc1, hf1⟩ := bcell b1; simp only [World.size_alloc] at z1; have g1 : Below w.heap.size w w1 := Below.trans (by go_grown) (b1.mono (by simp)); have k0 : w1.cell? ⟨w.heap.size, 0, none⟩ = some (.int .i64 room) := (by rw [hc1 _ _ (by simp)]; go_simp))
      | (go_at_call 71; refine (in_i _ _ _ _).mono ?_; rintro e w' ⟨rfl, rfl⟩))
    go_ret2
    exact ⟨none, 0, rfl, Nat.le_refl _, by unfold maxLen; omega, Row.none_, g1⟩

set_option maxHeartbeats 4000000 in
set_option maxRecDepth 100000 in
theorem plan_i_full (A : Option Addr) (n c : Nat) (X Z : Nat → Int) (room code : Int) (w : World) (hn : n ≤ maxLen) (hr : Sl w A n 4 X) (hv : listT n X = true) (h1 : inB room 0 100 = true) (hB : ∃ k, k < n ∧ room < X (k * 4 + 3)) (hc : code = 5) :
    Calls Try.prog 40 #[.slice A n c, .int .i64 room] w fun e w' => ∃ A' c', e = .returned (.tuple #[.slice A' 0 c', .int .i64 code]) ∧ 0 ≤ c' ∧ c' ≤ maxLen ∧ Row w' w.heap.size w'.heap.size A' 0 4 64 Z ∧ Below w.heap.size w w' := by
  subst hc
  have hn10 := (listT_of hv).1
  have HR := Lib.hid hr
  have HB := Lib.hid hB
  clear hr hB
  go_enter Try.func40, Try.ntmps40
  go_wp2_with (first
    | (go_at_call 31; refine (validT_i A n c X _ hn (HR.out.below (w' := _) (K := w.heap.size) (by go_grown) (Nat.le_refl _))).mono ?_; rintro e w1 ⟨rfl, b1⟩; have z1 := b1.size; obtain ⟨hc1, hf1⟩ := bcell b1; simp only [World.size_alloc] at z1; have g1 : Below w.heap.size w w1 := Below.trans (by go_grown) (b1.mono (by simp)); have k0 : w1.cell? ⟨w.heap.size, 0, none⟩ = some (.int .i64 room) := (by rw [hc1 _ _ (by simp)]; go_simp))
    | (go_at_call 71; refine (in_i _ _ _ _).mono ?_; rintro e w' ⟨rfl, rfl⟩)
    | (go_at_call 97; refine (contains_i A n c X room _ true _ hn10 (HR.out.below g1 (Nat.le_refl _)) k0 (.inr ⟨rfl, HB.out⟩)).mono ?_; rintro e w2 ⟨rfl, b2⟩))
  go_ret2
  exact ⟨none, 0, rfl, Nat.le_refl _, by unfold maxLen; omega, Row.none_, g1.trans (b2.mono g1.size)⟩

set_option maxHeartbeats 8000000 in
set_option maxRecDepth 100000 in
theorem plan_i (A : Option Addr) (n c : Nat) (X : Nat → Int) (room : Int) (v : Nat → Int) (code : Int) (R : Nat) (w : World) (hn : n ≤ maxLen) (hr : Sl w A n 4 X) (hv : listT n X = true) (h1 : inB room 0 100 = true) (hB : ∀ k, k < n → X (k * 4 + 3) ≤ room) (hp : PlanTo X n room v code) (hR : R = if code = 0 then n else 0) :
    Calls Try.prog 40 #[.slice A n c, .int .i64 room] w fun e w' => ∃ A' c', e = .returned (.tuple #[.slice A' R c', .int .i64 code]) ∧ R ≤ c' ∧ c' ≤ maxLen ∧ Row w' w.heap.size w'.heap.size A' R 4 64 (planY X v) ∧ Below w.heap.size w w' := by
  have hn10 := (listT_of hv).1
  have hva := (listT_of hv).2
  have hr1 := (inB_of h1).2
  have HR := Lib.hid hr
  have HB := Lib.hid hB
  have HP := Lib.hid hp
  obtain ⟨i0, hi0, hz0, hz1, hz2⟩ := info_parts rod.info_batch
  clear hr hB hp
  go_enter Try.func40, Try.ntmps40
  go_wp2_with (first
    | (go_at_call 31; refine (validT_i A n c X _ hn (HR.out.below (w' := _) (K := w.heap.size) (by go_grown) (Nat.le_refl _))).mono ?_; rintro e w1 ⟨rfl, b1⟩; have z1 := b1.size; obtain ⟨hc1, hf1⟩ := bcell b1; simp only [World.size_alloc] at z1; have g1 : Below w.heap.size w w1 := Below.trans (by go_grown) (b1.mono (by simp)); have k0 : w1.cell? ⟨w.heap.size, 0, none⟩ = some (.int .i64 room) := (by rw [hc1 _ _ (by simp)]; go_simp))
    | (go_at_call 71; refine (in_i _ _ _ _).mono ?_; rintro e w' ⟨rfl, rfl⟩)
    | (go_at_call 97; refine (contains_i A n c X room _ false _ hn10 (HR.out.below g1 (Nat.le_refl _)) k0 (.inl ⟨rfl, HB.out⟩)).mono ?_; rintro e w2 ⟨rfl, b2⟩))
  have g2 := g1.trans (b2.mono g1.size)
  have y2 := b2.size
  have G2 := Lib.hid g2
  have K2 := Lib.hid ((b2.cell (p := ⟨w.heap.size, 0, none⟩) (show w.heap.size < w1.heap.size by omega)).trans k0)
  have G3 := Lib.hid (show Below (w.heap.size + 1) w2 w2 from Below.refl _ _)
  have l2 : w.heap.size < w2.heap.size := by omega
  clear b1 b2 g1 g2 k0 hc1 hf1
  go_loopw [22, 7] (fun s t wr => ∃ (i : Nat) (v' : Nat → Int), i ≤ n ∧ s = .int .i64 i ∧ Plan X v' room i ∧ wr.ownsRow (w.heap.size + 1) 64 4 t i (iC (planY X v') (i * 4)) ∧ Below w.heap.size w wr ∧ Below (w.heap.size + 1) w2 wr) (fun s _ _ => n - (intOf s).toNat)
  case atStart => exact ⟨0, fun _ => 0, by omega, rfl, fun j hj => absurd hj (by omega), ⟨rfl, .inl ⟨rfl, rfl⟩⟩, G2.out, G3.out⟩
  case round =>
    obtain ⟨i, v', hi, rfl, hpl, ho, hd, hd3⟩ := hrel
    have hz2' := hd.size
    have hz3 := hd3.size
    have HD2 := Lib.hid hd
    have HD3 := Lib.hid hd3
    have HPL := Lib.hid hpl
    have HO := Lib.hid ho
    obtain ⟨A', c', rfl, hc1, hc2, hrow⟩ := sl_of_owns ho
    have HW := Lib.hid hrow.sl
    have hrow0 := hrow
    have k0 : wr.cell? ⟨w.heap.size, 0, none⟩ = some (.int .i64 room) := (hd3.cell (p := ⟨w.heap.size, 0, none⟩) (Nat.lt_succ_self _)).trans K2.out
    clear hd hd3 hpl ho hrow
    by_cases hil : i < n
    · have hil' : (i : Int) < (n : Int) := by omega
      have hi0' : (0 : Int) ≤ (i : Int) := by omega
      obtain ⟨b, o, rfl, hb, hX⟩ := HR.out (by omega)
      have p0 := hX.below HD2.out hb (i * 4) (by omega)
      have p1 := hX.below HD2.out hb (i * 4 + 1) (by omega)
      have p2 := hX.below HD2.out hb (i * 4 + 2) (by omega)
      have p3 := hX.below HD2.out hb (i * 4 + 3) (by omega)
      simp only [← Nat.add_assoc] at p1 p2 p3
      clear hX
      obtain ⟨v1, v2, v3, v4, v5, v6, v7, v8⟩ := allT_bd hva hil
      have hq := HB.out i hil
      have hvp := (HPL.out.all (allT_le (m := i) (by omega) hva) i (Nat.le_refl _))
      obtain ⟨u, hu⟩ := ES.ex (Y := planY X v') (n := i) (S := X (i * 4)) (K := X (i * 4 + 1)) (B := X (i * 4 + 3)) (room := room) hvp hq
      have hul := hu.le hvp hq (by omega)
      have hus := hu.1
      have HST := Lib.hid (HP.out.step hil HPL.out hu)
      have HES := Lib.hid (fun W hW => es_i A' i c' (planY X v') (X (i * 4)) (X (i * 4 + 1)) (X (i * 4 + 2)) (X (i * 4 + 3)) room u W (by omega) hW hvp v1 v2 v3 v4 v7 hq hr1 hu)
      have k1 : ∀ Z, (wr.alloc Z).cell? ⟨w.heap.size, 0, none⟩ = some (.int .i64 room) := fun Z => ((Below.alloc (Below.refl wr.heap.size wr) (Nat.le_refl _) Z).cell (p := ⟨w.heap.size, 0, none⟩) (show w.heap.size < wr.heap.size by omega)).trans k0
      clear hu
      go_wp2_with fail
      refine (HES.out _ (HW.out.below (K := wr.heap.size) (by go_grown) (Nat.le_refl _))).mono ?_
      rintro e w3 ⟨rfl, hb3⟩
      have z3 := hb3.size
      simp only [World.size_alloc] at z3
      have hbx : w3.heap[wr.heap.size]? = some (.cells #[.int .i64 (X (i * 4)), .int .i64 (X (i * 4 + 1)), .int .i64 (X (i * 4 + 2)), .int .i64 (X (i * 4 + 3))] 64 (0, 0)) := (hb3.block _ (by simp)).trans (Go.Deep.blk_alloc_new _ _)
      have q0 : w3.cell? ⟨wr.heap.size, 0, none⟩ = some (.int .i64 (X (i * 4))) := by simp [World.cell?, hbx]
      have q1 : w3.cell? ⟨wr.heap.size, 1, none⟩ = some (.int .i64 (X (i * 4 + 1))) := by simp [World.cell?, hbx]
      have q2 : w3.cell? ⟨wr.heap.size, 2, none⟩ = some (.int .i64 (X (i * 4 + 2))) := by simp [World.cell?, hbx]
      have q3 : w3.cell? ⟨wr.heap.size, 3, none⟩ = some (.int .i64 (X (i * 4 + 3))) := by simp [World.cell?, hbx]
      have qf : w3.frozen? ⟨wr.heap.size, 0, none⟩ = false := by simp [World.frozen?, hbx]
      have D30 : Below wr.heap.size wr w3 := Below.trans (Below.alloc (Below.refl wr.heap.size wr) (Nat.le_refl _) _) (hb3.mono (by simp))
      have D3 : Below wr.heap.size wr (w3.setCell ⟨wr.heap.size, 0, none⟩ (.int .i64 u)) := Below.setCell (p := ⟨wr.heap.size, 0, none⟩) D30 (Nat.le_refl _) _
      have O3 := Lib.hid (owns_below' HO.out D3)
      have E3 := Lib.hid (HD2.out.trans (D3.mono hz2'))
      have F3 := Lib.hid (HD3.out.trans (D3.mono (by omega)))
      have hl1 : i + 1 ≤ maxLen := by unfold maxLen; omega
      have hl2 : (i + 1) * 32 ≤ 140737488355328 := by omega
      have hsz : w3.heap.size ≤ (w3.setCell ⟨wr.heap.size, 0, none⟩ (.int .i64 u)).heap.size := by simp
      clear hb3 hbx D3 k0
      rcases HST.out with ⟨ul, hplan⟩ | ⟨ug, rfl⟩
      · have HN := Lib.hid hplan
        clear hplan
        go_wp2_with (at_builtin; refine wpList_append_own _ rfl _ _ 49 rfl (w.heap.size + 1) 64 i0 _ 4 32 Try.underlying49 hi0 hz0 hz1 hz2 rfl (by decide) _ _ _ rfl (O3.out.alloc _) ⟨w3.heap.size, 0, none⟩ 1 1 [.int .i64 u, .int .i64 (X (i * 4 + 1)), .int .i64 (X (i * 4 + 2)), .int .i64 (X (i * 4 + 3))] rfl rfl ?c1 ?c2 hl1 hl2 ?c5 ?_)
        case c1 => intro j y hj; rcases j with _ | _ | _ | _ | j <;> simp at hj <;> subst hj <;> go_simp
        case c2 => intro y hy; simp at hy; rcases hy with rfl | rfl | rfl | rfl <;> rfl
        case c5 => simp; omega
        intro v6 w6 hown6 hgrow6 _
        have H6 := Lib.hid (show w6.ownsRow (w.heap.size + 1) 64 4 v6 (i + 1) (iC (planY X (put v' i u)) ((i + 1) * 4)) from by rw [planY_cell]; exact hown6)
        have G6 := Lib.hid (show Below w.heap.size w w6 from Below.grown (Below.alloc E3.out E3.out.size _) hgrow6 (by have := E3.out.size; simp at this ⊢; omega) (fun j hj => by have := owns_ge O3.out j hj; omega))
        have G7 := Lib.hid (show Below (w.heap.size + 1) w2 w6 from Below.grown (Below.alloc F3.out (by have := F3.out.size; omega) _) hgrow6 (by have := F3.out.size; simp at this ⊢; omega) (owns_ge O3.out))
        clear hown6 hgrow6
        go_wp2
        go_roundw
        case rel => exact ⟨i + 1, _, by omega, by go_num, HN.out, H6.out, G6.out, G7.out⟩
        case measure => simp [intOf]; omega
      · have hR0 : R = 0 := by rw [hR, if_neg (by decide)]
        clear hR
        subst hR0
        go_wp2
        go_ret2
        exact ⟨none, 0, rfl, Nat.le_refl _, by unfold maxLen; omega, Row.none_, E3.out⟩
    · obtain rfl : i = n := by omega
      obtain ⟨rfl, heq⟩ := HP.out.over HPL.out
      simp only [if_true] at hR
      subst hR
      have HRW := Lib.hid (show Row wr w.heap.size wr.heap.size A' _ 4 64 (planY X v) from (hrow0.wide (by omega) (Nat.le_refl _)).congr (fun j hj => plan_congr heq j hj))
      go_wp2
      go_ret2
      exact ⟨_, _, rfl, hc1, hc2, HRW.out, HD2.out⟩
end Go.Proofs.Ytcpaenmhnoagdac.ag
