/-
  The program's first hour with too many bundles (where it is refused), hours with enough bundles, hour with the most.
-/
import Derived.Test.YtcpaenmhnoagdacTm
namespace Go.Proofs.Ytcpaenmhnoagdac.ag
open Go.ChangeShapes Go.WideShapes Go.ChangeAt Go.RowKit Go.Proofs.Ytcpaenmhnoagdac.mem Go.Proofs.Ytcpaenmhnoagdac.hp Go.Proofs.Ytcpaenmhnoagdac.rod Go.Proofs.Ytcpaenmhnoagdac.rf
set_option linter.unusedVariables false
attribute [local go_sem] Oper.semAt_some wide_fn wide_depth wideR_fn wideR_depth

set_option maxHeartbeats 4000000 in
set_option maxRecDepth 100000 in
theorem tooMany_i_no (A : Option Addr) (n c : Nat) (X : Nat → Int) (room code : Int) (w : World) (hn : n ≤ maxLen) (hr : Sl w A n 4 X)
    (hv : listT n X = false ∧ code = 1 ∨ listT n X = true ∧ inB room 0 100 = false ∧ code = 2) :
    Calls Try.prog 38 #[.slice A n c, .int .i64 room] w fun e w' => e = .returned (.tuple #[.int .i64 0, .int .i64 code]) ∧ Below w.heap.size w w' := by
  have HR := Lib.hid hr
  clear hr
  rcases hv with ⟨hv, rfl⟩ | ⟨hv, h1, rfl⟩
  all_goals
    go_enter Try.func38, Try.ntmps38
    go_wp2_with (first
      | (go_at_call 31; refine (validT_i A n c X _ hn (HR.out.below (w' := _) (K := w.heap.size) (by go_grown) (Nat.le_refl _))).mono ?_; rintro e w1 ⟨rfl, b1⟩; have z1 := b1.size; obtain ⟨hc1, hf1⟩ := bcell b1; simp only [World.size_alloc] at z1; have g1 : Below w.heap.size w w1 := Below.trans (by go_grown) (b1.mono (by simp <;> omega)); have k1 : w1.cell? ⟨w.heap.size + 1, 0, none⟩ = some (.int .i64 0) := (by rw [hc1 _ _ (by simp <;> omega)]; go_simp); have k2 : w1.cell? ⟨w.heap.size + 1 + 1, 0, none⟩ = some (.int .i64 0) := (by rw [hc1 _ _ (by simp)]; go_simp); have k3 : w1.frozen? ⟨w.heap.size + 1, 0, none⟩ = false := (by rw [hf1 _ _ (by simp <;> omega)]; go_simp); have k4 : w1.frozen? ⟨w.heap.size + 1 + 1, 0, none⟩ = false := (by rw [hf1 _ _ (by simp)]; go_simp); have k0 : w1.cell? ⟨w.heap.size, 0, none⟩ = some (.int .i64 room) := (by rw [hc1 _ _ (by simp <;> omega)]; go_simp))
      | (go_at_call 71; refine (in_i _ _ _ _).mono ?_; rintro e w' ⟨rfl, rfl⟩))
    (first
      | exact bodyPost_ret (v := .tuple #[.int .i64 0, .int .i64 1]) (by simp [results, Try.results38, go_sem, k1, k2]) rfl ⟨rfl, (g1.setCell (p := ⟨w.heap.size + 1, 0, none⟩) (by simp) _).setCell (p := ⟨w.heap.size + 1 + 1, 0, none⟩) (by simp; omega) _⟩
      | exact bodyPost_ret (v := .tuple #[.int .i64 0, .int .i64 2]) (by simp [results, Try.results38, go_sem, k1, k2]) rfl ⟨rfl, (g1.setCell (p := ⟨w.heap.size + 1, 0, none⟩) (by simp) _).setCell (p := ⟨w.heap.size + 1 + 1, 0, none⟩) (by simp; omega) _⟩)

set_option maxHeartbeats 8000000 in
set_option maxRecDepth 100000 in
theorem hours_i (A : Option Addr) (n c : Nat) (X : Nat → Int) (b : Int) (w : World) (hn : n ≤ maxLen) (hr : Sl w A n 4 X) (hv : listT n X = true) (h1 : inB b 1 1000 = true) :
    Calls Try.prog 44 #[.slice A n c, .int .i64 b] w fun e w' => e = .returned (.tuple #[.int .i64 (hrs X n b 6001), .int .i64 0]) ∧ Below w.heap.size w w' := by
  have hn10 := (listT_of hv).1
  have hva := (listT_of hv).2
  have HR := Lib.hid hr
  clear hr
  refine (callsIn_wide (n := 6)).1 (callsIn_of_wp_marks Try.func44 rfl trivial ?_ rfl)
  simp only [Try.ntmps44, List.size_toArray, List.length_cons, List.length_nil, Nat.reduceAdd, Nat.reduceSub, Array.replicate_succ, Array.replicate_zero, List.push_toArray, List.append_toArray, List.nil_append, List.cons_append]
  gi_wp2_with (first
    | (gi_at_call 31; refine ((callsIn_wide (n := _)).2 (validT_i A n c X _ hn (HR.out.below (w' := _) (K := w.heap.size) (by first | exact Below.refl _ _ | go_grown) (Nat.le_refl _)))).mono ?_; rintro e w1 ⟨rfl, b1⟩; have z1 := b1.size; obtain ⟨hc1, hf1⟩ := bcell b1)
    | (gi_at_call 71; refine ((callsIn_wide (n := _)).2 (in_i _ _ _ _)).mono ?_; rintro e w' ⟨rfl, rfl⟩)
    | (gi_at_call 94; refine ((callsIn_wide (n := _)).2 (levels1_c A n c _)).mono ?_; rintro e w2 ⟨rfl, rfl⟩))
  obtain ⟨WL, hWL⟩ : ∃ W, W = (((w1.alloc (Obj.cells #[.int .i64 0] 2)).alloc (Obj.cells #[Value.slice A n c] 49)).alloc (Obj.cells #[Value.func (Fn.func 92) #[] #[]] 106)) := ⟨_, rfl⟩
  rw [← hWL]
  have zL : WL.heap.size = w1.heap.size + 3 := by rw [hWL]; simp
  simp only [World.size_alloc] at z1
  have bL1 : Below w1.heap.size w1 WL := by rw [hWL]; exact Below.alloc (Below.alloc (Below.alloc (Below.refl _ _) (Nat.le_refl _) _) (by simp) _) (by simp; omega) _
  have B0 : Boxed WL w.heap.size 2 (.int .i64 b) := (bL1.block _ (by omega)).trans ((b1.block _ (by simp)).trans (Boxed.new w _ _))
  have B1 : Boxed WL w1.heap.size 2 (.int .i64 0) := by rw [hWL]; exact ((Boxed.new w1 _ _).alloc _).alloc _
  have gL : Below w.heap.size w WL := Below.trans (Below.trans (by go_grown) (b1.mono (by simp))) (bL1.mono (by omega))
  have e1 : WL.cell? ⟨w1.heap.size + 1, 0, none⟩ = some (.slice A n c) := by rw [hWL]; go_simp
  have e2 : WL.cell? ⟨w1.heap.size + 1 + 1, 0, none⟩ = some (.func (.func 92) #[] #[]) := by rw [hWL]; go_simp
  have HSL : Sl WL A n 4 X := HR.out.below gL (Nat.le_refl _)
  clear b1 hc1 hf1 bL1 hWL
  refine range_law rfl (by omega) (gf := 117) (lb := #[.pointer (some ⟨w1.heap.size + 1, 0, none⟩), .pointer (some ⟨w1.heap.size + 1 + 1, 0, none⟩)]) rfl trivial (Go.Proofs.enters_of Try.func117 (by kernel_rfl) rfl)
    (lev1_it A n c _ _ _ X WL hn10 HSL hva (by omega) (by omega) e1 e2) (fun _ => rfl)
    (fun s W => (Boxed W w.heap.size 2 (.int .i64 b) ∧ Boxed W w1.heap.size 2 (.int .i64 (hrs X n b s.toNat))) ∧ Below w.heap.size w W ∧ 0 ≤ s ∧ s ≤ 6000)
    (fun c W => False)
    (fun s A B hb h => ⟨⟨(hb.block _ (by omega)).trans h.1.1, (hb.block _ (by omega)).trans h.1.2⟩, h.2.1.trans (hb.mono (by omega)), h.2.2⟩)
    (fun c A B hb h => h)
    ⟨⟨B0, B1⟩, gL, by omega, by omega⟩
    (fun x a' W => ∃ bx, WL.heap.size + 2 ≤ bx ∧ Lv W bx x.1 x.2.1 x.2.2 ∧ a' = { tmps := #[Value.slice A n c, Value.int IntKind.i64 b, undef, Value.pointer (some ⟨w.heap.size, 0, none⟩),
          Value.int .i64 0, Value.int .i64 0, Value.pointer (some ⟨w1.heap.size, 0, none⟩), .pointer (some ⟨bx, 0, none⟩), Value.slice A n c, Value.bool true,
          Value.bool false, Value.int IntKind.i64 b, Value.bool true, Value.bool false, Value.slice A n c,
          Value.func (Fn.func 117) #[] #[Value.pointer (some ⟨w1.heap.size + 1, 0, none⟩), Value.pointer (some ⟨w1.heap.size + 1 + 1, 0, none⟩)],
          .agg #[.int .i64 x.1, .int .i64 x.2.1, .int .i64 x.2.2], undef, undef, undef, undef, undef, undef, undef, undef, undef, undef, undef, undef], defers := [] })
    (fun x a' A B hf h => by
      obtain ⟨bx, h1, h2, h3⟩ := h
      exact ⟨bx, h1, h2.frm hf h1, h3⟩) ?assign ?body ?done ?stop
  case assign =>
    intro l s s' x W K hz hR hI hK
    simp only [lvlV]
    gi_wp2
    have zz : WL.heap.size + 2 ≤ W.heap.size := hz
    refine hK _ _ ((Frm.refl _ _).alloc _) ⟨⟨hI.1.1.alloc _, hI.1.2.alloc _⟩, hI.2.1.alloc (by omega) _, hI.2.2⟩ ⟨W.heap.size, hz, World.alloc_heap_new _ _, ?_⟩
    rfl
  case body =>
    rintro l s s' ⟨T, E, c0⟩ a' W hz hR hI ⟨bx, hbx, hlv, rfl⟩
    obtain ⟨rfl, rfl, t0, hlt, hE, hld⟩ := hR
    obtain ⟨⟨i0, i1⟩, hB, hs0, hs1⟩ := hI
    simp only at hlt hld hlv t0 hE i0 i1 hs0 hs1
    have q0 := hlv.c0
    have q1 := hlv.c1
    have q2 := hlv.c2
    have r0 := i0.cell
    have r1 := i1.cell
    have r1f := i1.frozen
    have zB := hB.size
    have hbd := hrs_bd (X := X) (n := n) (b := b) T.toNat
    have hadd := hrs_add (X := X) (n := n) (b := b) (c := c0) (N := T.toNat) (E - T).toNat (fun h a1 a2 => hld h (by omega) (by omega))
    rw [show T.toNat + (E - T).toNat = E.toNat by omega, show (((E - T).toNat : Nat) : Int) = E - T by omega] at hadd
    have hbt : ((T.toNat : Nat) : Int) = T := by omega
    generalize hrs X n b T.toNat = u0 at *
    by_cases hc : b ≤ c0
    · rw [if_pos hc] at hadd
      gi_wp2
      exact ⟨(Frm.refl _ _).set _ _ (by omega), ⟨i0.other (by omega) _, by show Boxed _ _ _ (.int .i64 (hrs X n b E.toNat)); rw [hadd]; exact i1.set _⟩, hB.setCell (p := ⟨w1.heap.size, 0, none⟩) (by simp; omega) _, by omega, hE⟩
    · rw [if_neg hc] at hadd
      gi_wp2
      exact ⟨Frm.refl _ _, ⟨i0, by show Boxed _ _ _ (.int .i64 (hrs X n b E.toNat)); rw [hadd, Int.add_zero]; exact i1⟩, hB, by omega, hE⟩
  case done =>
    rintro D s W hD ⟨s0, s1, hz⟩ ⟨⟨i0, i1⟩, hB, _⟩ hK
    have hadd := hrs_add (X := X) (n := n) (b := b) (c := 0) (N := s.toNat) (6001 - s.toNat) (fun h a1 a2 => hz h (by omega))
    have hb1 := (inB_of h1).1
    rw [show s.toNat + (6001 - s.toNat) = 6001 by omega, if_neg (by omega), Int.add_zero] at hadd
    have r1 := i1.cell
    gi_wp2
    refine ⟨by simp, .inl ⟨_, _, rfl, run_takeDeferred hK, ?_⟩⟩
    exact ⟨_, results_tmp2 rfl _ _ _, by rw [hadd]; rfl, Below.trans hB (put_below _ (by omega) hK)⟩
  case stop =>
    rintro D c W hD hx hK
    exact hx.elim

set_option maxHeartbeats 4000000 in
set_option maxRecDepth 100000 in
theorem hours_i_no (A : Option Addr) (n c : Nat) (X : Nat → Int) (b code : Int) (w : World) (hn : n ≤ maxLen) (hr : Sl w A n 4 X)
    (hv : listT n X = false ∧ code = 1 ∨ listT n X = true ∧ inB b 1 1000 = false ∧ code = 2) :
    Calls Try.prog 44 #[.slice A n c, .int .i64 b] w fun e w' => e = .returned (.tuple #[.int .i64 0, .int .i64 code]) ∧ Below w.heap.size w w' := by
  have HR := Lib.hid hr
  clear hr
  rcases hv with ⟨hv, rfl⟩ | ⟨hv, h1, rfl⟩
  all_goals
    go_enter Try.func44, Try.ntmps44
    go_wp2_with (first
      | (go_at_call 31; refine (validT_i A n c X _ hn (HR.out.below (w' := _) (K := w.heap.size) (by first | exact Below.refl _ _ | go_grown) (Nat.le_refl _))).mono ?_; rintro e w1 ⟨rfl, b1⟩; have z1 := b1.size; obtain ⟨hc1, hf1⟩ := bcell b1; simp only [World.size_alloc] at z1; have g1 : Below w.heap.size w w1 := Below.trans (by go_grown) (b1.mono (by simp)); have k0 : w1.cell? ⟨w.heap.size, 0, none⟩ = some (.int .i64 b) := (by rw [hc1 _ _ (by simp)]; go_simp))
      | (go_at_call 71; refine (in_i _ _ _ _).mono ?_; rintro e w' ⟨rfl, rfl⟩))
    go_ret2
    exact ⟨rfl, g1⟩

end Go.Proofs.Ytcpaenmhnoagdac.ag
