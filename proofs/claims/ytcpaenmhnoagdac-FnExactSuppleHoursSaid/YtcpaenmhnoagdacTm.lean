/-
  The program's first hour at which there are too many bundles.
-/
import Derived.Test.YtcpaenmhnoagdacLev
import Derived.Test.YtcpaenmhnoagdacFtm
import Derived.Shelf.Abstract
namespace Go.Proofs.Ytcpaenmhnoagdac.ag
open Go.ChangeShapes Go.WideShapes Go.ChangeAt Go.RowKit Go.Proofs.Ytcpaenmhnoagdac.mem Go.Proofs.Ytcpaenmhnoagdac.hp Go.Proofs.Ytcpaenmhnoagdac.rod Go.Proofs.Ytcpaenmhnoagdac.rf
set_option linter.unusedVariables false
attribute [local go_sem] Oper.semAt_some wide_fn wide_depth wideR_fn wideR_depth

theorem cell_put {w : World} {b o : Nat} {v : Option Value} (D : Nat) (x : Obj) (hne : b ≠ D) (h : w.cell? ⟨b, o, none⟩ = v) : (w.putObj D x).cell? ⟨b, o, none⟩ = v := by
  rw [← h]
  unfold World.cell?
  rw [World.putObj_heap_other (show b ≠ D from hne)]

set_option maxHeartbeats 8000000 in
set_option maxRecDepth 100000 in
theorem tooMany_i (A : Option Addr) (n c : Nat) (X : Nat → Int) (room v code : Int) (w : World) (hn : n ≤ maxLen) (hr : Sl w A n 4 X) (hv : listT n X = true) (h1 : inB room 0 100 = true) (hft : FT X n room v code) :
    Calls Try.prog 38 #[.slice A n c, .int .i64 room] w fun e w' => e = .returned (.tuple #[.int .i64 v, .int .i64 code]) ∧ Below w.heap.size w w' := by
  have hn10 := (listT_of hv).1
  have hva := (listT_of hv).2
  have HR := Lib.hid hr
  clear hr
  refine (callsIn_wide (n := 6)).1 (callsIn_of_wp_marks Try.func38 rfl trivial ?_ rfl)
  simp only [Try.ntmps38, List.size_toArray, List.length_cons, List.length_nil, Nat.reduceAdd, Nat.reduceSub, Array.replicate_succ, Array.replicate_zero, List.push_toArray, List.append_toArray, List.nil_append, List.cons_append]
  gi_wp2_with (first
    | (gi_at_call 31; refine ((callsIn_wide (n := _)).2 (validT_i A n c X _ hn (HR.out.below (w' := _) (K := w.heap.size) (by go_grown) (Nat.le_refl _)))).mono ?_; rintro e w1 ⟨rfl, b1⟩; have z1 := b1.size; obtain ⟨hc1, hf1⟩ := bcell b1)
    | (gi_at_call 71; refine ((callsIn_wide (n := _)).2 (in_i _ _ _ _)).mono ?_; rintro e w' ⟨rfl, rfl⟩)
    | (gi_at_call 94; refine ((callsIn_wide (n := _)).2 (levels0_c A n c _)).mono ?_; rintro e w2 ⟨rfl, rfl⟩))
  obtain ⟨WL, hWL⟩ : ∃ W, W = ((w1.alloc (Obj.cells #[Value.slice A n c] 49)).alloc (Obj.cells #[Value.func (Fn.func 90) #[] #[]] 106)) := ⟨_, rfl⟩
  rw [← hWL]
  have zL : WL.heap.size = w1.heap.size + 2 := by rw [hWL]; simp
  simp only [World.size_alloc] at z1
  have bL1 : Below w1.heap.size w1 WL := by rw [hWL]; exact Below.alloc (Below.alloc (Below.refl _ _) (Nat.le_refl _) _) (by simp) _
  have B0 : Boxed WL w.heap.size 2 (.int .i64 room) := (bL1.block _ (by omega)).trans ((b1.block _ (by simp; omega)).trans (((Boxed.new w _ _).alloc _).alloc _))
  have B1 : Boxed WL (w.heap.size + 1) 2 (.int .i64 0) := (bL1.block _ (by omega)).trans ((b1.block _ (by simp)).trans (by have := (Boxed.new (w.alloc (.cells #[.int .i64 room] 2)) 2 (.int .i64 0)).alloc (.cells #[.int .i64 0] 2); rw [World.size_alloc] at this; exact this))
  have B2 : Boxed WL (w.heap.size + 1 + 1) 2 (.int .i64 0) := (bL1.block _ (by omega)).trans ((b1.block _ (by simp)).trans (by have := Boxed.new ((w.alloc (.cells #[.int .i64 room] 2)).alloc (.cells #[.int .i64 0] 2)) 2 (.int .i64 0); rw [World.size_alloc, World.size_alloc] at this; exact this))
  have gL : Below w.heap.size w WL := Below.trans (Below.trans (by go_grown) (b1.mono (by simp; omega))) (bL1.mono (by omega))
  have e1 : WL.cell? ⟨w1.heap.size, 0, none⟩ = some (.slice A n c) := by rw [hWL]; go_simp
  have e2 : WL.cell? ⟨w1.heap.size + 1, 0, none⟩ = some (.func (.func 90) #[] #[]) := by rw [hWL]; go_simp
  have HSL : Sl WL A n 4 X := HR.out.below gL (Nat.le_refl _)
  clear b1 hc1 hf1 bL1 hWL
  refine range_law rfl (by omega) (gf := 117) (lb := #[.pointer (some ⟨w1.heap.size, 0, none⟩), .pointer (some ⟨w1.heap.size + 1, 0, none⟩)]) rfl trivial (Go.Proofs.enters_of Try.func117 (by kernel_rfl) rfl)
    (lev0_it A n c _ _ _ X WL hn10 HSL hva (by omega) (by omega) e1 e2) (fun _ => rfl)
    (fun s W => (Boxed W w.heap.size 2 (.int .i64 room) ∧ Boxed W (w.heap.size + 1) 2 (.int .i64 0) ∧ Boxed W (w.heap.size + 1 + 1) 2 (.int .i64 0)) ∧ Below w.heap.size w W ∧ ∀ h, 0 ≤ h → h < s → rod.load 0 X n h ≤ room)
    (fun c W => c = .ret ∧ ∃ u, Boxed W (w.heap.size + 1) 2 (.int .i64 u) ∧ Boxed W (w.heap.size + 1 + 1) 2 (.int .i64 0) ∧ Below w.heap.size w W ∧ FT X n room u 0)
    (fun s A B hb h => ⟨⟨(hb.block _ (by omega)).trans h.1.1, (hb.block _ (by omega)).trans h.1.2.1, (hb.block _ (by omega)).trans h.1.2.2⟩, h.2.1.trans (hb.mono (by omega)), h.2.2⟩)
    (fun c A B hb h => by
      obtain ⟨rfl, u, h1, h2, h3, h4⟩ := h
      exact ⟨rfl, u, (hb.block _ (by omega)).trans h1, (hb.block _ (by omega)).trans h2, h3.trans (hb.mono (by omega)), h4⟩)
    ⟨⟨B0, B1, B2⟩, gL, fun h h0 h1 => by omega⟩
    (fun x a' W => ∃ bx, WL.heap.size + 2 ≤ bx ∧ Lv W bx x.1 x.2.1 x.2.2 ∧ a' = { tmps := #[Value.slice A n c, Value.int IntKind.i64 room, undef, Value.pointer (some ⟨w.heap.size, 0, none⟩),
          Value.pointer (some ⟨w.heap.size + 1, 0, none⟩),
          Value.pointer (some ⟨w.heap.size + 1 + 1, 0, none⟩), .pointer (some ⟨bx, 0, none⟩), Value.slice A n c, Value.bool true,
          Value.bool false, Value.int IntKind.i64 room, Value.bool true, Value.bool false, Value.slice A n c,
          Value.func (Fn.func 117) #[] #[Value.pointer (some ⟨w1.heap.size, 0, none⟩), Value.pointer (some ⟨w1.heap.size + 1, 0, none⟩)],
          .agg #[.int .i64 x.1, .int .i64 x.2.1, .int .i64 x.2.2], undef, undef, undef, undef, undef, undef], defers := [] })
    (fun x a' A B hf h => by
      obtain ⟨bx, h1, h2, h3⟩ := h
      exact ⟨bx, h1, h2.frm hf h1, h3⟩) ?assign ?body ?done ?stop
  case assign =>
    intro l s s' x W K hz hR hI hK
    simp only [lvlV]
    gi_wp2
    have zz : WL.heap.size + 2 ≤ W.heap.size := hz
    refine hK _ _ ((Frm.refl _ _).alloc _) ⟨⟨hI.1.1.alloc _, hI.1.2.1.alloc _, hI.1.2.2.alloc _⟩, hI.2.1.alloc (by omega) _, hI.2.2⟩ ⟨W.heap.size, hz, World.alloc_heap_new _ _, ?_⟩
    rfl
  case body =>
    rintro l s s' ⟨T, E, c0⟩ a' W hz hR hI ⟨bx, hbx, hlv, rfl⟩
    obtain ⟨rfl, rfl, t0, hlt, hE, hld⟩ := hR
    obtain ⟨⟨i0, i1, i2⟩, hB, hle⟩ := hI
    simp only at hlt hld hlv t0 hle
    have q0 := hlv.c0
    have q2 := hlv.c2
    have r0 := i0.cell
    have r1 := i1.cell
    have r1f := i1.frozen
    have r2 := i2.cell
    have r2f := i2.frozen
    have zB := hB.size
    by_cases hc : room < c0
    · gi_wp2
      exact ⟨((Frm.refl _ _).set _ _ (by omega)).set _ _ (by omega), rfl, T, (i1.set _).other (by omega) _, (i2.other (by omega) _).set _, (hB.setCell (p := ⟨w.heap.size + 1, 0, none⟩) (by simp) _).setCell (p := ⟨w.heap.size + 1 + 1, 0, none⟩) (by simp; omega) _, .inl ⟨rfl, t0, by rw [hld T (Int.le_refl _) hlt]; exact hc, hle⟩⟩
    · gi_wp2
      refine ⟨Frm.refl _ _, ⟨i0, i1, i2⟩, hB, fun h h0 h1 => ?_⟩
      by_cases hT : h < T
      · exact hle h h0 hT
      · rw [hld h (by omega) h1]; omega
  case done =>
    rintro D s W hD ⟨s0, s1, hz⟩ ⟨⟨i0, i1, i2⟩, hB, hle⟩ hK
    have r1 := i1.cell
    have r1f := i1.frozen
    have r2 := i2.cell
    have r2f := i2.frozen
    have ft0 : FT X n room 0 3 := .inr ⟨rfl, rfl, fun h h0 => by
      by_cases hT : h < s
      · exact hle h h0 hT
      · have := (inB_of h1).1
        rw [hz h (by omega)]
        exact this⟩
    obtain ⟨rfl, rfl⟩ := hft.uniq ft0
    gi_wp2
    have hK2 := ((KeepsOthers.setCell W ⟨w.heap.size + 1, 0, none⟩ (.int .i64 0)).trans (KeepsOthers.setCell _ ⟨w.heap.size + 1 + 1, 0, none⟩ (.int .i64 3))).same D _ hK rfl
    refine ⟨by simp, .inl ⟨_, _, rfl, run_takeDeferred hK2, ?_⟩⟩
    have j1 := cell_put D (.deferred none) (by omega) ((i1.set (.int .i64 0)).other (B' := w.heap.size + 1 + 1) (by omega) (.int .i64 3)).cell
    have j2 := cell_put D (.deferred none) (by omega) ((i2.other (B' := w.heap.size + 1) (by omega) (.int .i64 0)).set (.int .i64 3)).cell
    refine ⟨.tuple #[.int .i64 0, .int .i64 3], by simp [results, Try.f38, go_sem, j1, j2], rfl, Below.trans ((hB.setCell (p := ⟨w.heap.size + 1, 0, none⟩) (by simp) _).setCell (p := ⟨w.heap.size + 1 + 1, 0, none⟩) (by simp; omega) _) (put_below _ (by omega) hK2)⟩
  case stop =>
    rintro D c W hD ⟨rfl, u, i1, i2, hB, hu⟩ hK
    obtain ⟨rfl, rfl⟩ := hft.uniq hu
    gi_wp2
    refine ⟨by simp, .inl ⟨_, _, rfl, run_takeDeferred hK, ?_⟩⟩
    have j1 := cell_put D (.deferred none) (by omega) i1.cell
    have j2 := cell_put D (.deferred none) (by omega) i2.cell
    refine ⟨.tuple #[.int .i64 v, .int .i64 0], by simp [results, Try.f38, go_sem, j1, j2], rfl, Below.trans hB (put_below _ (by omega) hK)⟩
end Go.Proofs.Ytcpaenmhnoagdac.ag
