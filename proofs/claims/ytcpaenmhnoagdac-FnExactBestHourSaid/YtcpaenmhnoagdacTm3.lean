/-
  The program's hour with the most supple bundles.
-/
import Derived.Test.YtcpaenmhnoagdacTm
namespace Go.Proofs.Ytcpaenmhnoagdac.ag
open Go.ChangeShapes Go.WideShapes Go.ChangeAt Go.RowKit Go.Proofs.Ytcpaenmhnoagdac.mem Go.Proofs.Ytcpaenmhnoagdac.hp Go.Proofs.Ytcpaenmhnoagdac.rod Go.Proofs.Ytcpaenmhnoagdac.rf
set_option linter.unusedVariables false
attribute [local go_sem] Oper.semAt_some wide_fn wide_depth wideR_fn wideR_depth

/-- of the hours before s, v is the first one with the most bundles, t; or there were none (t = 0) -/
def BHt (X : Nat → Int) (n : Nat) (s v t : Int) : Prop :=
  (t = 0 ∧ v = 0 ∧ ∀ h, 0 ≤ h → h < s → rod.load 1 X n h ≤ 0) ∨ (0 ≤ v ∧ 0 < t ∧ rod.load 1 X n v = t ∧ (∀ h, 0 ≤ h → h < s → rod.load 1 X n h ≤ t) ∧ ∀ h, 0 ≤ h → h < v → rod.load 1 X n h < t)
theorem BHt.more {X : Nat → Int} {n : Nat} {s v t E c : Int} (h : BHt X n s v t) (h0 : 0 ≤ s) (hlt : s < E) (hl : ∀ x, s ≤ x → x < E → rod.load 1 X n x = c) (hc : t < c) : BHt X n E s c := by
  refine .inr ⟨h0, ?_, hl s (Int.le_refl _) hlt, fun x x0 x1 => ?_, fun x x0 x1 => ?_⟩
  · rcases h with ⟨rfl, _⟩ | ⟨_, h, _⟩ <;> omega
  · by_cases q : x < s
    · rcases h with ⟨rfl, _, h⟩ | ⟨_, _, _, h, _⟩
      · have := h x x0 q; omega
      · have := h x x0 q; omega
    · rw [hl x (by omega) x1]; exact Int.le_refl _
  · rcases h with ⟨rfl, _, h⟩ | ⟨_, _, _, h, _⟩
    · have := h x x0 x1; omega
    · have := h x x0 x1; omega
theorem BHt.same {X : Nat → Int} {n : Nat} {s v t E c : Int} (h : BHt X n s v t) (hl : ∀ x, s ≤ x → x < E → rod.load 1 X n x = c) (hc : ¬ t < c) : BHt X n E v t := by
  rcases h with ⟨rfl, rfl, h⟩ | ⟨a1, a2, a3, h, a5⟩
  · refine .inl ⟨rfl, rfl, fun x x0 x1 => ?_⟩
    by_cases q : x < s
    · exact h x x0 q
    · rw [hl x (by omega) x1]; omega
  · refine .inr ⟨a1, a2, a3, fun x x0 x1 => ?_, a5⟩
    by_cases q : x < s
    · exact h x x0 q
    · rw [hl x (by omega) x1]; omega
theorem BHt.done {X : Nat → Int} {n : Nat} {s v t : Int} (hv : allT X n = true) (hn : 0 < n) (h : BHt X n s v t) (hz : ∀ x, s ≤ x → rod.load 1 X n x = 0) : BH X n v t := by
  rcases h with ⟨rfl, rfl, h⟩ | ⟨a1, a2, a3, h, a5⟩
  · have l := load_at_fst (m := 1) hv hn
    have g := (fst_ge (m := 1) hv hn).1
    by_cases q : fstT 1 X 0 < s
    · have := h _ g q; omega
    · rw [hz _ (by omega)] at l; omega
  · refine ⟨a1, a2, a3, fun x x0 => ?_, a5⟩
    by_cases q : x < s
    · exact h x x0 q
    · rw [hz x (by omega)]; omega
theorem BHt.bd {X : Nat → Int} {n : Nat} {s v t : Int} (hv : allT X n = true) (h : BHt X n s v t) : 0 ≤ t ∧ t ≤ 100 * n := by
  rcases h with ⟨rfl, rfl, h⟩ | ⟨a1, a2, a3, h, a5⟩
  · omega
  · rw [← a3]; exact load_bd hv

set_option maxHeartbeats 8000000 in
set_option maxRecDepth 100000 in
theorem best_i (A : Option Addr) (n c : Nat) (X : Nat → Int) (v s : Int) (w : World) (hn : n ≤ maxLen) (hr : Sl w A n 4 X) (hv : listT n X = true) (hn0 : 0 < n) (hbh : BH X n v s) :
    Calls Try.prog 46 #[.slice A n c] w fun e w' => e = .returned (.tuple #[.int .i64 v, .int .i64 s, .int .i64 0]) ∧ Below w.heap.size w w' := by
  have hn10 := (listT_of hv).1
  have hva := (listT_of hv).2
  have HR := Lib.hid hr
  have hnz : ¬ (n : Int) = 0 := by omega
  clear hr
  refine (callsIn_wide (n := 6)).1 (callsIn_of_wp_marks Try.func46 rfl trivial ?_ rfl)
  simp only [Try.ntmps46, List.size_toArray, List.length_cons, List.length_nil, Nat.reduceAdd, Nat.reduceSub, Array.replicate_succ, Array.replicate_zero, List.push_toArray, List.append_toArray, List.nil_append, List.cons_append]
  gi_wp2_with (first
    | (gi_at_call 31; refine ((callsIn_wide (n := _)).2 (validT_i A n c X _ hn HR.out)).mono ?_; rintro e w1 ⟨rfl, b1⟩; have z1 := b1.size)
    | (gi_at_call 94; refine ((callsIn_wide (n := _)).2 (levels1_c A n c _)).mono ?_; rintro e w2 ⟨rfl, rfl⟩))
  obtain ⟨WL, hWL⟩ : ∃ W, W = (((w1.alloc (Obj.cells #[.int .i64 0, .int .i64 0, .int .i64 0] 112)).alloc (Obj.cells #[Value.slice A n c] 49)).alloc (Obj.cells #[Value.func (Fn.func 92) #[] #[]] 106)) := ⟨_, rfl⟩
  rw [← hWL]
  have zL : WL.heap.size = w1.heap.size + 3 := by rw [hWL]; simp
  have bL1 : Below w1.heap.size w1 WL := by rw [hWL]; exact Below.alloc (Below.alloc (Below.alloc (Below.refl _ _) (Nat.le_refl _) _) (by simp) _) (by simp; omega) _
  have B1 : Lv WL w1.heap.size 0 0 0 := by rw [hWL]; exact Lv.alloc _ (Lv.alloc _ (World.alloc_heap_new w1 _))
  have gL : Below w.heap.size w WL := Below.trans b1 (bL1.mono (by omega))
  have e1 : WL.cell? ⟨w1.heap.size + 1, 0, none⟩ = some (.slice A n c) := by rw [hWL]; go_simp
  have e2 : WL.cell? ⟨w1.heap.size + 1 + 1, 0, none⟩ = some (.func (.func 92) #[] #[]) := by rw [hWL]; go_simp
  have HSL : Sl WL A n 4 X := HR.out.below gL (Nat.le_refl _)
  clear b1 bL1 hWL
  refine range_law rfl (by omega) (gf := 117) (lb := #[.pointer (some ⟨w1.heap.size + 1, 0, none⟩), .pointer (some ⟨w1.heap.size + 1 + 1, 0, none⟩)]) rfl trivial (Go.Proofs.enters_of Try.func117 (by kernel_rfl) rfl)
    (lev1_it A n c _ _ _ X WL hn10 HSL hva (by omega) (by omega) e1 e2) (fun _ => rfl)
    (fun s W => ∃ v e t, Lv W w1.heap.size v e t ∧ Below w.heap.size w W ∧ 0 ≤ s ∧ BHt X n s v t)
    (fun c W => False)
    (fun s A B hb h => by
      obtain ⟨v, e, t, h1, h2, h3⟩ := h
      exact ⟨v, e, t, (hb.block _ (by omega)).trans h1, h2.trans (hb.mono (by omega)), h3⟩)
    (fun c A B hb h => h)
    ⟨0, 0, 0, B1, gL, by omega, .inl ⟨rfl, rfl, fun h h0 h1 => by omega⟩⟩
    (fun x a' W => ∃ bx, WL.heap.size + 2 ≤ bx ∧ Lv W bx x.1 x.2.1 x.2.2 ∧ a' = { tmps := #[Value.slice A n c, undef,
          Value.int .i64 0, Value.int .i64 0, Value.int .i64 0, Value.pointer (some ⟨w1.heap.size, 0, none⟩), .pointer (some ⟨bx, 0, none⟩), Value.slice A n c, Value.bool true,
          Value.bool false, Value.slice A n c, .int .i64 n, Value.bool false, Value.slice A n c,
          Value.func (Fn.func 117) #[] #[Value.pointer (some ⟨w1.heap.size + 1, 0, none⟩), Value.pointer (some ⟨w1.heap.size + 1 + 1, 0, none⟩)],
          .agg #[.int .i64 x.1, .int .i64 x.2.1, .int .i64 x.2.2], undef, undef, undef, undef, undef, undef, undef, undef, undef, undef], defers := [] })
    (fun x a' A B hf h => by
      obtain ⟨bx, h1, h2, h3⟩ := h
      exact ⟨bx, h1, h2.frm hf h1, h3⟩) ?assign ?body ?done ?stop
  case assign =>
    intro l s s' x W K hz hR hI hK
    simp only [lvlV]
    gi_wp2
    have zz : WL.heap.size + 2 ≤ W.heap.size := hz
    obtain ⟨v, e, t, h1, h2, h3⟩ := hI
    refine hK _ _ ((Frm.refl _ _).alloc _) ⟨v, e, t, h1.alloc _, h2.alloc (by omega) _, h3⟩ ⟨W.heap.size, hz, World.alloc_heap_new _ _, ?_⟩
    rfl
  case body =>
    rintro l s s' ⟨T, E, c0⟩ a' W hz hR hI ⟨bx, hbx, hlv, rfl⟩
    obtain ⟨rfl, rfl, t0, hlt, hE, hld⟩ := hR
    obtain ⟨v, e, t, i1, hB, hs0, hbt⟩ := hI
    simp only at hlt hld hlv t0 hE hs0 hbt
    have q0 := hlv.c0
    have q1 := hlv.c1
    have q2 := hlv.c2
    have r0 := i1.c0
    have r1 := i1.c1
    have r2 := i1.c2
    have rf := i1.fr
    have rl := i1.lt
    have zB := hB.size
    have bb := hbt.bd hva
    by_cases hc : t < c0
    · gi_wp2
      refine ⟨(((Frm.refl _ _).set _ _ (by omega)).set _ _ (by omega)).set _ _ (by omega), T, E, c0, (((i1.s0 _).s1 _).s2 _), ((hB.setCell (p := ⟨w1.heap.size, 0, none⟩) (by simp; omega) _).setCell (p := ⟨w1.heap.size, 1, none⟩) (by simp; omega) _).setCell (p := ⟨w1.heap.size, 2, none⟩) (by simp; omega) _, ?_, hbt.more t0 hlt hld hc⟩
      show (0 : Int) ≤ E
      omega
    · gi_wp2
      refine ⟨Frm.refl _ _, v, e, t, i1, hB, ?_, hbt.same hld (by omega)⟩
      show (0 : Int) ≤ E
      omega
  case done =>
    rintro D s W hD ⟨s0, s1, hz⟩ ⟨v', e, t, i1, hB, _, hbt⟩ hK
    obtain ⟨rfl, rfl⟩ := hbh.uniq (hbt.done hva hn0 hz)
    have r0 := i1.c0
    have r2 := i1.c2
    clear hbh hbt
    gi_wp2
    refine wpIn_wide.2 ?_
    go_region
    gi_wp2
    have hK2 : W.drew.heap[D]? = some (.deferred (some [])) := hK
    refine ⟨by simp, .inl ⟨_, _, rfl, run_takeDeferred hK2, ?_⟩⟩
    exact ⟨_, results_tmp3 rfl _ _ _, rfl, Below.trans (drewN_below hB 1) (put_below (W := W.drew) _ (by omega) hK2)⟩
  case stop =>
    rintro D c W hD hx hK
    exact hx.elim

set_option maxHeartbeats 2000000 in
theorem best_i_no (A : Option Addr) (n c : Nat) (X : Nat → Int) (code : Int) (w : World) (hn : n ≤ maxLen) (hr : Sl w A n 4 X)
    (hv : listT n X = false ∧ code = 1 ∨ n = 0 ∧ code = 3) :
    Calls Try.prog 46 #[.slice A n c] w fun e w' => e = .returned (.tuple #[.int .i64 0, .int .i64 0, .int .i64 code]) ∧ Below w.heap.size w w' := by
  have HR := Lib.hid hr
  clear hr
  rcases hv with ⟨hv, rfl⟩ | ⟨rfl, rfl⟩
  · go_enter Try.func46, Try.ntmps46
    go_wp2_with (go_at_call 31; refine (validT_i A n c X _ hn HR.out).mono ?_; rintro e w1 ⟨rfl, b1⟩)
    go_returns
    exact ⟨rfl, b1⟩
  · have hv : listT 0 X = true := rfl
    go_enter Try.func46, Try.ntmps46
    go_wp2_with (go_at_call 31; refine (validT_i A 0 c X _ hn HR.out).mono ?_; rintro e w1 ⟨rfl, b1⟩)
    go_returns
    exact ⟨rfl, b1⟩
end Go.Proofs.Ytcpaenmhnoagdac.ag
