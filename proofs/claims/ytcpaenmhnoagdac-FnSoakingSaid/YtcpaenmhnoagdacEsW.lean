/-
  The program's least hour with room for a batch.
-/
import Derived.Test.YtcpaenmhnoagdacEsI
import Derived.Scope
namespace Go.Proofs.Ytcpaenmhnoagdac.ag
open Go.Proofs.Ytcpaenmhnoagdac.src Go.Proofs.Ytcpaenmhnoagdac.rod Go.Proofs.Ytcpaenmhnoagdac.rf Go.Proofs.Ytcpaenmhnoagdac.hp
open Go.ChangeShapes Go.WideShapes Go.ChangeAt Go.RowKit Go.Proofs.Ytcpaenmhnoagdac.mem
set_option linter.unusedVariables false
attribute [local go_sem] Oper.semAt_some wide_fn wide_depth wideR_fn wideR_depth

theorem stretch0_w (S K Q B : Int) (w : World) (h0 : 0 ≤ S) (h1 : S ≤ 6000) (h2 : 1 ≤ K) (h3 : K ≤ 500) :
    Calls Try.prog 90 #[.agg #[.int .i64 S, .int .i64 K, .int .i64 Q, .int .i64 B]] w fun e w' => e = .returned (.agg #[.int .i64 S, .int .i64 (S + K), .int .i64 B]) ∧ Below w.heap.size w w' := by
  go_enter Try.func90, Try.ntmps90
  go_wp2
  go_returns
  exact ⟨rfl, by go_grown⟩
/-- a batch lies at block q -/
def Bx (w : World) (q : Nat) (S K Q B : Int) : Prop := w.heap[q]? = some (.cells #[.int .i64 S, .int .i64 K, .int .i64 Q, .int .i64 B] 64 (0, 0))
section
variable {w w' : World} {q : Nat} {S K Q B : Int}
theorem Bx.c0 (h : Bx w q S K Q B) : w.cell? ⟨q, 0, none⟩ = some (.int .i64 S) := by unfold Bx at h; simp [World.cell?, h]
theorem Bx.c1 (h : Bx w q S K Q B) : w.cell? ⟨q, 1, none⟩ = some (.int .i64 K) := by unfold Bx at h; simp [World.cell?, h]
theorem Bx.c2 (h : Bx w q S K Q B) : w.cell? ⟨q, 2, none⟩ = some (.int .i64 Q) := by unfold Bx at h; simp [World.cell?, h]
theorem Bx.c3 (h : Bx w q S K Q B) : w.cell? ⟨q, 3, none⟩ = some (.int .i64 B) := by unfold Bx at h; simp [World.cell?, h]
theorem Bx.fr (h : Bx w q S K Q B) (i : Nat) : w.frozen? ⟨q, i, none⟩ = false := by unfold Bx at h; simp [World.frozen?, h]
theorem Bx.lt (h : Bx w q S K Q B) : q < w.heap.size := (Array.getElem?_eq_some_iff.1 h).1
theorem Bx.s0 (v : Int) (h : Bx w q S K Q B) : Bx (w.setCell ⟨q, 0, none⟩ (.int .i64 v)) q v K Q B := by unfold Bx at *; simp [World.setCell, Array.getElem?_modify, h]
theorem Bx.alloc (o : Obj) (h : Bx w q S K Q B) : Bx (w.alloc o) q S K Q B := (Go.Deep.blk_alloc_lt _ _ _ h.lt).trans h
theorem Bx.below {K0 : Nat} (h : Bx w q S K Q B) (hb : Below K0 w w') (hq : q < K0) : Bx w' q S K Q B := (hb.block q hq).trans h
end
/-- the blocks that hold the marks of loops over functions -/
def Marks (lo : Nat) (Ds : List Nat) (w : World) : Prop := Ds.Nodup ∧ ∀ D, D ∈ Ds → lo ≤ D ∧ w.heap[D]? = some (.deferred (some []))
def mk (D : Nat) : Deferred := { target := .collected D, args := #[] }
theorem Marks.keep {lo : Nat} {Ds : List Nat} {w w' : World} (h : Marks lo Ds w) (hk : ∀ D, D ∈ Ds → lo ≤ D → D < w.heap.size → w.heap[D]? = some (.deferred (some [])) → w'.heap[D]? = w.heap[D]?) : Marks lo Ds w' :=
  ⟨h.1, fun D hD => ⟨(h.2 D hD).1, by rw [hk D hD (h.2 D hD).1 (Array.getElem?_eq_some_iff.1 (h.2 D hD).2).1 (h.2 D hD).2]; exact (h.2 D hD).2⟩⟩
theorem Marks.below {lo K0 : Nat} {Ds : List Nat} {w w' : World} (h : Marks lo Ds w) (hb : Below K0 w w') (hK : w.heap.size ≤ K0) : Marks lo Ds w' := h.keep fun D _ _ h2 _ => hb.block D (by omega)
theorem Marks.set {lo q i : Nat} {Ds : List Nat} {w : World} {S K Q B : Int} (v : Value) (h : Marks lo Ds w) (hb : Bx w q S K Q B) : Marks lo Ds (w.setCell ⟨q, i, none⟩ v) := h.keep fun D _ _ h2 h3 => Below.heap_setCell _ _ _ _ (fun e => by
  subst e
  unfold Bx at hb
  rw [hb] at h3
  cases h3)
theorem Marks.add {lo D : Nat} {Ds : List Nat} {w : World} (h : Marks lo Ds w) (hl : lo ≤ D) (hn : ∀ E, E ∈ Ds → E < D) (hd : w.heap[D]? = some (.deferred (some []))) : Marks lo (D :: Ds) w :=
  ⟨List.nodup_cons.2 ⟨fun hm => by have := hn D hm; omega, h.1⟩, fun E hE => by
    rcases List.mem_cons.1 hE with rfl | hE
    · exact ⟨hl, hd⟩
    · exact h.2 E hE⟩
/-- on the way out the marks are met one by one -/
theorem leaves_marks {F : Fence} {n : Nat} {Pg : Program} {fn : Func} {tmps : Array Value} {lo : Nat} {v : Value} {R : Ending → World → Prop} (hres : ∀ w, (results fn tmps).run Pg w = .ok v w)
    : ∀ (Ds : List Nat) (w : World), Marks lo Ds w → (∀ w', Below lo w w' → R (.returned v) w') → LeavesInM F n Pg fn tmps R (Ds.map mk) .returning w
  | [], w, _, hR => ⟨v, hres w, hR w (Below.refl _ _)⟩
  | D :: Ds, w, hm, hR => by
    have hd := hm.2 D (List.mem_cons_self ..)
    have hb : Below lo w (w.putObj D (.deferred none)) := put_below _ hd.1 hd.2
    refine ⟨by simp, .inl ⟨D, _, rfl, run_takeDeferred hd.2, leaves_marks hres Ds _ ⟨(List.nodup_cons.1 hm.1).2, fun E hE => ⟨(hm.2 E (List.mem_cons_of_mem _ hE)).1, ?_⟩⟩ fun w' hw => hR w' (hb.trans hw)⟩⟩
    rw [World.putObj_heap_other (show E ≠ D from fun e => (List.nodup_cons.1 hm.1).1 (by rw [← e]; exact hE))]
    exact (hm.2 E (List.mem_cons_of_mem _ hE)).2

set_option maxHeartbeats 8000000 in
set_option maxRecDepth 100000 in
theorem es_i (A : Option Addr) (n c : Nat) (Y : Nat → Int) (S K Q B room u : Int) (w : World) (hn : n ≤ 10) (hr : Sl w A n 4 Y) (hv : allT Y n = true) (s0 : 0 ≤ S) (s1 : S ≤ 5000) (k0 : 1 ≤ K) (k1 : K ≤ 500) (c0 : 1 ≤ B) (c1 : B ≤ room) (c2 : room ≤ 100) (hu : ES Y n S K B room u) :
    Calls Try.prog 98 #[.slice A n c, .agg #[.int .i64 S, .int .i64 K, .int .i64 Q, .int .i64 B], .int .i64 room] w fun e w' => e = .returned (.int .i64 u) ∧ Below w.heap.size w w' := by
  have HR := Lib.hid hr
  have HU := Lib.hid hu
  have hul := hu.le hv c1 (by omega)
  have hus := hu.1
  clear hr hu
  refine (callsIn_wide (n := 6)).1 (callsIn_of_wp_marks Try.func98 rfl trivial ?_ rfl)
  simp only [Try.ntmps98, List.size_toArray, List.length_cons, List.length_nil, Nat.reduceAdd, Nat.reduceSub, Array.replicate_succ, Array.replicate_zero, List.push_toArray, List.append_toArray, List.nil_append, List.cons_append]
  gi_wp2_with fail
  refine wpIn_wide.2 (wp_scope_straight (wpIn_wide (n := 6) |>.1 ?_))
  refine wpIn_seq (wpIn_label ?_)
  refine wpIn_block ?_
  refine wpIn_loop (fun a' w' => ∃ (u7 u8 u9 u10 u11 u12 u13 u14 u15 u16 u17 u18 u19 u20 u21 u22 u23 u24 u25 u26 u27 u28 : Value) (t : Int) (Ds : List Nat), a' = { tmps := #[Value.slice A n c, .agg #[.int .i64 S, .int .i64 K, .int .i64 Q, .int .i64 B], .int .i64 room, undef, .pointer (some ⟨w.heap.size, 0, none⟩), .pointer (some ⟨w.heap.size + 1, 0, none⟩), .int .i64 0, u7, u8, u9, u10, u11, u12, u13, u14, u15, u16, u17, u18, u19, u20, u21, u22, u23, u24, u25, u26, u27, u28], defers := Ds.map mk } ∧ (S ≤ t ∧ t ≤ u) ∧ Bx w' w.heap.size t K Q B ∧ Boxed w' (w.heap.size + 1) 2 (.int .i64 room) ∧ Marks (w.heap.size + 2) Ds w' ∧ Below w.heap.size w w')
    (fun a' w' => (u - numAt w.heap.size w').toNat) ?start ?round
  case start => exact ⟨_, _, _, _, _, _, _, _, _, _, _, _, _, _, _, _, _, _, _, _, _, _, S, [], rfl, ⟨Int.le_refl _, hus⟩, Bx.alloc _ (Go.Deep.blk_alloc_new _ _), by have := Boxed.new (w.alloc (.cells #[.int .i64 S, .int .i64 K, .int .i64 Q, .int .i64 B] 64)) 2 (.int .i64 room); rw [World.size_alloc] at this; exact this, ⟨List.nodup_nil, fun D hD => by cases hD⟩, Below.alloc (Below.alloc (Below.refl _ _) (Nat.le_refl _) _) (by simp) _⟩
  case round =>
    rintro a' wr ⟨u7, u8, u9, u10, u11, u12, u13, u14, u15, u16, u17, u18, u19, u20, u21, u22, u23, u24, u25, u26, u27, u28, t, Ds, rfl, ⟨ht0, ht1⟩, hbx, hrm, hmk, hbw⟩
    have zw := hbw.size
    have zx := hbx.lt
    have zr := hrm.lt
    have MLT := Lib.hid (show ∀ D, D ∈ Ds → D < wr.heap.size from fun D hD => (Array.getElem?_eq_some_iff.1 (hmk.2 D hD).2).1)
    gi_wp2_with (gi_at_call 94; refine ((callsIn_wide (n := _)).2 (levels0_c A n c _)).mono ?_; rintro e w2 ⟨rfl, rfl⟩)
    obtain ⟨WL, hWL⟩ : ∃ W, W = ((wr.alloc (Obj.cells #[Value.slice A n c] 49)).alloc (Obj.cells #[Value.func (Fn.func 90) #[] #[]] 106)) := ⟨_, rfl⟩
    rw [← hWL]
    have zL : WL.heap.size = wr.heap.size + 2 := by rw [hWL]; simp
    have bL1 : Below wr.heap.size wr WL := by rw [hWL]; exact Below.alloc (Below.alloc (Below.refl _ _) (Nat.le_refl _) _) (by simp) _
    have B0 : Bx WL w.heap.size t K Q B := hbx.below bL1 zx
    have B1 : Boxed WL (w.heap.size + 1) 2 (.int .i64 room) := (bL1.block _ zr).trans hrm
    have BM : Marks (w.heap.size + 2) Ds WL := hmk.below bL1 (Nat.le_refl _)
    have gL : Below w.heap.size w WL := hbw.trans (bL1.mono zw)
    have e1 : WL.cell? ⟨wr.heap.size, 0, none⟩ = some (.slice A n c) := by rw [hWL]; go_simp
    have e2 : WL.cell? ⟨wr.heap.size + 1, 0, none⟩ = some (.func (.func 90) #[] #[]) := by rw [hWL]; go_simp
    have HSL : Sl WL A n 4 Y := HR.out.below gL (Nat.le_refl _)
    have q00 : numAt w.heap.size wr = t := numAt_of hbx.c0
    clear bL1 hWL hbx hrm hmk hbw
    refine range_law rfl (by omega) (gf := 117) (lb := #[.pointer (some ⟨wr.heap.size, 0, none⟩), .pointer (some ⟨wr.heap.size + 1, 0, none⟩)]) rfl trivial (Go.Proofs.enters_of Try.func117 (by kernel_rfl) rfl)
      (lev0_it A n c _ _ _ Y WL hn HSL hv (by omega) (by omega) e1 e2) (fun _ => rfl)
      (fun s W => (Bx W w.heap.size t K Q B ∧ Boxed W (w.heap.size + 1) 2 (.int .i64 room) ∧ Marks (w.heap.size + 2) Ds W ∧ Below w.heap.size w W) ∧ ∀ h, t ≤ h → h < t + K → h < s → rod.load 0 Y n h + B ≤ room)
      (fun c W => c = .exit 1 ∧ ∃ t', (t < t' ∧ t' ≤ u) ∧ Bx W w.heap.size t' K Q B ∧ Boxed W (w.heap.size + 1) 2 (.int .i64 room) ∧ Marks (w.heap.size + 2) Ds W ∧ Below w.heap.size w W)
      (fun s A B hb h => ⟨⟨h.1.1.below hb (by omega), (hb.block _ (by omega)).trans h.1.2.1, h.1.2.2.1.keep (fun D hD _ _ _ => hb.block D (by have := MLT.out D hD; omega)), h.1.2.2.2.trans (hb.mono (by omega))⟩, h.2⟩)
      (fun c A B hb h => by
        obtain ⟨rfl, t', h1, h2, h3, h4, h5⟩ := h
        exact ⟨rfl, t', h1, h2.below hb (by omega), (hb.block _ (by omega)).trans h3, h4.keep (fun D hD _ _ _ => hb.block D (by have := MLT.out D hD; omega)), h5.trans (hb.mono (by omega))⟩)
      ⟨⟨B0, B1, BM, gL⟩, fun h a0 a1 a2 => by omega⟩
      (fun x a' W => ∃ bx, WL.heap.size + 2 ≤ bx ∧ Lv W bx x.1 x.2.1 x.2.2 ∧ a' = { tmps := #[Value.slice A n c, .agg #[.int .i64 S, .int .i64 K, .int .i64 Q, .int .i64 B], .int .i64 room, undef, .pointer (some ⟨w.heap.size, 0, none⟩), .pointer (some ⟨w.heap.size + 1, 0, none⟩), .int .i64 0, .pointer (some ⟨bx, 0, none⟩), Value.slice A n c, Value.func (Fn.func 117) #[] #[Value.pointer (some ⟨wr.heap.size, 0, none⟩), Value.pointer (some ⟨wr.heap.size + 1, 0, none⟩)], .agg #[.int .i64 x.1, .int .i64 x.2.1, .int .i64 x.2.2], u11, u12, u13, u14, u15, u16, u17, u18, u19, u20, u21, u22, u23, u24, u25, u26, u27, u28], defers := [] })
      (fun x a' A B hf h => by
        obtain ⟨bx, h1, h2, h3⟩ := h
        exact ⟨bx, h1, h2.frm hf h1, h3⟩) ?assign ?body ?done ?stop
    case assign =>
      intro l s s' x W KK hz hR hI hK
      simp only [lvlV]
      gi_wp2
      have zz : WL.heap.size + 2 ≤ W.heap.size := hz
      refine hK _ _ ((Frm.refl _ _).alloc _) ⟨⟨hI.1.1.alloc _, hI.1.2.1.alloc _, hI.1.2.2.1.below (Below.alloc (Below.refl W.heap.size W) (Nat.le_refl _) _) (Nat.le_refl _), hI.1.2.2.2.alloc (by omega) _⟩, hI.2⟩ ⟨W.heap.size, hz, World.alloc_heap_new _ _, ?_⟩
      rfl
    case body =>
      rintro l s s' ⟨T, E, cc⟩ a' W hz hR hI ⟨bx, hbx, hlv, rfl⟩
      obtain ⟨rfl, rfl, t0, hlt, hE, hld⟩ := hR
      obtain ⟨⟨i0, i1, im, hB⟩, hle⟩ := hI
      simp only at hlt hld hlv t0 hE hle
      have zz : WL.heap.size + 2 ≤ W.heap.size := hz
      have bdc := load_bd (m := 0) (h := T) hv
      rw [hld T (Int.le_refl _) hlt] at bdc
      have v0 := hlv.c0
      have v1 := hlv.c1
      have v2 := hlv.c2
      have x0 := i0.c0
      have x1 := i0.c1
      have x2 := i0.c2
      have x3 := i0.c3
      have xf := i0.fr
      have xl := i0.lt
      have r0 := i1.cell
      have rl := i1.lt
      have vl := hlv.lt
      have HI0 := Lib.hid i0
      have HI1 := Lib.hid i1
      have HIM := Lib.hid im
      have HIB := Lib.hid hB
      have HLD := Lib.hid hld
      have HLE := Lib.hid hle
      have zB := hB.size
      clear i0 i1 im hB hld hle hlv
      by_cases hm : T < t + K ∧ t < E
      · have HMD := Lib.hid (show true = decide (T < t + K ∧ t < E) by simp [hm])
        obtain ⟨hm1, hm2⟩ := hm
        gi_wp2_with fail
        refine wpIn_mono (Q := (fun e a' w' => e = .normal ∧ ∃ y11 y12 y13 y14 y15 y16 y17 y18 y19 y20 y21 y22 : Value, a' = { tmps := #[Value.slice A n c, .agg #[.int .i64 S, .int .i64 K, .int .i64 Q, .int .i64 B], .int .i64 room, undef, .pointer (some ⟨w.heap.size, 0, none⟩), .pointer (some ⟨w.heap.size + 1, 0, none⟩), .int .i64 0, .pointer (some ⟨bx, 0, none⟩), Value.slice A n c, Value.func (Fn.func 117) #[] #[Value.pointer (some ⟨wr.heap.size, 0, none⟩), Value.pointer (some ⟨wr.heap.size + 1, 0, none⟩)], .agg #[.int .i64 T, .int .i64 E, .int .i64 cc], y11, y12, y13, y14, y15, y16, y17, y18, y19, y20, y21, y22, .bool (decide (room < cc + B)), u24, u25, u26, u27, u28], defers := [] } ∧ Below W.heap.size W w')) ?region ?rest
        case region =>
          have hwr := IntWalk.i64_in (cc + B) (by omega)
          gi_region_with (first
            | (gi_at_call 90; refine (CallsIn.inRound l ((callsIn_wide (n := _)).2 (stretch0_w t K Q B _ (by omega) (by omega) k0 k1))).mono ?_; rintro e w5 ⟨rfl, hb5⟩; have l5 := hb5.size; have f0 := (hb5.cell (p := ⟨bx, 0, none⟩) vl).trans v0; have f1 := (hb5.cell (p := ⟨bx, 1, none⟩) vl).trans v1; have f2 := (hb5.cell (p := ⟨bx, 2, none⟩) vl).trans v2; have f3 := (hb5.cell (p := ⟨w.heap.size, 3, none⟩) xl).trans x3; have f4 := (hb5.cell (p := ⟨w.heap.size + 1, 0, none⟩) rl).trans r0)
            | (gi_at_call 121; refine (CallsIn.inRound l ((callsIn_wide (n := _)).2 (meets_i T E cc t (t + K) B true _ HMD.out))).mono ?_; rintro e w6 ⟨rfl, hb6⟩; have l6 := hb6.size; have g2 := (hb6.cell (p := ⟨bx, 2, none⟩) (by first | exact Nat.lt_of_lt_of_le vl l5 | omega)).trans f2; have g3 := (hb6.cell (p := ⟨w.heap.size, 3, none⟩) (by first | exact Nat.lt_of_lt_of_le xl l5 | omega)).trans f3; have g4 := (hb6.cell (p := ⟨w.heap.size + 1, 0, none⟩) (by first | exact Nat.lt_of_lt_of_le rl l5 | omega)).trans f4))
          all_goals first | exact ⟨rfl, _, _, _, _, _, _, _, _, _, _, _, _, rfl, Below.trans (drewN_below (Below.refl _ _) 1) (hb5.trans (hb6.mono l5))⟩ | (rw [hwr]; exact ⟨rfl, _, _, _, _, _, _, _, _, _, _, _, _, rfl, Below.trans (drewN_below (Below.refl _ _) 1) (hb5.trans (hb6.mono l5))⟩)
        case rest =>
          rintro e a' w6 ⟨rfl, y11, y12, y13, y14, y15, y16, y17, y18, y19, y20, y21, y22, rfl, hb6⟩
          have l6 := hb6.size
          have g1 := (hb6.cell (p := ⟨bx, 1, none⟩) vl).trans v1
          have g5 := (hb6.cell (p := ⟨w.heap.size, 0, none⟩) xl).trans x0
          have g6 := (hb6.frozen (p := ⟨w.heap.size, 0, none⟩) xl).trans (xf 0)
          have I0 := Lib.hid (HI0.out.below hb6 xl)
          have I1 := Lib.hid (show Boxed w6 (w.heap.size + 1) 2 (.int .i64 room) from (hb6.block _ rl).trans HI1.out)
          have IM := Lib.hid (HIM.out.below hb6 (Nat.le_refl _))
          have IB := Lib.hid (HIB.out.trans (hb6.mono zB))
          have FR := Lib.hid (show Frm (wr.heap.size + 2) W w6 from Frm.of_below hb6 (Nat.le_refl _))
          by_cases hc : room < cc + B
          · have hEu : E ≤ u := by
              rcases Int.lt_or_le u E with q | q
              · exfalso
                have := HU.out.2.1 (if T ≤ u then u else T) (by split <;> omega) (by split <;> omega)
                rw [HLD.out _ (by split <;> omega) (by split <;> omega)] at this
                omega
              · exact q
            rw [decide_eq_true hc]
            gi_wp2
            exact ⟨FR.out.set _ _ (by omega), rfl, E, ⟨hm2, hEu⟩, I0.out.s0 _, I1.out.other (by omega) _, IM.out.set _ I0.out, IB.out.setCell (p := ⟨w.heap.size, 0, none⟩) (Nat.le_refl _) _⟩
          · rw [decide_eq_false hc]
            gi_wp2
            refine ⟨FR.out, ⟨I0.out, I1.out, IM.out, IB.out⟩, fun h a0 a1 a2 => ?_⟩
            rcases Int.lt_or_le h T with q | q
            · exact HLE.out h a0 a1 q
            · rw [HLD.out h q a2]; omega
      · have HMD := Lib.hid (show false = decide (T < t + K ∧ t < E) by simp only [hm, decide_false])
        gi_wp2_with fail
        refine wpIn_mono (Q := (fun e a' w' => e = .normal ∧ ∃ y11 y12 y13 y14 y15 y16 y17 y18 y19 y20 y21 y22 : Value, a' = { tmps := #[Value.slice A n c, .agg #[.int .i64 S, .int .i64 K, .int .i64 Q, .int .i64 B], .int .i64 room, undef, .pointer (some ⟨w.heap.size, 0, none⟩), .pointer (some ⟨w.heap.size + 1, 0, none⟩), .int .i64 0, .pointer (some ⟨bx, 0, none⟩), Value.slice A n c, Value.func (Fn.func 117) #[] #[Value.pointer (some ⟨wr.heap.size, 0, none⟩), Value.pointer (some ⟨wr.heap.size + 1, 0, none⟩)], .agg #[.int .i64 T, .int .i64 E, .int .i64 cc], y11, y12, y13, y14, y15, y16, y17, y18, y19, y20, y21, y22, .bool false, u24, u25, u26, u27, u28], defers := [] } ∧ Below W.heap.size W w')) ?region2 ?rest2
        case region2 =>
          gi_region_with (first
            | (gi_at_call 90; refine (CallsIn.inRound l ((callsIn_wide (n := _)).2 (stretch0_w t K Q B _ (by omega) (by omega) k0 k1))).mono ?_; rintro e w5 ⟨rfl, hb5⟩; have l5 := hb5.size; have f0 := (hb5.cell (p := ⟨bx, 0, none⟩) vl).trans v0; have f1 := (hb5.cell (p := ⟨bx, 1, none⟩) vl).trans v1; have f2 := (hb5.cell (p := ⟨bx, 2, none⟩) vl).trans v2; have f3 := (hb5.cell (p := ⟨w.heap.size, 3, none⟩) xl).trans x3; have f4 := (hb5.cell (p := ⟨w.heap.size + 1, 0, none⟩) rl).trans r0)
            | (gi_at_call 121; refine (CallsIn.inRound l ((callsIn_wide (n := _)).2 (meets_i T E cc t (t + K) B false _ HMD.out))).mono ?_; rintro e w6 ⟨rfl, hb6⟩; have l6 := hb6.size; have g2 := (hb6.cell (p := ⟨bx, 2, none⟩) (by first | exact Nat.lt_of_lt_of_le vl l5 | omega)).trans f2; have g3 := (hb6.cell (p := ⟨w.heap.size, 3, none⟩) (by first | exact Nat.lt_of_lt_of_le xl l5 | omega)).trans f3; have g4 := (hb6.cell (p := ⟨w.heap.size + 1, 0, none⟩) (by first | exact Nat.lt_of_lt_of_le rl l5 | omega)).trans f4))
          all_goals exact ⟨rfl, _, _, _, _, _, _, _, _, _, _, _, _, rfl, Below.trans (drewN_below (Below.refl _ _) 1) (hb5.trans (hb6.mono l5))⟩
        case rest2 =>
          rintro e a' w6 ⟨rfl, y11, y12, y13, y14, y15, y16, y17, y18, y19, y20, y21, y22, rfl, hb6⟩
          have l6 := hb6.size
          have I0 := Lib.hid (HI0.out.below hb6 xl)
          have I1 := Lib.hid (show Boxed w6 (w.heap.size + 1) 2 (.int .i64 room) from (hb6.block _ rl).trans HI1.out)
          have IM := Lib.hid (HIM.out.below hb6 (Nat.le_refl _))
          have IB := Lib.hid (HIB.out.trans (hb6.mono zB))
          have FR := Lib.hid (show Frm (wr.heap.size + 2) W w6 from Frm.of_below hb6 (Nat.le_refl _))
          have HM := Lib.hid hm
          clear hm
          gi_wp2
          refine ⟨FR.out, ⟨I0.out, I1.out, IM.out, IB.out⟩, fun h a0 a1 a2 => ?_⟩
          rcases Int.lt_or_le h T with q | q
          · exact HLE.out h a0 a1 q
          · exact absurd ⟨by omega, by omega⟩ HM.out
    case done =>
      rintro D s W hD ⟨s0', s1', hz⟩ ⟨⟨i0, i1, im, hB⟩, hle⟩ hK
      have htu : t = u := by
        rcases Int.lt_or_le t u with q | q
        · exfalso
          refine HU.out.2.2 t ht0 q fun h a0 a1 => ?_
          rcases Int.lt_or_le h s with r | r
          · exact hle h a0 a1 r
          · rw [hz h r]; omega
        · omega
      have x0 := i0.c0
      have HM := Lib.hid (show Marks (w.heap.size + 2) (D :: Ds) W from im.add (by omega) (fun E hE => by have := MLT.out E hE; omega) hK)
      have HB := Lib.hid hB
      clear im hB hle hK i1
      subst htu
      gi_wp2
      show LeavesInM Fence.wide 6 Try.prog Try.f98 _ _ ((D :: Ds).map mk) .returning W
      exact leaves_marks (lo := w.heap.size + 2) (v := .int .i64 t) (fun w => (results_tmp (fn := Try.f98) (t := 6) rfl _ _ _).trans rfl) (D :: Ds) W HM.out (fun w' hw => ⟨rfl, HB.out.trans (hw.mono (by omega))⟩)
    case stop =>
      rintro D c W hD ⟨rfl, t', ⟨hl, hu2⟩, i0, i1, im, hB⟩ hK
      have HM := Lib.hid (show Marks (w.heap.size + 2) (D :: Ds) W from im.add (by omega) (fun E hE => by have := MLT.out E hE; omega) hK)
      have HIX := Lib.hid i0
      have HI1 := Lib.hid i1
      have HB := Lib.hid hB
      have q0 := numAt_of i0.c0
      clear im hB hK i0 i1
      gi_wp2
      refine ⟨⟨_, _, _, _, _, _, _, _, _, _, _, _, _, _, _, _, _, _, _, _, _, _, t', D :: Ds, rfl, ⟨by omega, hu2⟩, HIX.out, HI1.out, HM.out, HB.out⟩, ?_⟩
      rw [q00, q0]
      omega
end Go.Proofs.Ytcpaenmhnoagdac.ag
