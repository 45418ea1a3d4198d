/-
  The levels of batches in time, as an iterator: what its closure hands to a loop, over whatever loop.
-/
import Derived.Test.YtcpaenmhnoagdacEvO
import Derived.Test.YtcpaenmhnoagdacRf
namespace Go.Proofs.Ytcpaenmhnoagdac.ag
open Go.ChangeShapes Go.WideShapes Go.ChangeAt Go.RowKit Go.Proofs.Ytcpaenmhnoagdac.mem Go.Proofs.Ytcpaenmhnoagdac.hp Go.Proofs.Ytcpaenmhnoagdac.rod Go.Proofs.Ytcpaenmhnoagdac.rf
set_option linter.unusedVariables false
theorem wide_fn (f : Nat) : Fence.wide.fn f = True := rfl
theorem wide_depth : Fence.wide.depth = none := rfl
theorem wideR_fn (l f : Nat) : (Fence.wide.inRound l).fn f = True := rfl
theorem wideR_depth (l : Nat) : (Fence.wide.inRound l).depth = none := rfl
attribute [local go_sem] Oper.semAt_some wide_fn wide_depth wideR_fn wideR_depth

/-- a level lies at block q -/
def Lv (w : World) (q : Nat) (T E c : Int) : Prop := w.heap[q]? = some (.cells #[.int .i64 T, .int .i64 E, .int .i64 c] 112 (0, 0))
theorem Lv.c0 {w : World} {q : Nat} {T E c : Int} (h : Lv w q T E c) : w.cell? ⟨q, 0, none⟩ = some (.int .i64 T) := by unfold Lv at h; simp [World.cell?, h]
theorem Lv.c1 {w : World} {q : Nat} {T E c : Int} (h : Lv w q T E c) : w.cell? ⟨q, 1, none⟩ = some (.int .i64 E) := by unfold Lv at h; simp [World.cell?, h]
theorem Lv.c2 {w : World} {q : Nat} {T E c : Int} (h : Lv w q T E c) : w.cell? ⟨q, 2, none⟩ = some (.int .i64 c) := by unfold Lv at h; simp [World.cell?, h]
theorem Lv.fr {w : World} {q : Nat} {T E c : Int} (h : Lv w q T E c) (i : Nat) : w.frozen? ⟨q, i, none⟩ = false := by unfold Lv at h; simp [World.frozen?, h]
theorem Lv.lt {w : World} {q : Nat} {T E c : Int} (h : Lv w q T E c) : q < w.heap.size := (Array.getElem?_eq_some_iff.1 h).1
theorem Lv.s0 {w : World} {q : Nat} {T E c : Int} (v : Int) (h : Lv w q T E c) : Lv (w.setCell ⟨q, 0, none⟩ (.int .i64 v)) q v E c := by unfold Lv at *; simp [World.setCell, Array.getElem?_modify, h]
theorem Lv.s1 {w : World} {q : Nat} {T E c : Int} (v : Int) (h : Lv w q T E c) : Lv (w.setCell ⟨q, 1, none⟩ (.int .i64 v)) q T v c := by unfold Lv at *; simp [World.setCell, Array.getElem?_modify, h]
theorem Lv.s2 {w : World} {q : Nat} {T E c : Int} (v : Int) (h : Lv w q T E c) : Lv (w.setCell ⟨q, 2, none⟩ (.int .i64 v)) q T E v := by unfold Lv at *; simp [World.setCell, Array.getElem?_modify, h]
theorem Lv.alloc {w : World} {q : Nat} {T E c : Int} (o : Obj) (h : Lv w q T E c) : Lv (w.alloc o) q T E c := (Go.Deep.blk_alloc_lt _ _ _ h.lt).trans h
theorem Lv.only {w w' : World} {p g q : Nat} {T E c : Int} (h : Lv w q T E c) (ho : Only w w' p g) (h1 : q ≠ p) (h2 : q ≠ g) : Lv w' q T E c := (ho.block q h.lt h1 h2).trans h
theorem Lv.frm {w w' : World} {B q : Nat} {T E c : Int} (h : Lv w q T E c) (ho : Frm B w w') (h1 : B ≤ q) : Lv w' q T E c := (ho.block q h1 h.lt).trans h
theorem Ag.frm {w w' : World} {B p g n cap : Nat} {a : Nat → Ev} (h : Ag w p g n cap a) (ho : Frm B w w') (h1 : B ≤ p) (h2 : B ≤ g) : Ag w' p g n cap a := by
  have b1 := ho.block p h1 h.lt
  have b2 := ho.block g h2 h.own.lt
  have := ho.size
  have := h.lt
  refine ⟨?_, ?_, h.le, h.mx, by omega, h.ne, h.own.of_block b2⟩
  · have := h.sl
    unfold World.cell? at this ⊢
    simp only [b1]
    exact this
  · have := h.fr
    unfold World.frozen? at this ⊢
    simp only [b1]
    exact this
theorem Ag.alloc {w : World} {p g n cap : Nat} {a : Nat → Ev} (h : Ag w p g n cap a) (o : Obj) : Ag (w.alloc o) p g n cap a := h.frm (B := 0) ((Frm.refl 0 w).alloc o) (Nat.zero_le _) (Nat.zero_le _)
theorem Ag.setOther {w : World} {p g n cap q i : Nat} {a : Nat → Ev} (h : Ag w p g n cap a) (v : Value) (h1 : q ≠ p) (h2 : q ≠ g) : Ag (w.setCell ⟨q, i, none⟩ v) p g n cap a := by
  have b1 : (w.setCell ⟨q, i, none⟩ v).heap[p]? = w.heap[p]? := Below.heap_setCell _ _ _ _ (show p ≠ q by omega)
  refine ⟨?_, ?_, h.le, h.mx, by simpa using h.lt, h.ne, h.own.setOther (show g ≠ q by omega) v⟩
  · have := h.sl
    unfold World.cell? at this ⊢
    simp only [b1]
    exact this
  · have := h.fr
    unfold World.frozen? at this ⊢
    simp only [b1]
    exact this
theorem ta_event (x y : Int) (w : World) : (Instr.typeAssert (.iface 136 (.agg #[.int .i64 x, .int .i64 y])) 20 136 false).run Try.prog w = .ok (.agg #[.int .i64 x, .int .i64 y]) w := by kernel_rfl
theorem lt_of_cell {w : World} {b o : Nat} {v : Value} (h : w.cell? ⟨b, o, none⟩ = some v) : b < w.heap.size := Classical.byContradiction fun q => by
  unfold World.cell? at h
  simp [Array.getElem?_eq_none (Nat.le_of_not_lt q)] at h
/-- how many events the heap at block p still has -/
def left (p : Nat) (w : World) : Nat := match w.cell? ⟨p, 0, none⟩ with
  | some (.slice _ n _) => n
  | _ => 0
theorem Ag.left {w : World} {p g n cap : Nat} {a : Nat → Ev} (h : Ag w p g n cap a) : ag.left p w = n := by unfold ag.left; rw [h.sl]

/-- between two rounds of the closure -/
structure Walk (m n : Nat) (X : Nat → Int) (L p g cap q : Nat) (J : Int → World → Prop) (k : Nat) (wr : World) (T E c : Int) (a : Nat → Ev) : Prop where
  ag : Ag wr p g k cap a
  heap : Heap a 0 k
  stand : Stand m n X T c k a
  lv : Lv wr q T E c
  j : J T wr
  sz : L ≤ wr.heap.size

theorem levels0_c (A : Option Addr) (n c : Nat) (w : World) :
    Calls Try.prog 94 #[.slice A n c, .func (.func 90) #[] #[]] w fun e w' =>
      e = .returned (.func (.func 117) #[] #[.pointer (some ⟨w.heap.size, 0, none⟩), .pointer (some ⟨w.heap.size + 1, 0, none⟩)]) ∧ w' = (w.alloc (.cells #[.slice A n c] 49)).alloc (.cells #[.func (.func 90) #[] #[]] 106) := by
  go_enter Try.func94, Try.ntmps94
  go_wp2
  go_ret
  exact ⟨rfl, rfl⟩

set_option maxHeartbeats 8000000 in
set_option maxRecDepth 100000 in
theorem lev0_it (A : Option Addr) (n c b1 b2 N : Nat) (X : Nat → Int) (w : World) (hn : n ≤ 10) (hr : Sl w A n 4 X) (hv : allT X n = true) (k1 : b1 < w.heap.size) (k2 : b2 < w.heap.size)
    (e1 : w.cell? ⟨b1, 0, none⟩ = some (.slice A n c)) (e2 : w.cell? ⟨b2, 0, none⟩ = some (.func (.func 90) #[] #[])) :
    Iter Fence.wide N Try.prog 117 #[.pointer (some ⟨b1, 0, none⟩), .pointer (some ⟨b2, 0, none⟩)] lvlV (Lvl 0 n X) (Fin 0 n X) 0 w := by
  intro l J Jx W hW hJ hJx hY h0
  have c1 : W.cell? ⟨b1, 0, none⟩ = some (.slice A n c) := (hW.cell (p := ⟨b1, 0, none⟩) k1).trans e1
  have c2 : W.cell? ⟨b2, 0, none⟩ = some (.func (.func 90) #[] #[]) := (hW.cell (p := ⟨b2, 0, none⟩) k2).trans e2
  have HS := Lib.hid (hr.below hW (Nat.le_refl _))
  have HJ := Lib.hid hJ
  have HJx := Lib.hid hJx
  have HY := Lib.hid hY
  have H0 := Lib.hid h0
  clear hr hJ hJx hY h0
  refine callsIn_of_wp Try.func117 rfl trivial ?_ rfl
  simp only [Try.ntmps117, List.size_toArray, List.length_cons, List.length_nil, Nat.reduceAdd, Nat.reduceSub, Array.replicate_succ, Array.replicate_zero, List.push_toArray, List.append_toArray, List.nil_append, List.cons_append]
  gi_wp2_with (gi_at_call 118; refine ((callsIn_wide (n := _)).2 (events0_c A n c X _ hn HS.out hv)).mono ?_; rintro e w1 ⟨p, rfl, hp, hb1, hcase⟩)
  have hz1 := hb1.size
  rcases hcase with ⟨rfl, hc0⟩ | ⟨npos, g, cap, a, hg, hag, hsim, hheap⟩
  · have HC := Lib.hid hc0
    have HJ1 := Lib.hid (HJ.out 0 _ _ (Below.alloc hb1 hz1 (.cells #[.int .i64 0, .int .i64 0, .int .i64 0] 112)) H0.out)
    have ML := m_len p (.slice none 0 0) (w1.alloc (.cells #[.int .i64 0, .int .i64 0, .int .i64 0] 112)) ((((Below.refl w1.heap.size w1).alloc (Nat.le_refl _) _).cell (p := ⟨p, 0, none⟩) (lt_of_cell HC.out)).trans HC.out)
    gi_loopw [] (fun wr => wr = w1.alloc (.cells #[.int .i64 0, .int .i64 0, .int .i64 0] 112)) (fun wr => 0)
    case atStart => rfl
    case round =>
      obtain rfl := hrel
      gi_wp2_with (gi_at_call 143; refine ((callsIn_wide (n := _)).2 (len_v none 0 0 _)).mono ?_; rintro e w' ⟨rfl, rfl⟩)
      go_end0
      exact ⟨⟨_, rfl⟩, .inl ⟨0, ⟨by omega, by omega, fun h _ => rfl⟩, HJ1.out⟩⟩
  · have hpl := hag.lt
    have hgl := hag.own.lt
    have hgp := hag.ne
    have HA0 := Lib.hid (show Walk 0 n X W.heap.size p g cap w1.heap.size J (n * 2) (w1.alloc (.cells #[.int .i64 0, .int .i64 0, .int .i64 0] 112)) 0 0 0 a from
      ⟨hag.alloc _, hheap, Stand.start hv hsim, World.alloc_heap_new _ _, HJ.out 0 _ _ (Below.alloc hb1 hz1 _) H0.out, by simp; omega⟩)
    clear hag hsim hheap hb1
    gi_loopw [] (fun wr => ∃ k T E c0 a, Walk 0 n X W.heap.size p g cap w1.heap.size J k wr T E c0 a) (fun wr => ag.left p wr)
    case atStart => exact ⟨_, _, _, _, _, HA0.out⟩
    case round =>
      obtain ⟨k, T, E, c0, a, hw⟩ := hrel
      have HW := Lib.hid hw
      clear hw
      have ML := m_len p _ wr HW.out.ag.sl
      have hk := HW.out.stand.le
      have TA := ta_event (a 0).1 (a 0).2
      rcases k with _ | k
      · gi_wp2_with (gi_at_call 143; refine ((callsIn_wide (n := _)).2 (len_v (some ⟨g, 0, none⟩) 0 cap _)).mono ?_; rintro e w' ⟨rfl, rfl⟩)
        go_end0
        exact ⟨⟨_, rfl⟩, .inl ⟨T, ⟨HW.out.stand.t0, HW.out.stand.t1, HW.out.stand.over hv⟩, HW.out.j⟩⟩
      · have kp : (0 : Int) < ((k + 1 : Nat) : Int) := by omega
        have ST0 := HW.out.stand
        have bc0 := ST0.c0
        have bc1 := ST0.c1
        obtain ⟨bd0, bd1, bd2⟩ := ST0.bd 0 (by omega)
        have t0 := ST0.t0
        have bl := ST0.late 0 (by omega)
        have HST := Lib.hid ST0
        clear ST0
        by_cases hlt : T < (a 0).1
        · gi_wp2_with (first
            | (gi_at_call 143; refine ((callsIn_wide (n := _)).2 (len_v (some ⟨g, 0, none⟩) (k + 1) cap _)).mono ?_; rintro e w' ⟨rfl, rfl⟩)
            | (gi_at_call 119; refine ((callsIn_wide (n := _)).2 (pop_c p g k cap a _ HW.out.ag (by omega) HW.out.heap)).mono ?_; rintro e w2 ⟨rfl, b, hpop, ha2, hon⟩; have sz2 := hon.size; have LV2 := Lib.hid (HW.out.lv.only hon (by omega) (by omega)); have q0 := LV2.out.c0; have q1 := LV2.out.c1; have q2 := LV2.out.c2; have qf := LV2.out.fr; have ql := LV2.out.lt; have HP := Lib.hid hpop; have HA := Lib.hid ha2; have JW := Lib.hid (HJ.out T _ _ (hon.below hp hg HW.out.sz) HW.out.j); have szw := HW.out.sz; clear ML hpop ha2 hon; obtain ⟨fn, tmps, assign, body, hy, hR⟩ := HY.out T (T, (a 0).1, c0) (a 0).1 ((w2.setCell ⟨w1.heap.size, 1, none⟩ (.int .i64 (a 0).1)).alloc (.cells #[.int .i64 (a 0).1, .int .i64 (a 0).2] 136)) (HJ.out T _ _ (Below.alloc (Below.setCell (Below.refl _ _) (show W.heap.size ≤ w1.heap.size from hz1) _) (by simp; omega) _) JW.out) ⟨rfl, rfl, t0, hlt, bd0, HST.out.level HW.out.heap.top⟩ (by simp; omega); dsimp only [lvlV] at hy))
          refine hR.mono ?_
          rintro e w5 ⟨hor, hfr⟩
          have L5 := Lib.hid (((LV2.out.s1 (a 0).1).alloc (.cells #[.int .i64 (a 0).1, .int .i64 (a 0).2] 136)).frm hfr hz1)
          have A5 := Lib.hid (((HA.out.setOther (q := w1.heap.size) (i := 1) (.int .i64 (a 0).1) (by omega) (by omega)).alloc (.cells #[.int .i64 (a 0).1, .int .i64 (a 0).2] 136)).frm hfr hp hg)
          have N5 : w5.heap[w2.heap.size]? = some (.cells #[.int .i64 (a 0).1, .int .i64 (a 0).2] 136 (0, 0)) := (hfr.block _ (by omega) (by simp)).trans (by have := World.alloc_heap_new (w2.setCell ⟨w1.heap.size, 1, none⟩ (.int .i64 (a 0).1)) (.cells #[.int .i64 (a 0).1, .int .i64 (a 0).2] 136); simpa using this)
          have n0 : w5.cell? ⟨w2.heap.size, 0, none⟩ = some (.int .i64 (a 0).1) := by simp [World.cell?, N5]
          have n1 : w5.cell? ⟨w2.heap.size, 1, none⟩ = some (.int .i64 (a 0).2) := by simp [World.cell?, N5]
          have s5 := hfr.size
          simp at s5
          have l0 := L5.out.c0
          have l1 := L5.out.c1
          have l2 := L5.out.c2
          have lf := L5.out.fr
          have ll := L5.out.lt
          have NX := Lib.hid (HST.out.next HP.out)
          clear q0 q1 q2 qf ql hfr N5
          rcases hor with ⟨rfl, hJ5⟩ | ⟨rfl, hJx5⟩
          · have J5 := Lib.hid hJ5
            clear hJ5
            gi_wp2
            go_roundw
            case rel => exact ⟨k, _, _, _, b, ⟨((A5.out.setOther _ (by omega) (by omega)).setOther _ (by omega) (by omega)), HP.out.heap, NX.out, (L5.out.s0 _).s2 _, HJ.out _ _ _ (Below.setCell (Below.setCell (Below.refl _ _) (show W.heap.size ≤ w1.heap.size from hz1) _) (show W.heap.size ≤ w1.heap.size from hz1) _) J5.out, by simp; omega⟩⟩
            case measure =>
              rw [HW.out.ag.left, Ag.left ((A5.out.setOther _ (by omega) (by omega)).setOther _ (by omega) (by omega))]
              omega
          · gi_wp2
            refine bodyPost_ret (results_none rfl _ _ _) rfl ?_
            exact ⟨⟨_, rfl⟩, .inr hJx5⟩
        · have hge : (a 0).1 ≤ T := by omega
          gi_wp2_with (first
            | (gi_at_call 143; refine ((callsIn_wide (n := _)).2 (len_v (some ⟨g, 0, none⟩) (k + 1) cap _)).mono ?_; rintro e w' ⟨rfl, rfl⟩)
            | (gi_at_call 119; refine ((callsIn_wide (n := _)).2 (pop_c p g k cap a _ HW.out.ag (by omega) HW.out.heap)).mono ?_; rintro e w2 ⟨rfl, b, hpop, ha2, hon⟩; have sz2 := hon.size; have LV2 := Lib.hid (HW.out.lv.only hon (by omega) (by omega)); have q0 := LV2.out.c0; have q1 := LV2.out.c1; have q2 := LV2.out.c2; have qf := LV2.out.fr; have ql := LV2.out.lt; have HP := Lib.hid hpop; have HA := Lib.hid ha2; have JW := Lib.hid (HJ.out T _ _ (hon.below hp hg HW.out.sz) HW.out.j); have szw := HW.out.sz; clear ML hpop ha2 hon))
          have NX := Lib.hid (HST.out.next HP.out)
          have JT : J (a 0).1 w2 := by rw [show (a 0).1 = T by omega]; exact JW.out
          have sg : W.heap.size ≤ w1.heap.size := hz1
          have A9 := Lib.hid ((((HA.out.setOther (q := w1.heap.size) (i := 1) (.int .i64 (a 0).1) (by omega) (by omega)).setOther (q := w1.heap.size) (i := 0) (.int .i64 (a 0).1) (by omega) (by omega)).setOther (q := w1.heap.size) (i := 2) (.int .i64 (c0 + (a 0).2)) (by omega) (by omega)).alloc (.cells #[.int .i64 (a 0).1, .int .i64 (a 0).2] 136))
          go_roundw
          case rel => exact ⟨k, _, _, _, b, ⟨A9.out, HP.out.heap, NX.out, (((LV2.out.s1 _).s0 _).s2 _).alloc _, HJ.out _ _ _ (Below.alloc (Below.setCell (Below.setCell (Below.setCell (Below.refl _ _) (by exact hz1) _) (by exact hz1) _) (by exact hz1) _) (by simp; omega) _) JT, by simp; omega⟩⟩
          case measure =>
            rw [HW.out.ag.left, A9.out.left]
            omega

theorem levels1_c (A : Option Addr) (n c : Nat) (w : World) :
    Calls Try.prog 94 #[.slice A n c, .func (.func 92) #[] #[]] w fun e w' =>
      e = .returned (.func (.func 117) #[] #[.pointer (some ⟨w.heap.size, 0, none⟩), .pointer (some ⟨w.heap.size + 1, 0, none⟩)]) ∧ w' = (w.alloc (.cells #[.slice A n c] 49)).alloc (.cells #[.func (.func 92) #[] #[]] 106) := by
  go_enter Try.func94, Try.ntmps94
  go_wp2
  go_ret
  exact ⟨rfl, rfl⟩

set_option maxHeartbeats 8000000 in
set_option maxRecDepth 100000 in
theorem lev1_it (A : Option Addr) (n c b1 b2 N : Nat) (X : Nat → Int) (w : World) (hn : n ≤ 10) (hr : Sl w A n 4 X) (hv : allT X n = true) (k1 : b1 < w.heap.size) (k2 : b2 < w.heap.size)
    (e1 : w.cell? ⟨b1, 0, none⟩ = some (.slice A n c)) (e2 : w.cell? ⟨b2, 0, none⟩ = some (.func (.func 92) #[] #[])) :
    Iter Fence.wide N Try.prog 117 #[.pointer (some ⟨b1, 0, none⟩), .pointer (some ⟨b2, 0, none⟩)] lvlV (Lvl 1 n X) (Fin 1 n X) 0 w := by
  intro l J Jx W hW hJ hJx hY h0
  have c1 : W.cell? ⟨b1, 0, none⟩ = some (.slice A n c) := (hW.cell (p := ⟨b1, 0, none⟩) k1).trans e1
  have c2 : W.cell? ⟨b2, 0, none⟩ = some (.func (.func 92) #[] #[]) := (hW.cell (p := ⟨b2, 0, none⟩) k2).trans e2
  have HS := Lib.hid (hr.below hW (Nat.le_refl _))
  have HJ := Lib.hid hJ
  have HJx := Lib.hid hJx
  have HY := Lib.hid hY
  have H0 := Lib.hid h0
  clear hr hJ hJx hY h0
  refine callsIn_of_wp Try.func117 rfl trivial ?_ rfl
  simp only [Try.ntmps117, List.size_toArray, List.length_cons, List.length_nil, Nat.reduceAdd, Nat.reduceSub, Array.replicate_succ, Array.replicate_zero, List.push_toArray, List.append_toArray, List.nil_append, List.cons_append]
  gi_wp2_with (gi_at_call 118; refine ((callsIn_wide (n := _)).2 (events1_c A n c X _ hn HS.out hv)).mono ?_; rintro e w1 ⟨p, rfl, hp, hb1, hcase⟩)
  have hz1 := hb1.size
  rcases hcase with ⟨rfl, hc0⟩ | ⟨npos, g, cap, a, hg, hag, hsim, hheap⟩
  · have HC := Lib.hid hc0
    have HJ1 := Lib.hid (HJ.out 0 _ _ (Below.alloc hb1 hz1 (.cells #[.int .i64 0, .int .i64 0, .int .i64 0] 112)) H0.out)
    have ML := m_len p (.slice none 0 0) (w1.alloc (.cells #[.int .i64 0, .int .i64 0, .int .i64 0] 112)) ((((Below.refl w1.heap.size w1).alloc (Nat.le_refl _) _).cell (p := ⟨p, 0, none⟩) (lt_of_cell HC.out)).trans HC.out)
    gi_loopw [] (fun wr => wr = w1.alloc (.cells #[.int .i64 0, .int .i64 0, .int .i64 0] 112)) (fun wr => 0)
    case atStart => rfl
    case round =>
      obtain rfl := hrel
      gi_wp2_with (gi_at_call 143; refine ((callsIn_wide (n := _)).2 (len_v none 0 0 _)).mono ?_; rintro e w' ⟨rfl, rfl⟩)
      go_end0
      exact ⟨⟨_, rfl⟩, .inl ⟨0, ⟨by omega, by omega, fun h _ => rfl⟩, HJ1.out⟩⟩
  · have hpl := hag.lt
    have hgl := hag.own.lt
    have hgp := hag.ne
    have HA0 := Lib.hid (show Walk 1 n X W.heap.size p g cap w1.heap.size J (n * 2) (w1.alloc (.cells #[.int .i64 0, .int .i64 0, .int .i64 0] 112)) 0 0 0 a from
      ⟨hag.alloc _, hheap, Stand.start hv hsim, World.alloc_heap_new _ _, HJ.out 0 _ _ (Below.alloc hb1 hz1 _) H0.out, by simp; omega⟩)
    clear hag hsim hheap hb1
    gi_loopw [] (fun wr => ∃ k T E c0 a, Walk 1 n X W.heap.size p g cap w1.heap.size J k wr T E c0 a) (fun wr => ag.left p wr)
    case atStart => exact ⟨_, _, _, _, _, HA0.out⟩
    case round =>
      obtain ⟨k, T, E, c0, a, hw⟩ := hrel
      have HW := Lib.hid hw
      clear hw
      have ML := m_len p _ wr HW.out.ag.sl
      have hk := HW.out.stand.le
      have TA := ta_event (a 0).1 (a 0).2
      rcases k with _ | k
      · gi_wp2_with (gi_at_call 143; refine ((callsIn_wide (n := _)).2 (len_v (some ⟨g, 0, none⟩) 0 cap _)).mono ?_; rintro e w' ⟨rfl, rfl⟩)
        go_end0
        exact ⟨⟨_, rfl⟩, .inl ⟨T, ⟨HW.out.stand.t0, HW.out.stand.t1, HW.out.stand.over hv⟩, HW.out.j⟩⟩
      · have kp : (0 : Int) < ((k + 1 : Nat) : Int) := by omega
        have ST0 := HW.out.stand
        have bc0 := ST0.c0
        have bc1 := ST0.c1
        obtain ⟨bd0, bd1, bd2⟩ := ST0.bd 0 (by omega)
        have t0 := ST0.t0
        have bl := ST0.late 0 (by omega)
        have HST := Lib.hid ST0
        clear ST0
        by_cases hlt : T < (a 0).1
        · gi_wp2_with (first
            | (gi_at_call 143; refine ((callsIn_wide (n := _)).2 (len_v (some ⟨g, 0, none⟩) (k + 1) cap _)).mono ?_; rintro e w' ⟨rfl, rfl⟩)
            | (gi_at_call 119; refine ((callsIn_wide (n := _)).2 (pop_c p g k cap a _ HW.out.ag (by omega) HW.out.heap)).mono ?_; rintro e w2 ⟨rfl, b, hpop, ha2, hon⟩; have sz2 := hon.size; have LV2 := Lib.hid (HW.out.lv.only hon (by omega) (by omega)); have q0 := LV2.out.c0; have q1 := LV2.out.c1; have q2 := LV2.out.c2; have qf := LV2.out.fr; have ql := LV2.out.lt; have HP := Lib.hid hpop; have HA := Lib.hid ha2; have JW := Lib.hid (HJ.out T _ _ (hon.below hp hg HW.out.sz) HW.out.j); have szw := HW.out.sz; clear ML hpop ha2 hon; obtain ⟨fn, tmps, assign, body, hy, hR⟩ := HY.out T (T, (a 0).1, c0) (a 0).1 ((w2.setCell ⟨w1.heap.size, 1, none⟩ (.int .i64 (a 0).1)).alloc (.cells #[.int .i64 (a 0).1, .int .i64 (a 0).2] 136)) (HJ.out T _ _ (Below.alloc (Below.setCell (Below.refl _ _) (show W.heap.size ≤ w1.heap.size from hz1) _) (by simp; omega) _) JW.out) ⟨rfl, rfl, t0, hlt, bd0, HST.out.level HW.out.heap.top⟩ (by simp; omega); dsimp only [lvlV] at hy))
          refine hR.mono ?_
          rintro e w5 ⟨hor, hfr⟩
          have L5 := Lib.hid (((LV2.out.s1 (a 0).1).alloc (.cells #[.int .i64 (a 0).1, .int .i64 (a 0).2] 136)).frm hfr hz1)
          have A5 := Lib.hid (((HA.out.setOther (q := w1.heap.size) (i := 1) (.int .i64 (a 0).1) (by omega) (by omega)).alloc (.cells #[.int .i64 (a 0).1, .int .i64 (a 0).2] 136)).frm hfr hp hg)
          have N5 : w5.heap[w2.heap.size]? = some (.cells #[.int .i64 (a 0).1, .int .i64 (a 0).2] 136 (0, 0)) := (hfr.block _ (by omega) (by simp)).trans (by have := World.alloc_heap_new (w2.setCell ⟨w1.heap.size, 1, none⟩ (.int .i64 (a 0).1)) (.cells #[.int .i64 (a 0).1, .int .i64 (a 0).2] 136); simpa using this)
          have n0 : w5.cell? ⟨w2.heap.size, 0, none⟩ = some (.int .i64 (a 0).1) := by simp [World.cell?, N5]
          have n1 : w5.cell? ⟨w2.heap.size, 1, none⟩ = some (.int .i64 (a 0).2) := by simp [World.cell?, N5]
          have s5 := hfr.size
          simp at s5
          have l0 := L5.out.c0
          have l1 := L5.out.c1
          have l2 := L5.out.c2
          have lf := L5.out.fr
          have ll := L5.out.lt
          have NX := Lib.hid (HST.out.next HP.out)
          clear q0 q1 q2 qf ql hfr N5
          rcases hor with ⟨rfl, hJ5⟩ | ⟨rfl, hJx5⟩
          · have J5 := Lib.hid hJ5
            clear hJ5
            gi_wp2
            go_roundw
            case rel => exact ⟨k, _, _, _, b, ⟨((A5.out.setOther _ (by omega) (by omega)).setOther _ (by omega) (by omega)), HP.out.heap, NX.out, (L5.out.s0 _).s2 _, HJ.out _ _ _ (Below.setCell (Below.setCell (Below.refl _ _) (show W.heap.size ≤ w1.heap.size from hz1) _) (show W.heap.size ≤ w1.heap.size from hz1) _) J5.out, by simp; omega⟩⟩
            case measure =>
              rw [HW.out.ag.left, Ag.left ((A5.out.setOther _ (by omega) (by omega)).setOther _ (by omega) (by omega))]
              omega
          · gi_wp2
            refine bodyPost_ret (results_none rfl _ _ _) rfl ?_
            exact ⟨⟨_, rfl⟩, .inr hJx5⟩
        · have hge : (a 0).1 ≤ T := by omega
          gi_wp2_with (first
            | (gi_at_call 143; refine ((callsIn_wide (n := _)).2 (len_v (some ⟨g, 0, none⟩) (k + 1) cap _)).mono ?_; rintro e w' ⟨rfl, rfl⟩)
            | (gi_at_call 119; refine ((callsIn_wide (n := _)).2 (pop_c p g k cap a _ HW.out.ag (by omega) HW.out.heap)).mono ?_; rintro e w2 ⟨rfl, b, hpop, ha2, hon⟩; have sz2 := hon.size; have LV2 := Lib.hid (HW.out.lv.only hon (by omega) (by omega)); have q0 := LV2.out.c0; have q1 := LV2.out.c1; have q2 := LV2.out.c2; have qf := LV2.out.fr; have ql := LV2.out.lt; have HP := Lib.hid hpop; have HA := Lib.hid ha2; have JW := Lib.hid (HJ.out T _ _ (hon.below hp hg HW.out.sz) HW.out.j); have szw := HW.out.sz; clear ML hpop ha2 hon))
          have NX := Lib.hid (HST.out.next HP.out)
          have JT : J (a 0).1 w2 := by rw [show (a 0).1 = T by omega]; exact JW.out
          have sg : W.heap.size ≤ w1.heap.size := hz1
          have A9 := Lib.hid ((((HA.out.setOther (q := w1.heap.size) (i := 1) (.int .i64 (a 0).1) (by omega) (by omega)).setOther (q := w1.heap.size) (i := 0) (.int .i64 (a 0).1) (by omega) (by omega)).setOther (q := w1.heap.size) (i := 2) (.int .i64 (c0 + (a 0).2)) (by omega) (by omega)).alloc (.cells #[.int .i64 (a 0).1, .int .i64 (a 0).2] 136))
          go_roundw
          case rel => exact ⟨k, _, _, _, b, ⟨A9.out, HP.out.heap, NX.out, (((LV2.out.s1 _).s0 _).s2 _).alloc _, HJ.out _ _ _ (Below.alloc (Below.setCell (Below.setCell (Below.setCell (Below.refl _ _) (by exact hz1) _) (by exact hz1) _) (by exact hz1) _) (by simp; omega) _) JT, by simp; omega⟩⟩
          case measure =>
            rw [HW.out.ag.left, A9.out.left]
            omega

end Go.Proofs.Ytcpaenmhnoagdac.ag
