/-
  The program's heap of events of batches, made.
-/
import Derived.Test.YtcpaenmhnoagdacTank
import Derived.Test.YtcpaenmhnoagdacEvs
import Derived.Test.YtcpaenmhnoagdacAgP
import Derived.OwnWalk
import Derived.RangeFuncBox
namespace Go.Proofs.Ytcpaenmhnoagdac.ag
open Go.ChangeShapes Go.WideShapes Go.ChangeAt Go.RowKit Go.Proofs.Ytcpaenmhnoagdac.mem Go.Proofs.Ytcpaenmhnoagdac.hp Go.Proofs.Ytcpaenmhnoagdac.rod
set_option linter.unusedVariables false
theorem info_event : (Try.prog.info? 136).map (fun i => (i.zero, i.size, i.bytes)) = some (some (.agg #[.int .i64 0, .int .i64 0]), 2, 16) := by kernel_rfl
/-- the cells of events -/
def evC (m : Nat) (X : Nat → Int) (n : Nat) : List Value := (List.range n).map fun j => .int .i64 (fl (evs m X) j)
theorem evC_len (m : Nat) (X : Nat → Int) (n : Nat) : (evC m X n).length = n := by simp [evC]
theorem evC_more (m : Nat) (X : Nat → Int) (k : Nat) : evC m X ((k + 1) * 4) = evC m X (k * 4) ++ [.int .i64 (fstT m X k), .int .i64 (X (k * 4 + 3)), .int .i64 (endT m X k), .int .i64 (- X (k * 4 + 3))] := by
  have a0 : fl (evs m X) (k * 4) = fstT m X k := by
    have h := fl_0 (evs m X) (k * 2)
    rw [evs_0, show k * 2 * 2 = k * 4 by omega] at h
    exact h
  have a1 : fl (evs m X) (k * 4 + 1) = X (k * 4 + 3) := by
    have h := fl_1 (evs m X) (k * 2)
    rw [evs_0, show k * 2 * 2 = k * 4 by omega] at h
    exact h
  have a2 : fl (evs m X) (k * 4 + 1 + 1) = endT m X k := by
    have h := fl_0 (evs m X) (k * 2 + 1)
    rw [evs_1, show (k * 2 + 1) * 2 = k * 4 + 1 + 1 by omega] at h
    exact h
  have a3 : fl (evs m X) (k * 4 + 1 + 1 + 1) = - X (k * 4 + 3) := by
    have h := fl_1 (evs m X) (k * 2 + 1)
    rw [evs_1, show (k * 2 + 1) * 2 = k * 4 + 1 + 1 by omega] at h
    exact h
  unfold evC
  rw [show (k + 1) * 4 = k * 4 + 1 + 1 + 1 + 1 by omega]
  rw [List.range_succ, List.range_succ, List.range_succ, List.range_succ]
  simp only [List.map_append, List.map_cons, List.map_nil, List.append_assoc, List.cons_append, List.nil_append]
  rw [a0, a1, a2, a3]
theorem owns_below {w w' : World} {B n size : Nat} {E : TypeId} {v : Value} {xs : List Value} (h : w.ownsRow B E size v n xs) (hb : Below w.heap.size w w') : w'.ownsRow B E size v n xs := by
  rcases h with ⟨hl, ⟨rfl, h0⟩ | ⟨g, cap, cur, rfl, hB, hh, hrest⟩⟩
  · exact ⟨hl, .inl ⟨rfl, h0⟩⟩
  · exact ⟨hl, .inr ⟨g, cap, cur, rfl, hB, (hb.block g (Array.getElem?_eq_some_iff.1 hh).1).trans hh, hrest⟩⟩
theorem own_of_cur {w : World} {g n : Nat} {E : TypeId} {cur : Array Value} {V : Nat → Int} (hb : w.heap[g]? = some (.cells cur E (0, 0))) (hn : n ≤ cur.size) (ht : cur.toList.take n = (List.range n).map fun j => .int .i64 (V j)) : mem.Own w g E n V :=
  ⟨cur, hb, hn, fun i hi => by
    have e1 : cur[i]? = cur.toList[i]? := by simp
    have e2 : cur.toList[i]? = (cur.toList.take n)[i]? := by rw [List.getElem?_take_of_lt hi]
    rw [e1, e2, ht, List.getElem?_map, List.getElem?_range hi]
    rfl⟩
theorem ag_of {w : World} {B p m n : Nat} {v : Value} {X : Nat → Int} (hp : Boxed w p 141 v) (ho : w.ownsRow B 136 2 v (n * 2) (evC m X (n * 4))) :
    (n = 0 ∧ v = .slice none 0 0) ∨ ∃ g cap, B ≤ g ∧ Ag w p g (n * 2) cap (evs m X) := by
  rcases ho.2 with ⟨rfl, h0⟩ | ⟨g, cap, cur, rfl, hB, hb, hc, hm, hs, ht⟩
  · exact .inl ⟨by omega, rfl⟩
  · refine .inr ⟨g, cap, hB, hp.cell, hp.frozen, hc, hm, hp.lt, ?_, own_of_cur hb (by rw [hs]; exact Nat.mul_le_mul_right _ hc) (by rw [ht]; unfold evC; rw [show n * 2 * 2 = n * 4 by omega])⟩
    intro e
    subst e
    have := (show w.heap[g]? = _ from hp).symm.trans hb
    simp at this
theorem Only.below {w w' : World} {p g B : Nat} (h : Only w w' p g) (hp : B ≤ p) (hg : B ≤ g) (hB : B ≤ w.heap.size) : Below B w w' := ⟨h.os, h.tape, h.output, h.size, fun k hk => h.block k (by omega) (by omega) (by omega)⟩

theorem init_0 (p : Nat) (w : World) (h : w.cell? ⟨p, 0, none⟩ = some (.slice none 0 0)) :
    Calls Try.prog 124 #[.iface 143 (.pointer (some ⟨p, 0, none⟩))] w fun e w' => (∃ v, e = .returned v) ∧ w' = w := by
  have ML := m_len p _ w h
  go_enter Try.func124, Try.ntmps124
  go_wp2_with fail
  refine (len_v _ 0 0 _).mono ?_
  rintro e w' ⟨rfl, rfl⟩
  go_wp2_with fail
  go_loopw [3] (fun s wr => s = .int .i64 (-1) ∧ wr = w) (fun s _ => 0)
  case atStart => exact ⟨rfl, rfl⟩
  case round =>
    obtain ⟨rfl, rfl⟩ := hrel
    go_wp2
    go_end0
    exact ⟨⟨_, rfl⟩, rfl⟩

/-- the events of batches are in a heap of the call's own -/
def Events (m n : Nat) (X : Nat → Int) (w : World) (e : Ending) (w' : World) : Prop :=
  ∃ p, e = .returned (.iface 143 (.pointer (some ⟨p, 0, none⟩))) ∧ w.heap.size ≤ p ∧ Below w.heap.size w w' ∧
    ((n = 0 ∧ w'.cell? ⟨p, 0, none⟩ = some (.slice none 0 0)) ∨ (0 < n ∧ ∃ g cap a, w.heap.size ≤ g ∧ Ag w' p g (n * 2) cap a ∧ Sim (n * 2) (evs m X) a ∧ Heap a 0 (n * 2)))

set_option maxHeartbeats 4000000 in
set_option maxRecDepth 100000 in
theorem events0_c (A : Option Addr) (n c : Nat) (X : Nat → Int) (w : World) (hn : n ≤ 10) (hr : Sl w A n 4 X) (hv : allT X n = true) :
    Calls Try.prog 118 #[.slice A n c, .func (.func 90) #[] #[]] w (Events 0 n X w) := by
  have HR := Lib.hid hr
  have HV := Lib.hid hv
  clear hr hv
  obtain ⟨i0, hi0, hz0, hz1, hz2⟩ := info_parts info_event
  go_enter Try.func118, Try.ntmps118
  go_wp2_with fail
  go_loopw [11] (fun s wr => ∃ k : Nat, k ≤ n ∧ s = .int .i64 k ∧ ∃ v, Boxed wr w.heap.size 141 v ∧ wr.ownsRow w.heap.size 136 2 v (k * 2) (evC 0 X (k * 4)) ∧ (k = 0 → v = .slice none 0 0) ∧ Below w.heap.size w wr) (fun s _ => n - (intOf s).toNat)
  case atStart => exact ⟨0, by omega, rfl, _, Boxed.new w _ _, ⟨rfl, .inl ⟨rfl, rfl⟩⟩, fun _ => rfl, by go_grown⟩
  case round =>
    obtain ⟨k, hk, rfl, v, hbx, hown, hv0, hd⟩ := hrel
    have hzz := hd.size
    have HD := Lib.hid hd
    have HX := Lib.hid hbx
    have HO := Lib.hid hown
    clear hd hbx hown
    by_cases hlt : k < n
    · have hlt' : (k : Int) < (n : Int) := by omega
      have hk0 : (0 : Int) ≤ (k : Int) := by omega
      obtain ⟨b, o, rfl, hb, hX⟩ := HR.out (by omega)
      have p0 := hX.below HD.out hb (k * 4) (by omega)
      have p1 := hX.below HD.out hb (k * 4 + 1) (by omega)
      have p2 := hX.below HD.out hb (k * 4 + 2) (by omega)
      have p3 := hX.below HD.out hb (k * 4 + 3) (by omega)
      simp only [← Nat.add_assoc] at p1 p2 p3
      clear hX
      obtain ⟨v1, v2, v3, v4, v5, v6, v7, v8⟩ := allT_bd HV.out hlt
      go_wp2_with fail
      refine (stretch0_i (X (k * 4)) (X (k * 4 + 1)) (X (k * 4 + 2)) (X (k * 4 + 3)) _ v1 v2 v3 v4).mono ?_
      rintro e w2 ⟨rfl, hb2⟩
      have zz2 := hb2.size
      simp only [World.size_alloc] at zz2
      have g2 : Below wr.heap.size wr w2 := Below.trans (by go_grown) (hb2.mono (by simp <;> omega))
      have HX2 := Lib.hid (show Boxed w2 w.heap.size 141 v from (g2.block _ (HX.out.lt)).trans HX.out)
      have HO2 := Lib.hid (owns_below HO.out g2)
      have G2 := Lib.hid (HD.out.trans (g2.mono hzz))
      have hc := HX2.out.cell
      have hf := HX2.out.frozen
      have hxl := HX2.out.lt
      clear hb2 g2 p0 p1 p2 p3
      have hl1 : k * 2 + 2 ≤ maxLen := by unfold maxLen; omega
      have hl2 : (k * 2 + 2) * 16 ≤ 140737488355328 := by omega
      go_wp2_with (at_builtin; refine wpList_append_own _ rfl _ _ 141 rfl w.heap.size 136 i0 _ 2 16 Try.underlying141 hi0 hz0 hz1 hz2 rfl (by decide) _ _ _ rfl ((HO2.out.alloc _).alloc _) ⟨w2.heap.size + 1, 0, none⟩ 2 2 [.int .i64 (X (k * 4)), .int .i64 (X (k * 4 + 3)), .int .i64 (X (k * 4) + X (k * 4 + 1)), .int .i64 (- X (k * 4 + 3))] rfl rfl ?c1 ?c2 hl1 hl2 ?c5 ?_)
      case c1 => intro j u hj; rcases j with _ | _ | _ | _ | j <;> simp at hj <;> subst hj <;> go_simp
      case c2 => intro u hu; simp at hu; rcases hu with rfl | rfl | rfl | rfl <;> rfl
      case c5 => simp; omega
      intro v' w5 hown5 hgrow5 _
      obtain ⟨g', cap', rfl⟩ := ownsRow_succ hown5
      obtain ⟨q1, q2, q3, q4, q5⟩ := (HX2.out.alloc _).appended (by decide) (HO2.out.alloc _) (by simp; omega) (Nat.le_refl _) hown5 hgrow5
      have hc5 := q1.cell
      have hf5 := q1.frozen
      have Q2 := Lib.hid q2
      have Q3 := Lib.hid q3
      have Q5 := Lib.hid (Below.trans (Below.alloc G2.out (by omega) _) q5)
      clear hown5 hgrow5 q1 q2 q3 q4 q5
      go_wp2
      go_roundw
      case rel => exact ⟨k + 1, by omega, by go_num, _, Q2.out, by rw [evC_more, show fstT 0 X k = X (k * 4) by simp [fstT], show endT 0 X k = X (k * 4) + X (k * 4 + 1) by simp [endT], show (k + 1) * 2 = k * 2 + 2 by omega]; exact Q3.out, by omega, Q5.out⟩
      case measure => simp [intOf]; omega
    · obtain rfl : k = n := by omega
      by_cases k0 : 0 < k
      · rcases ag_of HX.out HO.out with ⟨h, _⟩ | ⟨g, cap, hg, hag⟩
        · omega
        have HG := Lib.hid hag
        clear hag hv0
        go_wp2_with fail
        refine (init_c _ _ _ _ _ _ HG.out (by omega)).mono ?_
        rintro e w2 ⟨⟨v, rfl⟩, a, ha, hs, hh, hon⟩
        have RR := Lib.hid (show w.heap.size ≤ w.heap.size ∧ Below w.heap.size w w2 ∧ Ag w2 w.heap.size g (k * 2) cap a ∧ Sim (k * 2) (evs 0 X) a ∧ Heap a 0 (k * 2) from ⟨Nat.le_refl _, HD.out.trans (hon.below (Nat.le_refl _) hg hzz), ha, hs, hh⟩)
        clear ha hs hh hon
        go_wp2
        go_ret
        exact ⟨_, rfl, RR.out.1, RR.out.2.1, .inr ⟨k0, g, cap, a, hg, RR.out.2.2⟩⟩
      · obtain rfl : k = 0 := by omega
        obtain rfl := hv0 rfl
        have hc := HX.out.cell
        go_wp2_with fail
        refine (init_0 _ _ hc).mono ?_
        rintro e w2 ⟨⟨v, rfl⟩, rfl⟩
        go_wp2
        go_ret
        exact ⟨_, rfl, Nat.le_refl _, HD.out, .inl ⟨rfl, hc⟩⟩

set_option maxHeartbeats 4000000 in
set_option maxRecDepth 100000 in
theorem events1_c (A : Option Addr) (n c : Nat) (X : Nat → Int) (w : World) (hn : n ≤ 10) (hr : Sl w A n 4 X) (hv : allT X n = true) :
    Calls Try.prog 118 #[.slice A n c, .func (.func 92) #[] #[]] w (Events 1 n X w) := by
  have HR := Lib.hid hr
  have HV := Lib.hid hv
  clear hr hv
  obtain ⟨i0, hi0, hz0, hz1, hz2⟩ := info_parts info_event
  go_enter Try.func118, Try.ntmps118
  go_wp2_with fail
  go_loopw [11] (fun s wr => ∃ k : Nat, k ≤ n ∧ s = .int .i64 k ∧ ∃ v, Boxed wr w.heap.size 141 v ∧ wr.ownsRow w.heap.size 136 2 v (k * 2) (evC 1 X (k * 4)) ∧ (k = 0 → v = .slice none 0 0) ∧ Below w.heap.size w wr) (fun s _ => n - (intOf s).toNat)
  case atStart => exact ⟨0, by omega, rfl, _, Boxed.new w _ _, ⟨rfl, .inl ⟨rfl, rfl⟩⟩, fun _ => rfl, by go_grown⟩
  case round =>
    obtain ⟨k, hk, rfl, v, hbx, hown, hv0, hd⟩ := hrel
    have hzz := hd.size
    have HD := Lib.hid hd
    have HX := Lib.hid hbx
    have HO := Lib.hid hown
    clear hd hbx hown
    by_cases hlt : k < n
    · have hlt' : (k : Int) < (n : Int) := by omega
      have hk0 : (0 : Int) ≤ (k : Int) := by omega
      obtain ⟨b, o, rfl, hb, hX⟩ := HR.out (by omega)
      have p0 := hX.below HD.out hb (k * 4) (by omega)
      have p1 := hX.below HD.out hb (k * 4 + 1) (by omega)
      have p2 := hX.below HD.out hb (k * 4 + 2) (by omega)
      have p3 := hX.below HD.out hb (k * 4 + 3) (by omega)
      simp only [← Nat.add_assoc] at p1 p2 p3
      clear hX
      obtain ⟨v1, v2, v3, v4, v5, v6, v7, v8⟩ := allT_bd HV.out hlt
      go_wp2_with fail
      refine (stretch1_i (X (k * 4)) (X (k * 4 + 1)) (X (k * 4 + 2)) (X (k * 4 + 3)) _ v1 v2 v3 v4 v5 v6).mono ?_
      rintro e w2 ⟨rfl, hb2⟩
      have zz2 := hb2.size
      simp only [World.size_alloc] at zz2
      have g2 : Below wr.heap.size wr w2 := Below.trans (by go_grown) (hb2.mono (by simp <;> omega))
      have HX2 := Lib.hid (show Boxed w2 w.heap.size 141 v from (g2.block _ (HX.out.lt)).trans HX.out)
      have HO2 := Lib.hid (owns_below HO.out g2)
      have G2 := Lib.hid (HD.out.trans (g2.mono hzz))
      have hc := HX2.out.cell
      have hf := HX2.out.frozen
      have hxl := HX2.out.lt
      clear hb2 g2 p0 p1 p2 p3
      have hl1 : k * 2 + 2 ≤ maxLen := by unfold maxLen; omega
      have hl2 : (k * 2 + 2) * 16 ≤ 140737488355328 := by omega
      go_wp2_with (at_builtin; refine wpList_append_own _ rfl _ _ 141 rfl w.heap.size 136 i0 _ 2 16 Try.underlying141 hi0 hz0 hz1 hz2 rfl (by decide) _ _ _ rfl ((HO2.out.alloc _).alloc _) ⟨w2.heap.size + 1, 0, none⟩ 2 2 [.int .i64 (X (k * 4) + X (k * 4 + 1)), .int .i64 (X (k * 4 + 3)), .int .i64 (X (k * 4) + X (k * 4 + 1) + X (k * 4 + 2)), .int .i64 (- X (k * 4 + 3))] rfl rfl ?c1 ?c2 hl1 hl2 ?c5 ?_)
      case c1 => intro j u hj; rcases j with _ | _ | _ | _ | j <;> simp at hj <;> subst hj <;> go_simp
      case c2 => intro u hu; simp at hu; rcases hu with rfl | rfl | rfl | rfl <;> rfl
      case c5 => simp; omega
      intro v' w5 hown5 hgrow5 _
      obtain ⟨g', cap', rfl⟩ := ownsRow_succ hown5
      obtain ⟨q1, q2, q3, q4, q5⟩ := (HX2.out.alloc _).appended (by decide) (HO2.out.alloc _) (by simp; omega) (Nat.le_refl _) hown5 hgrow5
      have hc5 := q1.cell
      have hf5 := q1.frozen
      have Q2 := Lib.hid q2
      have Q3 := Lib.hid q3
      have Q5 := Lib.hid (Below.trans (Below.alloc G2.out (by omega) _) q5)
      clear hown5 hgrow5 q1 q2 q3 q4 q5
      go_wp2
      go_roundw
      case rel => exact ⟨k + 1, by omega, by go_num, _, Q2.out, by rw [evC_more, show fstT 1 X k = X (k * 4) + X (k * 4 + 1) by simp [fstT], show endT 1 X k = X (k * 4) + X (k * 4 + 1) + X (k * 4 + 2) by simp [endT], show (k + 1) * 2 = k * 2 + 2 by omega]; exact Q3.out, by omega, Q5.out⟩
      case measure => simp [intOf]; omega
    · obtain rfl : k = n := by omega
      by_cases k0 : 0 < k
      · rcases ag_of HX.out HO.out with ⟨h, _⟩ | ⟨g, cap, hg, hag⟩
        · omega
        have HG := Lib.hid hag
        clear hag hv0
        go_wp2_with fail
        refine (init_c _ _ _ _ _ _ HG.out (by omega)).mono ?_
        rintro e w2 ⟨⟨v, rfl⟩, a, ha, hs, hh, hon⟩
        have RR := Lib.hid (show w.heap.size ≤ w.heap.size ∧ Below w.heap.size w w2 ∧ Ag w2 w.heap.size g (k * 2) cap a ∧ Sim (k * 2) (evs 1 X) a ∧ Heap a 0 (k * 2) from ⟨Nat.le_refl _, HD.out.trans (hon.below (Nat.le_refl _) hg hzz), ha, hs, hh⟩)
        clear ha hs hh hon
        go_wp2
        go_ret
        exact ⟨_, rfl, RR.out.1, RR.out.2.1, .inr ⟨k0, g, cap, a, hg, RR.out.2.2⟩⟩
      · obtain rfl : k = 0 := by omega
        obtain rfl := hv0 rfl
        have hc := HX.out.cell
        go_wp2_with fail
        refine (init_0 _ _ hc).mono ?_
        rintro e w2 ⟨⟨v, rfl⟩, rfl⟩
        go_wp2
        go_ret
        exact ⟨_, rfl, Nat.le_refl _, HD.out, .inl ⟨rfl, hc⟩⟩

end Go.Proofs.Ytcpaenmhnoagdac.ag
