/-
  Contracts of SoundStakes, of the model and of the program; slices.Collect over the program's iterator.
-/
import Derived.Test.YtbmdggcfoohmgaaDoorSn
import Derived.RangeFuncFrom
import Derived.RangeFuncBox
import Derived.Maps.AppendAt
namespace Go.Proofs.YtbmdggcfoohmgaaDoor.sn
open Go.ChangeShapes Go.WideShapes Go.ChangeAt Go.RowKit
open Go.Proofs.YtbmdggcfoohmgaaDoor.mem Go.Proofs.YtbmdggcfoohmgaaDoor.rod Go.Proofs.YtbmdggcfoohmgaaDoor.wv Go.Proofs.YtbmdggcfoohmgaaDoor.wk Go.Proofs.YtbmdggcfoohmgaaDoor.rf Go.Proofs.YtbmdggcfoohmgaaDoor.rk Go.Proofs.YtbmdggcfoohmgaaDoor.nums
set_option linter.unusedVariables false
attribute [local go_sem] Oper.semAt_some wide_fn wide_depth wideR_fn wideR_depth

/-- with which number of stakes a weave is sound -/
def sndQ (f : Nat → Int) (n fl : Nat) (k : Nat) : Bool := decide (3 ≤ k) && soundB f n k fl
theorem sndQ_at {f : Nat → Int} {n fl k : Nat} (h : 3 ≤ k) : sndQ f n fl k = soundB f n k fl := by unfold sndQ; rw [decide_eq_true h, Bool.true_and]
theorem sndQ_3 (f : Nat → Int) (n fl : Nat) : idxs (sndQ f n fl) 3 = [] := by
  rw [idxs_no (show sndQ f n fl 2 = false by simp [sndQ]), idxs_no (show sndQ f n fl 1 = false by simp [sndQ]), idxs_no (show sndQ f n fl 0 = false by simp [sndQ])]
  rfl
theorem grown_of {A B : World} (h : Below A.heap.size A B) : A.grownBy B none := ⟨by rw [h.os], by rw [h.tape], by rw [h.output], h.size, fun i hi _ => h.block i hi⟩

set_option maxHeartbeats 8000000 in
set_option maxRecDepth 100000 in
theorem sound_itK (s : ByteArray) (fl hi bl bh bs bf n₀ N : Nat) (w : World) (hst : strokeB s = true) (hh3 : 3 ≤ hi) (hh : hi ≤ 60) (hf : fl ≤ 12) (hcap : Cap bl bh bs bf s fl 3 hi w) (hn : n₀ ≤ w.heap.size) (k1 : bl < n₀) (k2 : bh < n₀) (k3 : bs < n₀) (k4 : bf < n₀) :
    SeqStopsK Fence.wide N Tryd.prog 135 #[.pointer (some ⟨bl, 0, none⟩), .pointer (some ⟨bh, 0, none⟩), .pointer (some ⟨bs, 0, none⟩), .pointer (some ⟨bf, 0, none⟩)] (fun x : Int => #[Value.int .i64 x]) (Below n₀) (fun ys => ys = idxs (sndQ (byteAt s) s.size fl) (hi + 1)) (fun _ => True) 61 w := by
  intro l J Jx W hW hJ hJx hY h0
  have hcW := hcap.below (hW.mono hn) k1 k2 k3 k4
  have c1 := hcW.1
  have HC0 := Lib.hid hcW
  have HJ := Lib.hid hJ
  have HY := Lib.hid hY
  have zW := hW.size
  have H0 := Lib.hid (show J (idxs (sndQ (byteAt s) s.size fl) 3) W by rw [sndQ_3]; exact h0)
  have HS := Lib.hid hst
  clear hcap hcW hJ hJx hY h0 hst
  refine callsIn_of_wp Tryd.func135 rfl trivial ?_ rfl
  simp only [Tryd.ntmps135, List.size_toArray, List.length_cons, List.length_nil, Nat.reduceAdd, Nat.reduceSub, Array.replicate_succ, Array.replicate_zero, List.push_toArray, List.append_toArray, List.nil_append, List.cons_append]
  gi_wp2_with fail
  gi_loopw [6] (fun v wr => ∃ k : Nat, v = .int .i64 (k : Int) ∧ 3 ≤ k ∧ k ≤ hi + 1 ∧ Hid (J (idxs (sndQ (byteAt s) s.size fl) k) wr) ∧ Hid (Cap bl bh bs bf s fl 3 hi wr) ∧ n₀ ≤ wr.heap.size) (fun v _ => 61 - (intOf v).toNat)
  case atStart => exact ⟨3, rfl, Nat.le_refl _, by omega, H0, HC0, by omega⟩
  case round =>
    obtain ⟨k, rfl, hs2, hs3, hj, HC, hsz⟩ := hrel
    have hcp := HC.out
    have q2 := hcp.2.1
    have q3 := hcp.2.2.1
    have q4 := hcp.2.2.2
    clear hcp
    have l2 : bh < wr.heap.size := by omega
    have l3 : bs < wr.heap.size := by omega
    have l4 : bf < wr.heap.size := by omega
    by_cases hlt : k ≤ hi
    · have hlt' : (k : Int) ≤ (hi : Int) := by omega
      have HI := Lib.hid (fun W => isSoundW_i s k fl W HS.out (by omega) (by omega) hf)
      cases hsd : soundB (byteAt s) s.size k fl
      · rw [hsd] at HI
        have HN := Lib.hid (idxs_no (show sndQ (byteAt s) s.size fl k = false by rw [sndQ_at hs2]; exact hsd))
        clear hsd
        gi_wp2_with (gi_at_call 121; refine ((callsIn_wide (n := _)).2 (HI.out _)).mono ?_; rintro e w2 ⟨rfl, hb⟩; have z2 := hb.size; simp at z2; have g2 : Below wr.heap.size wr w2 := Below.trans ((Below.refl _ _).alloc (Nat.le_refl _) _) (hb.mono (by simp)); have J2 := Lib.hid (HJ.out _ wr w2 none hj.out (grown_of g2) (fun r e => by cases e)); have C2 := Lib.hid (HC.out.below (g2.mono hsz) k1 k2 k3 k4); clear hb g2)
        go_roundw
        case rel => exact ⟨k + 1, by go_num, by omega, by omega, by rw [HN.out]; exact J2, C2, by omega⟩
        case measure => simp [intOf]; omega
      · rw [hsd] at HI
        have HN := Lib.hid (idxs_yes (show sndQ (byteAt s) s.size fl k = true by rw [sndQ_at hs2]; exact hsd))
        have HLEN := Lib.hid (idxs_len (sndQ (byteAt s) s.size fl) k)
        clear hsd
        gi_wp2_with (gi_at_call 121; refine ((callsIn_wide (n := _)).2 (HI.out _)).mono ?_; rintro e w2 ⟨rfl, hb⟩; have z2 := hb.size; simp at z2; have g2 : Below wr.heap.size wr w2 := Below.trans ((Below.refl _ _).alloc (Nat.le_refl _) _) (hb.mono (by simp)); have J2 := Lib.hid (HJ.out _ wr w2 none hj.out (grown_of g2) (fun r e => by cases e)); have C2 := Lib.hid (HC.out.below (g2.mono hsz) k1 k2 k3 k4); clear hb g2; obtain ⟨fn, tmps, assign, body, hy, hR⟩ := HY.out _ (k : Int) w2 J2.out (by have := HLEN.out; omega); (try dsimp only at hy))
        refine hR.mono ?_
        rintro e w5 (⟨rfl, hJ5, hk5⟩ | ⟨rfl, hJx5⟩)
        · have J5 := Lib.hid hJ5
          have s5 := hk5.size
          have C5 := Lib.hid (C2.out.below hk5 k1 k2 k3 k4)
          clear hJ5 hk5
          gi_wp2
          go_roundw
          case rel => exact ⟨k + 1, by go_num, by omega, by omega, by rw [HN.out]; exact J5, C5, by omega⟩
          case measure => simp [intOf]; omega
        · gi_wp2
          refine bodyPost_ret (results_none rfl _ _ _) rfl ?_
          exact ⟨⟨_, rfl⟩, .inr ⟨_, trivial, hJx5⟩⟩
    · obtain rfl : k = hi + 1 := by omega
      have hlt' : ¬ ((hi + 1 : Nat) : Int) ≤ (hi : Int) := by omega
      gi_wp2
      go_end0
      exact ⟨⟨_, rfl⟩, .inl hj.out⟩

set_option maxRecDepth 100000 in
set_option maxHeartbeats 4000000 in
theorem appendSeq_c (s : ByteArray) (fl hi bl bh bs bf : Nat) (w : World) (hst : strokeB s = true) (hh3 : 3 ≤ hi) (hh : hi ≤ 60) (hf : fl ≤ 12) (hcap : Cap bl bh bs bf s fl 3 hi w) (k1 : bl < w.heap.size) (k2 : bh < w.heap.size) (k3 : bs < w.heap.size) (k4 : bf < w.heap.size) :
    Calls Tryd.prog 134 #[.slice none 0 0, .func (.func 135) #[] #[.pointer (some ⟨bl, 0, none⟩), .pointer (some ⟨bh, 0, none⟩), .pointer (some ⟨bs, 0, none⟩), .pointer (some ⟨bf, 0, none⟩)]] w fun e w' =>
      ∃ v, e = .returned v ∧ w'.ownsRow w.heap.size 2 1 v (idxs (sndQ (byteAt s) s.size fl) (hi + 1)).length ((idxs (sndQ (byteAt s) s.size fl) (hi + 1)).map (Value.int .i64)) ∧ Below w.heap.size w w' := by
  obtain ⟨i0, hi0, hz0, hz1, hz2⟩ := info_parts info_num
  refine (callsIn_wide (n := 6)).1 (callsIn_of_wp_marks Tryd.func134 rfl trivial ?_ rfl)
  simp only [Tryd.ntmps134, List.size_toArray, List.length_cons, List.length_nil, Nat.reduceAdd, Nat.reduceSub, Array.replicate_succ, Array.replicate_zero, List.push_toArray, List.append_toArray, List.nil_append, List.cons_append]
  gi_wp2
  have bO := Boxed.new w 26 (.slice none 0 0)
  have hB0 : Below w.heap.size w (w.alloc (.cells #[.slice none 0 0] 26)) := (Below.refl _ w).alloc (Nat.le_refl _) _
  refine wpIn_rangeFunc_ownF rfl (by omega) (gf := 135) (lb := #[.pointer (some ⟨bl, 0, none⟩), .pointer (some ⟨bh, 0, none⟩), .pointer (some ⟨bs, 0, none⟩), .pointer (some ⟨bf, 0, none⟩)]) rfl trivial (Go.Proofs.enters_of Tryd.func135 (by kernel_rfl) rfl)
    (sound_itK s fl hi bl bh bs bf w.heap.size _ _ hst hh3 hh hf (hcap.below hB0 k1 k2 k3 k4) (by simp) k1 k2 k3 k4) belowK_t (belowK_b (by simp)) (Below.refl _ _) (fun _ => rfl)
    (fun pre W => (∃ v, Boxed W w.heap.size 26 v ∧ W.ownsRow w.heap.size 2 1 v pre.length (pre.map (Value.int .i64)) ∧ True) ∧ Below w.heap.size w W)
    (fun _ _ _ => False)
    (OwnFrom.and (Own.from (holdsRow_own w.heap.size w.heap.size 26 2 1 (fun pre : List Int => pre.length) (fun pre => pre.map (Value.int .i64)) (fun pre v => True)) _) (ownFrom_below (Nat.le_refl _) (by simp)))
    (fun _ _ _ _ _ hs _ _ => hs)
    ⟨⟨_, bO, World.ownsRow_nil _ _ _ _, trivial⟩, hB0⟩
    (fun x => { tmps := #[.slice none 0 0, .func (.func 135) #[] #[.pointer (some ⟨bl, 0, none⟩), .pointer (some ⟨bh, 0, none⟩), .pointer (some ⟨bs, 0, none⟩), .pointer (some ⟨bf, 0, none⟩)], .pointer (some ⟨w.heap.size, 0, none⟩), undef, .slice none 0 0, .int .i64 x, .func (.func 135) #[] #[.pointer (some ⟨bl, 0, none⟩), .pointer (some ⟨bh, 0, none⟩), .pointer (some ⟨bs, 0, none⟩), .pointer (some ⟨bf, 0, none⟩)], .int .i64 x, undef, undef, undef, undef, undef], defers := [] }) ?assign ?body ?done ?stop
  case assign =>
    intro l x W K hK
    gi_wp2
    exact hK
  case body =>
    rintro l pre x W ⟨⟨v, hv, hrow, hT⟩, hB⟩ hlt
    have hc := hv.cell
    have hl1 : pre.length + 1 ≤ maxLen := by unfold maxLen; omega
    gi_wp2_with (gi_at_builtin; refine wpListIn_append_own _ rfl _ _ 26 rfl w.heap.size 2 i0 (.int .i64 0) 1 8 Tryd.underlying26 hi0 hz0 hz1 hz2 rfl (by decide) _ _ _ rfl (hrow.alloc _) ⟨W.heap.size, 0, none⟩ 1 1 [.int .i64 x] rfl rfl (cell_one_new _ _ _) (by simp [Value.oneCell']) hl1 (by omega) (by have := hB.size; simp; omega) ?_; intro v' w1 hown' hgrow _; obtain ⟨g', cap', rfl⟩ := ownsRow_succ hown'; obtain ⟨hv1, hv2, hr2, hk2, hb2⟩ := hv.appended (by decide) hrow hB.size (Nat.le_refl _) hown' hgrow; have hc1 := hv1.cell; have hf1 := hv1.frozen)
    exact ⟨hk2, hb2, ⟨_, hv2, by simpa using hr2, trivial⟩, hB.trans hb2⟩
  case done =>
    rintro D ys W hD rfl ⟨⟨v, hv, hrow, hT⟩, hB⟩ hK
    have hc := hv.cell
    gi_wp2
    refine ⟨by simp, .inl ⟨_, _, rfl, run_takeDeferred hK, ?_⟩⟩
    exact ⟨_, results_tmp rfl _ _ _, v, rfl, ownsRow_putObj hrow _ hK rfl, hB.trans (belowK_b (w := w) (Nat.le_refl _) W D _ _ (by simp at hD; omega) hK rfl rfl)⟩
  case stop =>
    rintro D c pre W _ _ h _
    exact h.elim

end Go.Proofs.YtbmdggcfoohmgaaDoor.sn
