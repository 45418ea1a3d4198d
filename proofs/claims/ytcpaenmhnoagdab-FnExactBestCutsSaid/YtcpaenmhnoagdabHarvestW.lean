/-
  The way back over the years: contracts of the program's.
-/
import Derived.Test.YtcpaenmhnoagdabHarvest
import Derived.Test.YtcpaenmhnoagdabChoice
import Derived.Test.YtcpaenmhnoagdabOwnV
import Derived.Test.YtcpaenmhnoagdabBedY
import Derived.Deep.CutRange
import Derived.Deep.RegionWith
namespace Go.Proofs.Ytcpaenmhnoagdab.rod
open Go.ChangeShapes Go.WideShapes Go.ChangeAt Go.RowKit Go.Proofs.Ytcpaenmhnoagdab.mem Go.Proofs.Ytcpaenmhnoagdab.nums
set_option linter.unusedVariables false

theorem befB_more {n p q : Nat} (hp : p < 2 ^ n) (hq : q < 2 ^ n) (hn : n ≤ 16) : befB 16 p q = befB n p q := by
  unfold befB
  rw [idxs_more p.testBit 16 hn (fun i hi => bit_out hp hi), idxs_more q.testBit 16 hn (fun i hi => bit_out hq hi)]

theorem isBetter_i (s u : Int) (p q : Nat) (w : World) (hp : p < 2 ^ 16) (hq : q < 2 ^ 16) :
    Calls Try.prog 133 #[.agg #[.int .u32 p, .int .i64 s], .agg #[.int .u32 q, .int .i64 u]] w fun e w' => e = .returned (.bool (decide (ky u q < ky s p))) ∧ Below w.heap.size w w' := by
  have hk := ky_iff (s := s) (u := u) hp hq
  have hres : decide (ky u q < ky s p) = (if s = u then befB 16 p q else decide (u < s)) := by
    apply Bool.eq_iff_iff.2
    rw [decide_eq_true_eq, ← hk]
    unfold Btr
    by_cases h : s = u
    · rw [if_pos h, befB_iff hp hq]
      exact ⟨fun k => by rcases k with k | ⟨_, k⟩; exact absurd k (by omega); exact k, fun k => .inr ⟨h, k⟩⟩
    · rw [if_neg h, decide_eq_true_eq]
      exact ⟨fun k => by rcases k with k | ⟨k, _⟩; exact k; exact absurd k h, fun k => .inl k⟩
  rw [hres]
  exact isBetter_c 16 p q s u w (by omega) hp hq

/-- the cells of six sums and sets -/
def hvV (f : Nat → Int × Nat) (i : Nat) : Value := if i % 2 = 0 then .int .u32 (f (i / 2)).2 else .int .i64 (f (i / 2)).1
theorem hvV_0 (f : Nat → Int × Nat) (k : Nat) : hvV f (k * 2) = .int .u32 (f k).2 := by unfold hvV; rw [if_pos (by omega), show k * 2 / 2 = k by omega]
theorem hvV_1 (f : Nat → Int × Nat) (k : Nat) : hvV f (k * 2 + 1) = .int .i64 (f k).1 := by unfold hvV; rw [if_neg (by omega), show (k * 2 + 1) / 2 = k by omega]

theorem hv_sum {m : Nat} {Y : Nat → Int} {N : Nat} (m1 : 1 ≤ m) (hY : ∀ i, i < m → 0 ≤ Y i ∧ Y i ≤ 10000) : ∀ r a, 0 ≤ (hv m Y N r a).1 ∧ (hv m Y N r a).1 ≤ 10000 * r
  | 0, a => by simp [hv]
  | r + 1, a => by
    have h1 := hv_sum m1 hY (N := N) r 1
    have h2 := hv_sum m1 hY (N := N) r (min (a + 1) 5)
    have h3 := yl_bd (t := (a : Int)) m1 hY (by omega)
    by_cases hc : ky (hv m Y N r (min (a + 1) 5)).1 (hv m Y N r (min (a + 1) 5)).2 < ky ((hv m Y N r 1).1 + yl m Y a) ((hv m Y N r 1).2 ||| 2 ^ (N - (r + 1)))
    · rw [hv_cut hc]; exact ⟨by show 0 ≤ (hv m Y N r 1).1 + yl m Y a; omega, by show (hv m Y N r 1).1 + yl m Y a ≤ _; omega⟩
    · rw [hv_no hc]; omega
/-- what lies in memory while the years are gone back: the bed, the place of the answer, and six sums and sets -/
def HSt (s : Nat) (wr : World) (A : Option Addr) (m c : Nat) (a : Int) (f : Nat → Int × Nat) : Prop :=
  wr.cell? ⟨s, 0, none⟩ = some (.slice A m c) ∧ wr.cell? ⟨s, 1, none⟩ = some (.int .i64 a) ∧ OwnV wr (s + 1) 115 2 (hvV fun _ => (0, 0)) ∧ OwnV wr (s + 1 + 1) 154 12 (hvV f)
theorem HSt.below {s : Nat} {wr wx : World} {A : Option Addr} {m c : Nat} {a : Int} {f : Nat → Int × Nat} {K : Nat} (h : HSt s wr A m c a f) (hb : Below K wr wx) (hK : s + 1 + 1 < K) : HSt s wx A m c a f :=
  ⟨(hb.cell (p := ⟨s, 0, none⟩) (show s < K by omega)).trans h.1, (hb.cell (p := ⟨s, 1, none⟩) (show s < K by omega)).trans h.2.1, h.2.2.1.below hb (by omega), h.2.2.2.below hb hK⟩

theorem own_zero12 (w : World) (T : TypeId) (f : Nat → Int × Nat) (hf : ∀ i, f i = (0, 0)) : OwnV (w.alloc (Obj.cells #[Value.int IntKind.u32 0, Value.int IntKind.i64 0, Value.int IntKind.u32 0, Value.int IntKind.i64 0, Value.int IntKind.u32 0, Value.int IntKind.i64 0, Value.int IntKind.u32 0, Value.int IntKind.i64 0, Value.int IntKind.u32 0, Value.int IntKind.i64 0, Value.int IntKind.u32 0, Value.int IntKind.i64 0] T)) w.heap.size T 12 (hvV f) := by
  refine ⟨_, Go.Deep.blk_alloc_new _ _, by decide, fun i hi => ?_⟩
  unfold hvV
  rw [hf]
  match i, hi with
  | 0, _ => rfl
  | 1, _ => rfl
  | 2, _ => rfl
  | 3, _ => rfl
  | 4, _ => rfl
  | 5, _ => rfl
  | 6, _ => rfl
  | 7, _ => rfl
  | 8, _ => rfl
  | 9, _ => rfl
  | 10, _ => rfl
  | 11, _ => rfl
theorem own_zero2 (w : World) (T : TypeId) : OwnV (w.alloc (Obj.cells #[Value.int IntKind.u32 0, Value.int IntKind.i64 0] T)) w.heap.size T 2 (hvV fun _ => (0, 0)) := by
  refine ⟨_, Go.Deep.blk_alloc_new _ _, by decide, fun i hi => ?_⟩
  match i, hi with
  | 0, _ => rfl
  | 1, _ => rfl
theorem ownV_alloc {w : World} {g n : Nat} {E : TypeId} {V : Nat → Value} (h : OwnV w g E n V) (o : Obj) : OwnV (w.alloc o) g E n V := h.of_block (Go.Deep.blk_alloc_lt _ _ _ h.lt)
/-- a sum and a set put to their place -/
theorem own_put {W : World} {g k : Nat} {T : TypeId} {f : Nat → Int × Nat} {V z : Nat → Value} {s : Int} {p : Nat} (h : OwnV W g T 12 V) (hV : ∀ i, i < 12 → i ≠ k * 2 → i ≠ k * 2 + 1 → V i = if i < k * 2 then hvV f i else z i) (hf : f k = (s, p)) :
    OwnV ((W.setCell ⟨g, k * 2, none⟩ (.int .u32 p)).setCell ⟨g, k * 2 + 1, none⟩ (.int .i64 s)) g T 12 (fun i => if i < (k + 1) * 2 then hvV f i else z i) := by
  refine ((h.set (k * 2) (.int .u32 p)).set (k * 2 + 1) (.int .i64 s)).congr ?_
  intro i hi
  by_cases e1 : i = k * 2 + 1
  · subst e1; rw [if_pos rfl, if_pos (by omega), hvV_1, hf]
  rw [if_neg e1]
  by_cases e0 : i = k * 2
  · subst e0; rw [if_pos rfl, if_pos (by omega), hvV_0, hf]
  rw [if_neg e0, hV i hi e0 e1]
  by_cases e2 : i < k * 2
  · rw [if_pos e2, if_pos (by omega)]
  · rw [if_neg e2, if_neg (by omega)]

set_option maxHeartbeats 4000000 in
theorem harvest_i (A : Option Addr) (m c : Nat) (Y : Nat → Int) (a : Nat) (N : Nat) (w : World) (m1 : 1 ≤ m) (m5 : m ≤ 5) (hY : ∀ i, i < m → 0 ≤ Y i ∧ Y i ≤ 10000) (ha : a ≤ 5) (hN : N ≤ 12) (h : Sl w A m 1 Y) :
    Calls Try.prog 100 #[.agg #[.slice A m c, .int .i64 a], .int .i64 N] w fun e w' => e = .returned (.agg #[.int .u32 (hv m Y N N a).2, .int .i64 (hv m Y N N a).1]) ∧ Below w.heap.size w w' := by
  have HS := Lib.hid h
  have HY := Lib.hid hY
  clear h hY
  go_enter Try.func100, Try.ntmps100
  go_wp2_with fail
  go_loopw [6] (fun s wr => ∃ (r : Nat) (yr : Int), r ≤ N ∧ s = .int .i64 yr ∧ Hid (yr = (N : Int) - 1 - r) ∧ -1 ≤ yr ∧ yr ≤ 11 ∧ Hid (HSt w.heap.size wr A m c a (hv m Y N r)) ∧ Below w.heap.size w wr) (fun s _ => (intOf s + 1).toNat)
  case atStart =>
    refine ⟨0, (N : Int) - 1, by omega, rfl, by simp [Hid], by omega, by omega, ⟨by go_simp, by go_simp, ?_, ?_⟩, by go_grown⟩
    · have h := ownV_alloc (own_zero2 (w.alloc (Obj.cells #[Value.slice A m c, Value.int IntKind.i64 a] 65)) 115) (Obj.cells #[Value.int IntKind.u32 0, Value.int IntKind.i64 0, Value.int IntKind.u32 0, Value.int IntKind.i64 0, Value.int IntKind.u32 0, Value.int IntKind.i64 0, Value.int IntKind.u32 0, Value.int IntKind.i64 0, Value.int IntKind.u32 0, Value.int IntKind.i64 0, Value.int IntKind.u32 0, Value.int IntKind.i64 0] 154)
      rwa [show (w.alloc (Obj.cells #[Value.slice A m c, Value.int IntKind.i64 a] 65)).heap.size = w.heap.size + 1 by simp] at h
    · have h := own_zero12 ((w.alloc (Obj.cells #[Value.slice A m c, Value.int IntKind.i64 a] 65)).alloc (Obj.cells #[Value.int IntKind.u32 0, Value.int IntKind.i64 0] 115)) 154 (hv m Y N 0) (fun _ => rfl)
      rwa [show ((w.alloc (Obj.cells #[Value.slice A m c, Value.int IntKind.i64 a] 65)).alloc (Obj.cells #[Value.int IntKind.u32 0, Value.int IntKind.i64 0] 115)).heap.size = w.heap.size + 1 + 1 by simp] at h
  case round =>
    rename World => wo
    obtain ⟨r, yr, hr, rfl, HYR, y0, y1, HST, hbl⟩ := hrel
    have hzz := hbl.size
    have HBL := Lib.hid hbl
    have hL := HST.out.2.2.2.lt
    clear hbl
    by_cases hyr : 0 ≤ yr
    · obtain ⟨y, rfl⟩ : ∃ y : Nat, yr = y := ⟨yr.toNat, by omega⟩
      have hy : N - (r + 1) = y := by have := HYR.out; omega
      have hr1 : r + 1 ≤ N := by have := HYR.out; omega
      go_wp2_with fail
      go_loopw [16] (fun s wi => ∃ k : Nat, k ≤ 6 ∧ s = .int .i64 k ∧ Hid (HSt w.heap.size wi A m c a (hv m Y N r)) ∧ Hid (OwnV wi wo.heap.size 154 12 (fun i => if i < k * 2 then hvV (hv m Y N (r + 1)) i else hvV (fun _ => (0, 0)) i)) ∧ Below w.heap.size w wi) (fun s _ => 6 - (intOf s).toNat)
      case atStart => exact ⟨0, by omega, rfl, HST.out.below (K := wo.heap.size) (by go_grown) hL, (own_zero12 wo 154 (fun _ => (0, 0)) (fun _ => rfl)).congr (fun i _ => by simp), HBL.out.alloc hzz _⟩
      case round =>
        obtain ⟨k, hk, rfl, HSI, HG, hbi⟩ := hrel
        have hzi := hbi.size
        have HBI := Lib.hid hbi
        have hGl := HG.out.lt
        clear hbi
        by_cases hlt : k < 6
        · have hlt' : (k : Int) < 6 := by omega
          obtain ⟨q0, q1, hOR, hOL⟩ := HSI.out
          have c0 := hOL.cell (j := 1 * 2) (by omega)
          have c1 := hOL.cell (j := 1 * 2 + 1) (by omega)
          rw [hvV_0] at c0
          rw [hvV_1] at c1
          have HOL := Lib.hid hOL
          have HOR := Lib.hid hOR
          have hsum := hv_sum m1 HY.out (N := N) r 1
          have hylb := yl_bd (t := (k : Int)) m1 HY.out (by omega)
          clear hOL hOR
          generalize hs1 : (hv m Y N r 1).1 = s1 at *
          generalize hp1 : (hv m Y N r 1).2 = p1 at *
          have HS1 := Lib.hid hs1
          have HP1 := Lib.hid hp1
          clear hs1 hp1
          have hq2 : ∀ W, Below wr.heap.size wr W → (W.cell? ⟨w.heap.size, 0, none⟩ = some (.slice A m c) ∧ W.cell? ⟨w.heap.size, 1, none⟩ = some (.int .i64 a)) ∧ W.cell? ⟨w.heap.size + 1 + 1, 1 * 2, none⟩ = some (.int .u32 (p1 : Nat)) ∧ W.cell? ⟨w.heap.size + 1 + 1, 1 * 2 + 1, none⟩ = some (.int .i64 s1) := fun W hW =>
            ⟨⟨(hW.cell (p := ⟨w.heap.size, 0, none⟩) (show w.heap.size < wr.heap.size by omega)).trans q0, (hW.cell (p := ⟨w.heap.size, 1, none⟩) (show w.heap.size < wr.heap.size by omega)).trans q1⟩,
             (hW.cell (p := ⟨w.heap.size + 1 + 1, 1 * 2, none⟩) (show w.heap.size + 1 + 1 < wr.heap.size by omega)).trans c0, (hW.cell (p := ⟨w.heap.size + 1 + 1, 1 * 2 + 1, none⟩) (show w.heap.size + 1 + 1 < wr.heap.size by omega)).trans c1⟩
          have HQ := Lib.hid hq2
          have HCY := Lib.hid (fun W (hW : Below wr.heap.size wr W) => yield_i A m c Y (a : Int) (k : Int) W m1 m5 (by omega) (HS.out.below (HBI.out.trans (hW.mono hzi)) (Nat.le_refl _)))
          clear hq2
          generalize hyl : yl m Y (k : Int) = ylk at *
          have HYL := Lib.hid hyl
          clear hyl
          obtain ⟨pw, hpw⟩ : ∃ pw : Nat, 2 ^ y = pw := ⟨_, rfl⟩
          have hpw16 : pw < 2 ^ 16 := by rw [← hpw]; exact Nat.pow_lt_pow_right (by decide) (by omega)
          have hp16 : p1 < 2 ^ 16 := by rw [← HP1.out]; exact Nat.lt_of_lt_of_le (hv_lt (by omega)) (Nat.pow_le_pow_right (by decide) (by omega))
          have hp2 : p1 ||| pw < 2 ^ 16 := Nat.or_lt_two_pow hp16 hpw16
          have hwc : ∀ W, Calls Try.prog 132 #[.agg #[.int .u32 (p1 : Nat), .int .i64 s1], .int .i64 (y : Nat), .int .i64 ylk] W fun e w' => e = .returned (.agg #[.int .u32 ((p1 ||| pw : Nat) : Int), .int .i64 (s1 + ylk)]) ∧ Below W.heap.size W w' := fun W => by
            have h := with_c p1 y s1 ylk W (by omega) (by omega) (by omega) (by omega) (by omega) (by omega)
            rw [hpw] at h
            exact h
          have HWC := Lib.hid hwc
          have HPW := Lib.hid hpw
          clear hpw hwc
          generalize hp2e : p1 ||| pw = p2 at *
          have HP2 := Lib.hid hp2e
          clear hp2e
          go_wp2_with fail
          go_cut [16, 9] from 17 to 41 (fun t pt wx => ∃ cb, t = .int .i64 k ∧ pt = .pointer (some ⟨cb, 0, none⟩) ∧ wx.cell? ⟨cb, 0, none⟩ = some (.int .u32 (p2 : Nat)) ∧ wx.cell? ⟨cb, 1, none⟩ = some (.int .i64 (s1 + ylk)) ∧ wr.heap.size ≤ cb ∧ cb < wx.heap.size ∧ Below wr.heap.size wr wx)
          case first =>
            go_region_held3 (fun q => (q.cell? ⟨w.heap.size, 0, none⟩ = some (.slice A m c) ∧ q.cell? ⟨w.heap.size, 1, none⟩ = some (.int .i64 a)) ∧ q.cell? ⟨w.heap.size + 1 + 1, 1 * 2, none⟩ = some (.int .u32 (p1 : Nat)) ∧ q.cell? ⟨w.heap.size + 1 + 1, 1 * 2 + 1, none⟩ = some (.int .i64 s1)) (first | exact ⟨⟨q0, q1⟩, c0, c1⟩ | exact HQ.out _ (Below.setCell (Below.setCell g3 g2.size _) g2.size _) | exact HQ.out _ (Below.setCell (Below.setCell g3 (Nat.le_refl _) _) (Nat.le_refl _) _) | go_keep)
              (first
                | (go_at_call 117; refine (HCY.out _ (by first | exact Below.drew (Below.refl _ _) | go_grown)).mono ?_; rintro e w2 ⟨rfl, hb3⟩
                   have g2 : Below wr.heap.size wr w2 := Below.trans (by first | exact Below.drew (Below.refl _ _) | go_grown) (hb3.mono (by simp))
                   obtain ⟨⟨q0, q1⟩, c0, c1⟩ := HQ.out w2 g2
                   try have hz2 : wr.heap.size < w2.heap.size := by have := hb3.size; simp at this; omega
                   try have t0 : w2.cell? ⟨wr.heap.size, 0, none⟩ = some (.int .u32 0) := by rw [(bcell hb3).1 _ _ (by simp)]; go_simp
                   try have t1 : w2.cell? ⟨wr.heap.size, 1, none⟩ = some (.int .i64 0) := by rw [(bcell hb3).1 _ _ (by simp)]; go_simp
                   try have u0 : w2.frozen? ⟨wr.heap.size, 0, none⟩ = false := by rw [(bcell hb3).2 _ _ (by simp)]; go_simp
                   try have u1 : w2.frozen? ⟨wr.heap.size, 1, none⟩ = false := by rw [(bcell hb3).2 _ _ (by simp)]; go_simp
                   clear hb3)
                | (go_at_call 132; refine (HWC.out _).mono ?_; rintro e w3 ⟨rfl, hb4⟩
                   have g3 : Below wr.heap.size wr w3 := by first | exact g2.trans (hb4.mono g2.size) | exact (Below.alloc g2 g2.size _).trans (hb4.mono (by have := g2.size; simp; omega))
                   try have hz3 : w2.heap.size < w3.heap.size := by have := hb4.size; simp at this; omega
                   try have hz4 : wr.heap.size < w3.heap.size := by have := hb4.size; omega
                   try have sx0 : w3.cell? ⟨w2.heap.size, 0, none⟩ = some (.int .u32 0) := by rw [(bcell hb4).1 _ _ (by simp)]; go_simp
                   try have sx1 : w3.cell? ⟨w2.heap.size, 1, none⟩ = some (.int .i64 0) := by rw [(bcell hb4).1 _ _ (by simp)]; go_simp
                   try have f0 : w3.frozen? ⟨w2.heap.size, 0, none⟩ = false := by rw [(bcell hb4).2 _ _ (by simp)]; go_simp
                   try have f1 : w3.frozen? ⟨w2.heap.size, 1, none⟩ = false := by rw [(bcell hb4).2 _ _ (by simp)]; go_simp
                   try have r0 : w3.cell? ⟨wr.heap.size, 0, none⟩ = some (.int .u32 0) := ((bcell hb4).1 _ _ hz2).trans t0
                   try have r1 : w3.cell? ⟨wr.heap.size, 1, none⟩ = some (.int .i64 0) := ((bcell hb4).1 _ _ hz2).trans t1
                   try have v0 : w3.frozen? ⟨wr.heap.size, 0, none⟩ = false := ((bcell hb4).2 _ _ hz2).trans u0
                   try have v1 : w3.frozen? ⟨wr.heap.size, 1, none⟩ = false := ((bcell hb4).2 _ _ hz2).trans u1
                   obtain ⟨⟨q0, q1⟩, c0, c1⟩ := HQ.out w3 g3
                   clear hb4))
            all_goals (
              try go_wp2_with fail
              go_meet
              first
              | exact ⟨w3.heap.size, rfl, rfl, by go_simp, by go_simp, g3.size, by simp, Below.setCell (Below.setCell (Below.alloc g3 g3.size _) g3.size _) g3.size _⟩
              | exact ⟨w3.heap.size, rfl, rfl, by go_simp, by go_simp, g3.size, by simp, Below.alloc g3 g3.size _⟩
              | (have hzz3 := g3.size; exact ⟨w2.heap.size, rfl, rfl, by go_simp, by go_simp, g2.size, by simp; omega, Below.setCell (Below.setCell g3 g2.size _) g2.size _⟩)
              | (have hzz3 := g3.size; exact ⟨wr.heap.size, rfl, rfl, by go_simp, by go_simp, Nat.le_refl _, by simp; omega, Below.setCell (Below.setCell g3 (Nat.le_refl _) _) (Nat.le_refl _) _⟩))
          case rest =>
              rename World => wd
              obtain ⟨cb, rfl, rfl, d0, d1, hcb, hz1, hbx⟩ := hcut
              have HBD := Lib.hid hbx
              have oL := HOL.out.below hbx (by omega)
              have oG := HG.out.below hbx hGl
              obtain ⟨j, hj⟩ : ∃ j : Nat, min (k + 1) 5 = j := ⟨_, rfl⟩
              have hj5 : j ≤ 5 := by omega
              have l0 := oL.cell (j := j * 2) (by omega)
              have l1 := oL.cell (j := j * 2 + 1) (by omega)
              rw [hvV_0] at l0
              rw [hvV_1] at l1
              have g0 := oG.cell (j := k * 2) (by omega)
              have g1 := oG.cell (j := k * 2 + 1) (by omega)
              have gf0 := oG.frozen (k * 2)
              have gf1 := oG.frozen (k * 2 + 1)
              have hq16 : (hv m Y N r j).2 < 2 ^ 16 := Nat.lt_of_lt_of_le (hv_lt (by omega)) (Nat.pow_le_pow_right (by decide) (by omega))
              have HOL2 := Lib.hid oL
              have HOG2 := Lib.hid oG
              have HJ := Lib.hid hj
              clear hbx oL oG
              have hG' : wo.heap.size < wr.heap.size := hGl
              generalize hs3 : (hv m Y N r j).1 = s3 at *
              generalize hp3 : (hv m Y N r j).2 = p3 at *
              have HS3 := Lib.hid hs3
              have HP3 := Lib.hid hp3
              clear hs3 hp3
              have hcase : (k + 1 ≤ 5 ∧ wd.cell? ⟨w.heap.size + 1 + 1, (k + 1) * 2, none⟩ = some (.int .u32 (p3 : Nat)) ∧ wd.cell? ⟨w.heap.size + 1 + 1, (k + 1) * 2 + 1, none⟩ = some (.int .i64 s3)) ∨ (5 < k + 1 ∧ wd.cell? ⟨w.heap.size + 1 + 1, 10, none⟩ = some (.int .u32 (p3 : Nat)) ∧ wd.cell? ⟨w.heap.size + 1 + 1, 11, none⟩ = some (.int .i64 s3)) := by
                rcases Nat.lt_or_ge 5 (k + 1) with h5 | h5
                · obtain rfl : j = 5 := by omega
                  exact .inr ⟨h5, l0, l1⟩
                · obtain rfl : j = k + 1 := by omega
                  exact .inl ⟨h5, l0, l1⟩
              clear l0 l1 hj
              rcases hcase with ⟨h5, l0, l1⟩ | ⟨h5, l0, l1⟩
              · have h5' : (k : Int) + 1 ≤ 5 := by omega
                go_wp2_with fail
                have hWt : WroteIn wd ((wd.setCell ⟨wo.heap.size, k * 2, none⟩ (.int .u32 (p3 : Nat))).setCell ⟨wo.heap.size, k * 2 + 1, none⟩ (.int .i64 s3)) wo.heap.size (wo.heap.size + 1) := ((WroteIn.refl _ _ _).set (Nat.le_refl _) (Nat.lt_succ_self _) _).set (Nat.le_refl _) (Nat.lt_succ_self _) _
                have OW := (HOG2.out.set (k * 2) (.int .u32 (p3 : Nat))).set (k * 2 + 1) (.int .i64 s3)
                have x0 := (hWt.cell (b := cb) (o := 0) hz1 (by omega)).trans d0
                have x1 := (hWt.cell (b := cb) (o := 1) hz1 (by omega)).trans d1
                have y0 := OW.cell (j := k * 2) (by omega)
                have y1 := OW.cell (j := k * 2 + 1) (by omega)
                rw [if_neg (by omega), if_pos rfl] at y0
                rw [if_pos rfl] at y1
                have HOW := Lib.hid OW
                have hB0 : Below wo.heap.size wr wd := HBD.out.mono (Nat.le_of_lt hG')
                have hBn : Below wo.heap.size wr ((wd.setCell ⟨wo.heap.size, k * 2, none⟩ (.int .u32 (p3 : Nat))).setCell ⟨wo.heap.size, k * 2 + 1, none⟩ (.int .i64 s3)) := Below.setCell (Below.setCell hB0 (show wo.heap.size ≤ wo.heap.size from Nat.le_refl _) _) (show wo.heap.size ≤ wo.heap.size from Nat.le_refl _) _
                have HBn := Lib.hid hBn
                clear hBn hB0 OW hWt g0 g1 gf0 gf1 d0 d1 l0 l1
                generalize hWE : (wd.setCell ⟨wo.heap.size, k * 2, none⟩ (.int .u32 (p3 : Nat))).setCell ⟨wo.heap.size, k * 2 + 1, none⟩ (.int .i64 s3) = we at *
                have hzE : wd.heap.size = we.heap.size := by rw [← hWE]; simp
                have HWE := Lib.hid hWE
                clear hWE
                cases hbt : decide (ky s3 p3 < ky (s1 + ylk) p2)
                · have HBT := Lib.hid hbt
                  have hc : ¬ ky (hv m Y N r (min (k + 1) 5)).1 (hv m Y N r (min (k + 1) 5)).2 < ky ((hv m Y N r 1).1 + yl m Y k) ((hv m Y N r 1).2 ||| 2 ^ (N - (r + 1))) := by
                    rw [HJ.out, HS3.out, HP3.out, HS1.out, HP1.out, hy, HPW.out, HP2.out, HYL.out]
                    simpa using hbt
                  have hf : hv m Y N (r + 1) k = (s3, p3) := by rw [hv_no hc, HJ.out]; exact Prod.ext HS3.out HP3.out
                  have HF := Lib.hid hf
                  clear hbt hc hf
                  go_region_held3 (fun x => (x.cell? ⟨cb, 0, none⟩ = some (.int .u32 (p2 : Nat)) ∧ x.cell? ⟨cb, 1, none⟩ = some (.int .i64 (s1 + ylk))) ∧ x.cell? ⟨wo.heap.size, k * 2, none⟩ = some (.int .u32 (p3 : Nat)) ∧ x.cell? ⟨wo.heap.size, k * 2 + 1, none⟩ = some (.int .i64 s3)) (first | exact ⟨⟨x0, x1⟩, y0, y1⟩ | go_keep)
                    (first
                      | (go_at_call 133; refine (isBetter_i (s1 + ylk) s3 p2 p3 _ hp2 hq16).mono ?_; rintro e w5 ⟨rfl, hb⟩; rw [HBT.out]
                         have g5 : Below we.heap.size we w5 := Below.trans (Below.drew (Below.refl _ _)) (hb.mono (by simp))
                         replace x0 := (g5.cell (p := ⟨cb, 0, none⟩) (show cb < we.heap.size by omega)).trans x0
                         replace x1 := (g5.cell (p := ⟨cb, 1, none⟩) (show cb < we.heap.size by omega)).trans x1
                         replace y0 := (g5.cell (p := ⟨wo.heap.size, k * 2, none⟩) (show wo.heap.size < we.heap.size by omega)).trans y0
                         replace y1 := (g5.cell (p := ⟨wo.heap.size, k * 2 + 1, none⟩) (show wo.heap.size < we.heap.size by omega)).trans y1
                         clear hb))
                  go_wp2
                  go_roundw
                  case rel =>
                    have hb5 : Below wo.heap.size wr w5 := HBn.out.trans (g5.mono (by omega))
                    have hp := own_put HOG2.out (fun i _ _ _ => rfl) HF.out
                    rw [HWE.out] at hp
                    exact ⟨k + 1, by omega, by go_num, HSI.out.below hb5 hL, hp.below g5 (by omega), HBI.out.trans (hb5.mono hzz)⟩
                  case measure => simp [intOf]; omega
                · have HBT := Lib.hid hbt
                  have hc : ky (hv m Y N r (min (k + 1) 5)).1 (hv m Y N r (min (k + 1) 5)).2 < ky ((hv m Y N r 1).1 + yl m Y k) ((hv m Y N r 1).2 ||| 2 ^ (N - (r + 1))) := by
                    rw [HJ.out, HS3.out, HP3.out, HS1.out, HP1.out, hy, HPW.out, HP2.out, HYL.out]
                    simpa using hbt
                  have hf : hv m Y N (r + 1) k = (s1 + ylk, p2) := by rw [hv_cut hc, HS1.out, HP1.out, hy, HPW.out, HP2.out, HYL.out]
                  have HF := Lib.hid hf
                  clear hbt hc hf
                  go_region_held3 (fun x => (x.cell? ⟨cb, 0, none⟩ = some (.int .u32 (p2 : Nat)) ∧ x.cell? ⟨cb, 1, none⟩ = some (.int .i64 (s1 + ylk))) ∧ x.cell? ⟨wo.heap.size, k * 2, none⟩ = some (.int .u32 (p3 : Nat)) ∧ x.cell? ⟨wo.heap.size, k * 2 + 1, none⟩ = some (.int .i64 s3)) (first | exact ⟨⟨x0, x1⟩, y0, y1⟩ | go_keep)
                    (first
                      | (go_at_call 133; refine (isBetter_i (s1 + ylk) s3 p2 p3 _ hp2 hq16).mono ?_; rintro e w5 ⟨rfl, hb⟩; rw [HBT.out]
                         have g5 : Below we.heap.size we w5 := Below.trans (Below.drew (Below.refl _ _)) (hb.mono (by simp))
                         replace x0 := (g5.cell (p := ⟨cb, 0, none⟩) (show cb < we.heap.size by omega)).trans x0
                         replace x1 := (g5.cell (p := ⟨cb, 1, none⟩) (show cb < we.heap.size by omega)).trans x1
                         replace y0 := (g5.cell (p := ⟨wo.heap.size, k * 2, none⟩) (show wo.heap.size < we.heap.size by omega)).trans y0
                         replace y1 := (g5.cell (p := ⟨wo.heap.size, k * 2 + 1, none⟩) (show wo.heap.size < we.heap.size by omega)).trans y1
                         clear hb))
                  have O5 := HOW.out.below g5 (by omega)
                  have yf0 := O5.frozen (k * 2)
                  have yf1 := O5.frozen (k * 2 + 1)
                  have HO5 := Lib.hid O5
                  clear O5
                  go_wp2
                  go_roundw
                  case rel =>
                    have hb5 : Below wo.heap.size wr w5 := HBn.out.trans (g5.mono (by omega))
                    have hb6 : Below wo.heap.size wr ((w5.setCell ⟨wo.heap.size, k * 2, none⟩ (.int .u32 (p2 : Nat))).setCell ⟨wo.heap.size, k * 2 + 1, none⟩ (.int .i64 (s1 + ylk))) := Below.setCell (Below.setCell hb5 (Nat.le_refl _) _) (Nat.le_refl _) _
                    exact ⟨k + 1, by omega, by go_num, HSI.out.below hb6 hL, own_put HO5.out (fun i _ e0 e1 => by rw [if_neg e1, if_neg e0]) HF.out, HBI.out.trans (hb6.mono hzz)⟩
                  case measure => simp [intOf]; omega
              · have h5' : (5 : Int) < (k : Int) + 1 := by omega
                go_wp2_with fail
                have hWt : WroteIn wd ((wd.setCell ⟨wo.heap.size, k * 2, none⟩ (.int .u32 (p3 : Nat))).setCell ⟨wo.heap.size, k * 2 + 1, none⟩ (.int .i64 s3)) wo.heap.size (wo.heap.size + 1) := ((WroteIn.refl _ _ _).set (Nat.le_refl _) (Nat.lt_succ_self _) _).set (Nat.le_refl _) (Nat.lt_succ_self _) _
                have OW := (HOG2.out.set (k * 2) (.int .u32 (p3 : Nat))).set (k * 2 + 1) (.int .i64 s3)
                have x0 := (hWt.cell (b := cb) (o := 0) hz1 (by omega)).trans d0
                have x1 := (hWt.cell (b := cb) (o := 1) hz1 (by omega)).trans d1
                have y0 := OW.cell (j := k * 2) (by omega)
                have y1 := OW.cell (j := k * 2 + 1) (by omega)
                rw [if_neg (by omega), if_pos rfl] at y0
                rw [if_pos rfl] at y1
                have HOW := Lib.hid OW
                have hB0 : Below wo.heap.size wr wd := HBD.out.mono (Nat.le_of_lt hG')
                have hBn : Below wo.heap.size wr ((wd.setCell ⟨wo.heap.size, k * 2, none⟩ (.int .u32 (p3 : Nat))).setCell ⟨wo.heap.size, k * 2 + 1, none⟩ (.int .i64 s3)) := Below.setCell (Below.setCell hB0 (show wo.heap.size ≤ wo.heap.size from Nat.le_refl _) _) (show wo.heap.size ≤ wo.heap.size from Nat.le_refl _) _
                have HBn := Lib.hid hBn
                clear hBn hB0 OW hWt g0 g1 gf0 gf1 d0 d1 l0 l1
                generalize hWE : (wd.setCell ⟨wo.heap.size, k * 2, none⟩ (.int .u32 (p3 : Nat))).setCell ⟨wo.heap.size, k * 2 + 1, none⟩ (.int .i64 s3) = we at *
                have hzE : wd.heap.size = we.heap.size := by rw [← hWE]; simp
                have HWE := Lib.hid hWE
                clear hWE
                cases hbt : decide (ky s3 p3 < ky (s1 + ylk) p2)
                · have HBT := Lib.hid hbt
                  have hc : ¬ ky (hv m Y N r (min (k + 1) 5)).1 (hv m Y N r (min (k + 1) 5)).2 < ky ((hv m Y N r 1).1 + yl m Y k) ((hv m Y N r 1).2 ||| 2 ^ (N - (r + 1))) := by
                    rw [HJ.out, HS3.out, HP3.out, HS1.out, HP1.out, hy, HPW.out, HP2.out, HYL.out]
                    simpa using hbt
                  have hf : hv m Y N (r + 1) k = (s3, p3) := by rw [hv_no hc, HJ.out]; exact Prod.ext HS3.out HP3.out
                  have HF := Lib.hid hf
                  clear hbt hc hf
                  go_region_held3 (fun x => (x.cell? ⟨cb, 0, none⟩ = some (.int .u32 (p2 : Nat)) ∧ x.cell? ⟨cb, 1, none⟩ = some (.int .i64 (s1 + ylk))) ∧ x.cell? ⟨wo.heap.size, k * 2, none⟩ = some (.int .u32 (p3 : Nat)) ∧ x.cell? ⟨wo.heap.size, k * 2 + 1, none⟩ = some (.int .i64 s3)) (first | exact ⟨⟨x0, x1⟩, y0, y1⟩ | go_keep)
                    (first
                      | (go_at_call 133; refine (isBetter_i (s1 + ylk) s3 p2 p3 _ hp2 hq16).mono ?_; rintro e w5 ⟨rfl, hb⟩; rw [HBT.out]
                         have g5 : Below we.heap.size we w5 := Below.trans (Below.drew (Below.refl _ _)) (hb.mono (by simp))
                         replace x0 := (g5.cell (p := ⟨cb, 0, none⟩) (show cb < we.heap.size by omega)).trans x0
                         replace x1 := (g5.cell (p := ⟨cb, 1, none⟩) (show cb < we.heap.size by omega)).trans x1
                         replace y0 := (g5.cell (p := ⟨wo.heap.size, k * 2, none⟩) (show wo.heap.size < we.heap.size by omega)).trans y0
                         replace y1 := (g5.cell (p := ⟨wo.heap.size, k * 2 + 1, none⟩) (show wo.heap.size < we.heap.size by omega)).trans y1
                         clear hb))
                  go_wp2
                  go_roundw
                  case rel =>
                    have hb5 : Below wo.heap.size wr w5 := HBn.out.trans (g5.mono (by omega))
                    have hp := own_put HOG2.out (fun i _ _ _ => rfl) HF.out
                    rw [HWE.out] at hp
                    exact ⟨k + 1, by omega, by go_num, HSI.out.below hb5 hL, hp.below g5 (by omega), HBI.out.trans (hb5.mono hzz)⟩
                  case measure => simp [intOf]; omega
                · have HBT := Lib.hid hbt
                  have hc : ky (hv m Y N r (min (k + 1) 5)).1 (hv m Y N r (min (k + 1) 5)).2 < ky ((hv m Y N r 1).1 + yl m Y k) ((hv m Y N r 1).2 ||| 2 ^ (N - (r + 1))) := by
                    rw [HJ.out, HS3.out, HP3.out, HS1.out, HP1.out, hy, HPW.out, HP2.out, HYL.out]
                    simpa using hbt
                  have hf : hv m Y N (r + 1) k = (s1 + ylk, p2) := by rw [hv_cut hc, HS1.out, HP1.out, hy, HPW.out, HP2.out, HYL.out]
                  have HF := Lib.hid hf
                  clear hbt hc hf
                  go_region_held3 (fun x => (x.cell? ⟨cb, 0, none⟩ = some (.int .u32 (p2 : Nat)) ∧ x.cell? ⟨cb, 1, none⟩ = some (.int .i64 (s1 + ylk))) ∧ x.cell? ⟨wo.heap.size, k * 2, none⟩ = some (.int .u32 (p3 : Nat)) ∧ x.cell? ⟨wo.heap.size, k * 2 + 1, none⟩ = some (.int .i64 s3)) (first | exact ⟨⟨x0, x1⟩, y0, y1⟩ | go_keep)
                    (first
                      | (go_at_call 133; refine (isBetter_i (s1 + ylk) s3 p2 p3 _ hp2 hq16).mono ?_; rintro e w5 ⟨rfl, hb⟩; rw [HBT.out]
                         have g5 : Below we.heap.size we w5 := Below.trans (Below.drew (Below.refl _ _)) (hb.mono (by simp))
                         replace x0 := (g5.cell (p := ⟨cb, 0, none⟩) (show cb < we.heap.size by omega)).trans x0
                         replace x1 := (g5.cell (p := ⟨cb, 1, none⟩) (show cb < we.heap.size by omega)).trans x1
                         replace y0 := (g5.cell (p := ⟨wo.heap.size, k * 2, none⟩) (show wo.heap.size < we.heap.size by omega)).trans y0
                         replace y1 := (g5.cell (p := ⟨wo.heap.size, k * 2 + 1, none⟩) (show wo.heap.size < we.heap.size by omega)).trans y1
                         clear hb))
                  have O5 := HOW.out.below g5 (by omega)
                  have yf0 := O5.frozen (k * 2)
                  have yf1 := O5.frozen (k * 2 + 1)
                  have HO5 := Lib.hid O5
                  clear O5
                  go_wp2
                  go_roundw
                  case rel =>
                    have hb5 : Below wo.heap.size wr w5 := HBn.out.trans (g5.mono (by omega))
                    have hb6 : Below wo.heap.size wr ((w5.setCell ⟨wo.heap.size, k * 2, none⟩ (.int .u32 (p2 : Nat))).setCell ⟨wo.heap.size, k * 2 + 1, none⟩ (.int .i64 (s1 + ylk))) := Below.setCell (Below.setCell hb5 (Nat.le_refl _) _) (Nat.le_refl _) _
                    exact ⟨k + 1, by omega, by go_num, HSI.out.below hb6 hL, own_put HO5.out (fun i _ e0 e1 => by rw [if_neg e1, if_neg e0]) HF.out, HBI.out.trans (hb6.mono hzz)⟩
                  case measure => simp [intOf]; omega
        · obtain rfl : k = 6 := by omega
          obtain ⟨q0, q1, hOR, hOL⟩ := HSI.out
          have e0 : wr.cell? ⟨wo.heap.size, 0, none⟩ = some (.int .u32 ((hv m Y N (r + 1) 0).2 : Nat)) := by have h := HG.out.cell (j := 0) (by omega); rw [if_pos (by omega)] at h; exact h
          have e1 : wr.cell? ⟨wo.heap.size, 1, none⟩ = some (.int .i64 (hv m Y N (r + 1) 0).1) := by have h := HG.out.cell (j := 1) (by omega); rw [if_pos (by omega)] at h; exact h
          have e2 : wr.cell? ⟨wo.heap.size, 2, none⟩ = some (.int .u32 ((hv m Y N (r + 1) 1).2 : Nat)) := by have h := HG.out.cell (j := 2) (by omega); rw [if_pos (by omega)] at h; exact h
          have e3 : wr.cell? ⟨wo.heap.size, 3, none⟩ = some (.int .i64 (hv m Y N (r + 1) 1).1) := by have h := HG.out.cell (j := 3) (by omega); rw [if_pos (by omega)] at h; exact h
          have e4 : wr.cell? ⟨wo.heap.size, 4, none⟩ = some (.int .u32 ((hv m Y N (r + 1) 2).2 : Nat)) := by have h := HG.out.cell (j := 4) (by omega); rw [if_pos (by omega)] at h; exact h
          have e5 : wr.cell? ⟨wo.heap.size, 5, none⟩ = some (.int .i64 (hv m Y N (r + 1) 2).1) := by have h := HG.out.cell (j := 5) (by omega); rw [if_pos (by omega)] at h; exact h
          have e6 : wr.cell? ⟨wo.heap.size, 6, none⟩ = some (.int .u32 ((hv m Y N (r + 1) 3).2 : Nat)) := by have h := HG.out.cell (j := 6) (by omega); rw [if_pos (by omega)] at h; exact h
          have e7 : wr.cell? ⟨wo.heap.size, 7, none⟩ = some (.int .i64 (hv m Y N (r + 1) 3).1) := by have h := HG.out.cell (j := 7) (by omega); rw [if_pos (by omega)] at h; exact h
          have e8 : wr.cell? ⟨wo.heap.size, 8, none⟩ = some (.int .u32 ((hv m Y N (r + 1) 4).2 : Nat)) := by have h := HG.out.cell (j := 8) (by omega); rw [if_pos (by omega)] at h; exact h
          have e9 : wr.cell? ⟨wo.heap.size, 9, none⟩ = some (.int .i64 (hv m Y N (r + 1) 4).1) := by have h := HG.out.cell (j := 9) (by omega); rw [if_pos (by omega)] at h; exact h
          have e10 : wr.cell? ⟨wo.heap.size, 10, none⟩ = some (.int .u32 ((hv m Y N (r + 1) 5).2 : Nat)) := by have h := HG.out.cell (j := 10) (by omega); rw [if_pos (by omega)] at h; exact h
          have e11 : wr.cell? ⟨wo.heap.size, 11, none⟩ = some (.int .i64 (hv m Y N (r + 1) 5).1) := by have h := HG.out.cell (j := 11) (by omega); rw [if_pos (by omega)] at h; exact h
          have lc0 := hOL.cell (j := 0) (by omega)
          have lf0 := hOL.frozen 0
          have lc1 := hOL.cell (j := 1) (by omega)
          have lf1 := hOL.frozen 1
          have lc2 := hOL.cell (j := 2) (by omega)
          have lf2 := hOL.frozen 2
          have lc3 := hOL.cell (j := 3) (by omega)
          have lf3 := hOL.frozen 3
          have lc4 := hOL.cell (j := 4) (by omega)
          have lf4 := hOL.frozen 4
          have lc5 := hOL.cell (j := 5) (by omega)
          have lf5 := hOL.frozen 5
          have lc6 := hOL.cell (j := 6) (by omega)
          have lf6 := hOL.frozen 6
          have lc7 := hOL.cell (j := 7) (by omega)
          have lf7 := hOL.frozen 7
          have lc8 := hOL.cell (j := 8) (by omega)
          have lf8 := hOL.frozen 8
          have lc9 := hOL.cell (j := 9) (by omega)
          have lf9 := hOL.frozen 9
          have lc10 := hOL.cell (j := 10) (by omega)
          have lf10 := hOL.frozen 10
          have lc11 := hOL.cell (j := 11) (by omega)
          have lf11 := hOL.frozen 11
          have hbN : Below (w.heap.size + 1 + 1) wr ((((((((((((wr.setCell ⟨w.heap.size + 1 + 1, 0, none⟩ (.int .u32 ((hv m Y N (r + 1) 0).2 : Nat))).setCell ⟨w.heap.size + 1 + 1, 1, none⟩ (.int .i64 (hv m Y N (r + 1) 0).1)).setCell ⟨w.heap.size + 1 + 1, 2, none⟩ (.int .u32 ((hv m Y N (r + 1) 1).2 : Nat))).setCell ⟨w.heap.size + 1 + 1, 3, none⟩ (.int .i64 (hv m Y N (r + 1) 1).1)).setCell ⟨w.heap.size + 1 + 1, 4, none⟩ (.int .u32 ((hv m Y N (r + 1) 2).2 : Nat))).setCell ⟨w.heap.size + 1 + 1, 5, none⟩ (.int .i64 (hv m Y N (r + 1) 2).1)).setCell ⟨w.heap.size + 1 + 1, 6, none⟩ (.int .u32 ((hv m Y N (r + 1) 3).2 : Nat))).setCell ⟨w.heap.size + 1 + 1, 7, none⟩ (.int .i64 (hv m Y N (r + 1) 3).1)).setCell ⟨w.heap.size + 1 + 1, 8, none⟩ (.int .u32 ((hv m Y N (r + 1) 4).2 : Nat))).setCell ⟨w.heap.size + 1 + 1, 9, none⟩ (.int .i64 (hv m Y N (r + 1) 4).1)).setCell ⟨w.heap.size + 1 + 1, 10, none⟩ (.int .u32 ((hv m Y N (r + 1) 5).2 : Nat))).setCell ⟨w.heap.size + 1 + 1, 11, none⟩ (.int .i64 (hv m Y N (r + 1) 5).1)) := (Below.setCell (Below.setCell (Below.setCell (Below.setCell (Below.setCell (Below.setCell (Below.setCell (Below.setCell (Below.setCell (Below.setCell (Below.setCell (Below.setCell (Below.refl _ _) (show w.heap.size + 1 + 1 ≤ w.heap.size + 1 + 1 from Nat.le_refl _) (.int .u32 ((hv m Y N (r + 1) 0).2 : Nat))) (show w.heap.size + 1 + 1 ≤ w.heap.size + 1 + 1 from Nat.le_refl _) (.int .i64 (hv m Y N (r + 1) 0).1)) (show w.heap.size + 1 + 1 ≤ w.heap.size + 1 + 1 from Nat.le_refl _) (.int .u32 ((hv m Y N (r + 1) 1).2 : Nat))) (show w.heap.size + 1 + 1 ≤ w.heap.size + 1 + 1 from Nat.le_refl _) (.int .i64 (hv m Y N (r + 1) 1).1)) (show w.heap.size + 1 + 1 ≤ w.heap.size + 1 + 1 from Nat.le_refl _) (.int .u32 ((hv m Y N (r + 1) 2).2 : Nat))) (show w.heap.size + 1 + 1 ≤ w.heap.size + 1 + 1 from Nat.le_refl _) (.int .i64 (hv m Y N (r + 1) 2).1)) (show w.heap.size + 1 + 1 ≤ w.heap.size + 1 + 1 from Nat.le_refl _) (.int .u32 ((hv m Y N (r + 1) 3).2 : Nat))) (show w.heap.size + 1 + 1 ≤ w.heap.size + 1 + 1 from Nat.le_refl _) (.int .i64 (hv m Y N (r + 1) 3).1)) (show w.heap.size + 1 + 1 ≤ w.heap.size + 1 + 1 from Nat.le_refl _) (.int .u32 ((hv m Y N (r + 1) 4).2 : Nat))) (show w.heap.size + 1 + 1 ≤ w.heap.size + 1 + 1 from Nat.le_refl _) (.int .i64 (hv m Y N (r + 1) 4).1)) (show w.heap.size + 1 + 1 ≤ w.heap.size + 1 + 1 from Nat.le_refl _) (.int .u32 ((hv m Y N (r + 1) 5).2 : Nat))) (show w.heap.size + 1 + 1 ≤ w.heap.size + 1 + 1 from Nat.le_refl _) (.int .i64 (hv m Y N (r + 1) 5).1))
          have hoN := (((((((((((((hOL.set 0 (.int .u32 ((hv m Y N (r + 1) 0).2 : Nat))).set 1 (.int .i64 (hv m Y N (r + 1) 0).1)).set 2 (.int .u32 ((hv m Y N (r + 1) 1).2 : Nat))).set 3 (.int .i64 (hv m Y N (r + 1) 1).1)).set 4 (.int .u32 ((hv m Y N (r + 1) 2).2 : Nat))).set 5 (.int .i64 (hv m Y N (r + 1) 2).1)).set 6 (.int .u32 ((hv m Y N (r + 1) 3).2 : Nat))).set 7 (.int .i64 (hv m Y N (r + 1) 3).1)).set 8 (.int .u32 ((hv m Y N (r + 1) 4).2 : Nat))).set 9 (.int .i64 (hv m Y N (r + 1) 4).1)).set 10 (.int .u32 ((hv m Y N (r + 1) 5).2 : Nat))).set 11 (.int .i64 (hv m Y N (r + 1) 5).1))).congr (U := hvV (hv m Y N (r + 1))) (fun i hi => by
            match i, hi with
            | 0, _ => rfl
            | 1, _ => rfl
            | 2, _ => rfl
            | 3, _ => rfl
            | 4, _ => rfl
            | 5, _ => rfl
            | 6, _ => rfl
            | 7, _ => rfl
            | 8, _ => rfl
            | 9, _ => rfl
            | 10, _ => rfl
            | 11, _ => rfl)
          have HBN := Lib.hid hbN
          have HON := Lib.hid hoN
          have HOR := Lib.hid hOR
          clear hbN hoN hOR hOL
          go_wp2_with fail
          go_roundw
          case rel => exact ⟨r + 1, (y : Int) - 1, by omega, rfl, by have := HYR.out; show (y : Int) - 1 = N - 1 - ((r + 1 : Nat) : Int); omega, by omega, by omega, ⟨(HBN.out.cell (p := ⟨w.heap.size, 0, none⟩) (show w.heap.size < w.heap.size + 1 + 1 by omega)).trans q0, (HBN.out.cell (p := ⟨w.heap.size, 1, none⟩) (show w.heap.size < w.heap.size + 1 + 1 by omega)).trans q1, HOR.out.below HBN.out (by omega), HON.out⟩, HBI.out.trans (HBN.out.mono (by omega))⟩
          case measure => simp [intOf] <;> omega
    · obtain rfl : r = N := by have := HYR.out; omega
      obtain ⟨q0, q1, hOR, hOL⟩ := HST.out
      have l0 := hOL.cell (j := a * 2) (by omega)
      have l1 := hOL.cell (j := a * 2 + 1) (by omega)
      rw [hvV_0] at l0
      rw [hvV_1] at l1
      have r0 := hOR.cell (j := 0) (by omega)
      have r1 := hOR.cell (j := 1) (by omega)
      have rf0 := hOR.frozen 0
      have rf1 := hOR.frozen 1
      have ha5 : (a : Int) ≤ 5 := by omega
      clear hOR hOL
      go_wp2_with fail
      exact bodyPost_ret (v := .agg #[.int .u32 ((hv m Y r r a).2 : Nat), .int .i64 (hv m Y r r a).1]) (by simp [results, Try.results100, go_sem, r0, r1]) rfl ⟨rfl, Below.setCell (Below.setCell HBL.out (show w.heap.size ≤ w.heap.size + 1 by omega) _) (show w.heap.size ≤ w.heap.size + 1 by omega) _⟩

end Go.Proofs.Ytcpaenmhnoagdab.rod
