/-
  StakePlan of the model: a table of the least sums of changes, and the first plan that has the least one. No condition of a statement lies here.
-/
import Derived.Test.YthcebbamgoklcaaHw
import Derived.Test.YthcebbamgoklcaaHf
import Derived.Test.YthcebbamgoklcaaOpen
import Derived.Test.YthcebbamgoklcaaNums
import Derived.Test.YthcebbamgoklcaaIn
namespace Go.Proofs.Ythcebbamgoklcaa.shp
open Go.ChangeShapes Go.WideShapes Go.ChangeAt Go.RowKit Go.Proofs.Ythcebbamgoklcaa.mem Go.Proofs.Ythcebbamgoklcaa.rod Go.Proofs.Ythcebbamgoklcaa.nums
set_option linter.unusedVariables false
set_option maxRecDepth 100000

theorem info_row : (Try.prog.info? 22).map (fun i => (i.zero, i.size, i.bytes)) = some (some (.slice none 0 0), 1, 24) := by kernel_rfl
set_option maxHeartbeats 2000000 in
theorem plan_s_no (A : Option Addr) (n c : Nat) (X : Nat → Int) (lo up code : Int) (w : World) (hn : n ≤ maxLen) (hr : Sl w A n 1 X) (hv : shpB n X = false ∧ code = 1 ∨ shpB n X = true ∧ aptB lo up = false ∧ code = 2) :
    Calls Try.prog 23 #[.slice A n c, .int .i64 lo, .int .i64 up] w (NumsCode w 2 [] code) := by
  have hcode : (code == 0) = false ∧ (code != 0) = true := by rcases hv with ⟨_, rfl⟩ | ⟨_, _, rfl⟩ <;> exact ⟨rfl, rfl⟩
  obtain ⟨q1, q2⟩ := hcode
  have HV := Lib.hid (codeH_no hv)
  have HR := Lib.hid hr
  clear hv hr
  go_enter Try.func23, Try.ntmps23
  go_wp2_with fail
  refine (code_s A n c X lo up _ hn HR.out).mono ?_
  rintro e w' ⟨rfl, rfl⟩
  rw [HV.out]
  go_wp2
  go_ret2
  exact ⟨none, 0, rfl, Nat.le_refl _, by unfold maxLen; omega, Row.none_, Below.refl _ _⟩

theorem top_tail {n : Nat} {X : Nat → Int} {lo up : Int} {l : List Int} {t : Int} (hn : 0 < n) (h3 : 3 ≤ t) (h60 : t ≤ 60) (hg : goodB (X 0) lo up t = true) (h : pl X lo up (n - 1) 0 t = some l) :
    l.length = n ∧ ∀ j, j < n → pl X lo up (n - 1 - j) j (l.getD j 0) = some (l.drop j) ∧ 3 ≤ l.getD j 0 ∧ l.getD j 0 ≤ 60 ∧ goodB (X j) lo up (l.getD j 0) = true := by
  have hb := pl_bd (n - 1) h3 h60 h
  have hlen : l.length = n := by have := hb.1; omega
  refine ⟨hlen, fun j => ?_⟩
  induction j with
  | zero =>
    intro _
    rw [hb.2.1]
    exact ⟨h, h3, h60, hg⟩
  | succ j ih =>
    intro hj
    obtain ⟨i1, i2, i3, i4⟩ := ih (by omega)
    rw [show n - 1 - j = (n - 1 - (j + 1)) + 1 by omega] at i1
    rcases pl_step (X := X) (lo := lo) (hi := up) (r := n - 1 - (j + 1)) (i := j) (s := l.getD j 0) with ⟨q, _⟩ | ⟨l', t', m', q, e1, e2, e3, e4, e5, e6, _⟩
    · rw [i1] at q; cases q
    · rw [i1] at q
      obtain rfl := Option.some.inj q
      rw [getD_drop (by omega : j < l.length)] at e1
      have e1 := (List.cons.inj e1).2
      subst e1
      have hd : (l.drop (j + 1)) = l.getD (j + 1) 0 :: l.drop (j + 1 + 1) := getD_drop (by omega)
      have ht : t' = l.getD (j + 1) 0 := by
        have hp := pl_bd _ e2 e3 e6
        obtain ⟨m2, hm2⟩ := planB_head hp
        rw [hd] at hm2
        exact (List.cons.inj hm2).1.symm
      subst ht
      exact ⟨e6, e2, e3, e5⟩
theorem srch {n : Nat} {X : Nat → Int} {lo up : Int} {l : List Int} (hn : n ≤ 12) (hl : l.length = n) (hT : ∀ j, j < n → pl X lo up (n - 1 - j) j (l.getD j 0) = some (l.drop j) ∧ 3 ≤ l.getD j 0 ∧ l.getD j 0 ≤ 60 ∧ goodB (X j) lo up (l.getD j 0) = true) {p : Nat} (hp : p + 1 < n) :
    (0 ≤ cst X lo up (n - 1 - (p + 1)) (p + 1) (l.getD (p + 1) 0) ∧ cst X lo up (n - 1 - (p + 1)) (p + 1) (l.getD (p + 1) 0) + dst (l.getD p 0) (l.getD (p + 1) 0) = cst X lo up (n - 1 - p) p (l.getD p 0)) ∧
    mxI 0 (l.getD p 0 - 6) ≤ l.getD (p + 1) 0 ∧
    ∀ m : Int, mxI 0 (l.getD p 0 - 6) ≤ m → m < l.getD (p + 1) 0 → cst X lo up (n - 1 - (p + 1)) (p + 1) m < 0 ∨ cst X lo up (n - 1 - (p + 1)) (p + 1) m + dst (l.getD p 0) m ≠ cst X lo up (n - 1 - p) p (l.getD p 0) := by
  obtain ⟨a1, a2, a3, a4⟩ := hT p (by omega)
  obtain ⟨b1, b2, b3, b4⟩ := hT (p + 1) hp
  have hx : mxI 0 (l.getD p 0 - 6) = if l.getD p 0 - 6 < 0 then 0 else l.getD p 0 - 6 := rfl
  have ca := cst_some a2 a4 a1
  have cb := cst_some b2 b4 b1
  have r1 : n - 1 - p = (n - 1 - (p + 1)) + 1 := by omega
  rw [r1] at a1
  rcases pl_step (X := X) (lo := lo) (hi := up) (r := n - 1 - (p + 1)) (i := p) (s := l.getD p 0) with ⟨q, _⟩ | ⟨l', t', m', q, e1, e2, e3, e4, e5, e6, e7, e8⟩
  · rw [a1] at q; cases q
  · rw [a1] at q
    obtain rfl := Option.some.inj q
    rw [getD_drop (by omega : p < l.length)] at e1
    have e1 := (List.cons.inj e1).2
    subst e1
    have ht : t' = l.getD (p + 1) 0 := by
      obtain ⟨m2, hm2⟩ := planB_head (pl_bd _ e2 e3 e6)
      rw [getD_drop (by omega : p + 1 < l.length)] at hm2
      exact (List.cons.inj hm2).1.symm
    subst ht
    have hnear := near_iff.1 e4
    have hcb := (chg_planB (pl_bd _ e2 e3 e6) (by omega)).1
    refine ⟨⟨by rw [cb]; exact hcb, by rw [cb, ca, e7]; omega⟩, by rw [hx]; split <;> omega, fun m m1 m2 => ?_⟩
    rcases cst_cases (X := X) (lo := lo) (hi := up) (r := n - 1 - (p + 1)) (i := p + 1) (s := m) (by omega) (by omega) with c | ⟨q, c1, c2, c3, c4, c5, _⟩
    · left; omega
    · right
      have hn2 : nearP (l.getD p 0) m = true := near_iff.2 (by rw [hx] at m1; split at m1 <;> omega)
      have := (e8 m q c1 (by omega) hn2 c2 c3).2 m2
      rw [c4, ca]
      omega
theorem _root_.Go.Proofs.Ythcebbamgoklcaa.mem.Drew.below' {w wr : World} {B : Nat} (h : Drew w wr) (hB : B ≤ w.heap.size) : Below B w wr := h.below.mono hB
theorem drew_owns {w wr : World} {B n size : Nat} {E : TypeId} {v : Value} {xs : List Value} (d : Drew w wr) (h : w.ownsRow B E size v n xs) : wr.ownsRow B E size v n xs := by obtain ⟨m, rfl⟩ := d; exact h
theorem take_getD {l : List Int} {i j : Nat} (h : j < i) : (l.take i).getD j 0 = l.getD j 0 := by
  simp only [List.getD]
  rw [List.getElem?_take_of_lt h]
/-- rows of the table from i on are done -/
def Tab (w : World) (B T n i : Nat) (X : Nat → Int) (lo up : Int) : Prop := ∃ V : Nat → Value, OwnV w T 22 n V ∧ B ≤ T ∧ ∀ j, i ≤ j → j < n → ∃ g, V j = .slice (some ⟨g, 0, none⟩) 61 61 ∧ g ≠ T ∧ B ≤ g ∧ Own w g 2 61 (fun k => cst X lo up (n - 1 - j) j (k : Int))
theorem Tab.row {w : World} {B T n i j : Nat} {X : Nat → Int} {lo up : Int} (h : Tab w B T n i X lo up) (h1 : i ≤ j) (h2 : j < n) : ∃ g, w.cell? ⟨T, j, none⟩ = some (.slice (some ⟨g, 0, none⟩) 61 61) ∧ g ≠ T ∧ B ≤ g ∧ g < w.heap.size ∧ ∀ k, k < 61 → w.cell? ⟨g, k, none⟩ = some (.int .i64 (cst X lo up (n - 1 - j) j (k : Int))) := by
  obtain ⟨V, hT, _, hV⟩ := h
  obtain ⟨g, e, h3, h4, ho⟩ := hV j h1 h2
  exact ⟨g, by rw [hT.cell h2, e], h3, h4, ho.lt, fun k hk => ho.cell hk⟩
theorem Tab.keep {w w' : World} {B T n i : Nat} {X : Nat → Int} {lo up : Int} (h : Tab w B T n i X lo up) (hk : ∀ g, g < w.heap.size → w'.heap[g]? = w.heap[g]?) : Tab w' B T n i X lo up := by
  obtain ⟨V, hT, hB, hV⟩ := h
  exact ⟨V, hT.of_block (hk T hT.lt), hB, fun j h1 h2 => by
    obtain ⟨g, e, h3, h4, ho⟩ := hV j h1 h2
    exact ⟨g, e, h3, h4, ho.of_block (hk g ho.lt)⟩⟩
theorem Tab.lt {w : World} {B T n i : Nat} {X : Nat → Int} {lo up : Int} (h : Tab w B T n i X lo up) : T < w.heap.size := by
  obtain ⟨V, hT, _⟩ := h
  exact hT.lt
theorem Tab.made (w : World) (n : Nat) (X : Nat → Int) (lo up : Int) : Tab (w.alloc (.cells (madeCells #[.slice none 0 0] n) 22)) w.heap.size w.heap.size n n X lo up :=
  ⟨fun _ => .slice none 0 0, ownV_made w _ _ _ _ _ (fun i _ => by simp; rw [Nat.mod_one]; rfl) (by simp) rfl, Nat.le_refl _, fun j h1 h2 => absurd h2 (by omega)⟩
/-- one more row: laid into the table before its numbers are reckoned -/
theorem Tab.add {w w2 : World} {B T n q g : Nat} {X : Nat → Int} {lo up : Int} (h : Tab w B T n (q + 1) X lo up) (hq : q < n) (hg : g = w.heap.size) (hB : B ≤ g) (hw : w2.heap[T]? = (w.setCell ⟨T, q, none⟩ (.slice (some ⟨g, 0, none⟩) 61 61)).heap[T]?) (hk : ∀ k, k < w.heap.size → k ≠ T → w2.heap[k]? = w.heap[k]?)
    (ho : Own w2 g 2 61 (fun k => cst X lo up (n - 1 - q) q (k : Int))) : Tab w2 B T n q X lo up := by
  have hl := h.lt
  obtain ⟨V, hT, hBT, hV⟩ := h
  refine ⟨_, (hT.set q (.slice (some ⟨g, 0, none⟩) 61 61)).of_block hw, hBT, fun j h1 h2 => ?_⟩
  by_cases e : j = q
  · subst e
    exact ⟨g, if_pos rfl, by omega, hB, ho⟩
  · obtain ⟨g', e', h3, h4, ho'⟩ := hV j (by omega) h2
    exact ⟨g', by simp only [if_neg e]; exact e', h3, h4, ho'.of_block (hk g' ho'.lt h3)⟩
theorem rn_stepY {f : Int → Int} {s m0 mm : Int} {k : Nat} (hm : m0 + (k : Int) = mm) (h : 0 ≤ f mm ∧ (rn f s m0 k < 0 ∨ f mm + dst s mm < rn f s m0 k)) : rn f s m0 (k + 1) = f mm + dst s mm := by subst hm; exact rn_yes h
theorem rn_stepN {f : Int → Int} {s m0 mm : Int} {k : Nat} (hm : m0 + (k : Int) = mm) (h : ¬ (0 ≤ f mm ∧ (rn f s m0 k < 0 ∨ f mm + dst s mm < rn f s m0 k))) : rn f s m0 (k + 1) = rn f s m0 k := by subst hm; exact rn_no h
/-- a row while its numbers are reckoned: those below a are, number a is v -/
def half (c : Int → Int) (a : Nat) (v : Int) (k : Nat) : Int := if k < a then c k else if k = a then v else 0
theorem half_at (c : Int → Int) (a : Nat) (v : Int) : half c a v a = v := by unfold half; simp
theorem half_set {c : Int → Int} {a : Nat} {v u : Int} (k : Nat) : (if k = a then u else half c a v k) = half c a u k := by
  unfold half
  by_cases e : k = a
  · subst e; simp
  · simp only [if_neg e]
theorem half_next {c : Int → Int} {a : Nat} {v : Int} (h : c a = v) (k : Nat) : half c a v k = half c (a + 1) 0 k := by
  unfold half
  by_cases e : k = a
  · subst e; simp [h]
  · by_cases e2 : k < a
    · simp [e2, show k < a + 1 by omega]
    · simp [e2, e, show ¬ k < a + 1 by omega]
theorem half_all {c : Int → Int} {v : Int} (k : Nat) (hk : k < 61) : half c 61 v k = c k := by unfold half; rw [if_pos hk]
theorem half_zero (c : Int → Int) (k : Nat) : (0 : Int) = half c 0 0 k := by unfold half; simp

set_option maxHeartbeats 40000000 in
set_option maxRecDepth 1000000 in
theorem plan_s (A : Option Addr) (n c : Nat) (X : Nat → Int) (lo up : Int) (l : List Int) (code : Int) (w : World) (hn : n ≤ maxLen) (hr : Sl w A n 1 X) (hv : shpB n X = true) (ha : aptB lo up = true) (hl : PlanIs n X lo up l code) :
    Calls Try.prog 23 #[.slice A n c, .int .i64 lo, .int .i64 up] w (NumsCode w 2 l code) := by
  have HV := Lib.hid (codeH_ok hv ha)
  have HA := Lib.hid ha
  obtain ⟨n0, n12, hX⟩ := shpB_of hv
  have HL := Lib.hid hl
  have HR := Lib.hid hr
  obtain ⟨b, o, rfl, hb, hI⟩ := hr (by omega)
  have HI := Lib.hid hI
  have HX := Lib.hid hX
  have hmk := run_make_rows (P := Try.prog) 56 22 _ 1 24 Try.underlying56 info_row .i64 .i64 n (by omega) (by omega)
  have hmk2 : ∀ w : World, (Instr.makeSlice 22 (.int .i64 61) (.int .i64 61)).run Try.prog w = .ok (.slice (some ⟨w.heap.size, 0, none⟩) 61 61) (w.alloc (.cells (madeCells #[.int .i64 0] 61) 2)) := fun w => run_make_rows (P := Try.prog) 22 2 _ 1 8 Try.underlying22 info_num .i64 .i64 61 (by omega) (by omega) w
  clear hv ha hl hI hX hr
  go_enter Try.func23, Try.ntmps23
  go_wp2_with fail
  refine (code_s _ n c X lo up _ hn HR.out).mono ?_
  rintro e w' ⟨rfl, rfl⟩
  rw [HV.out]
  go_wp2_with fail
  go_loopw [10] (fun t wr => ∃ i : Nat, i ≤ n ∧ t = .int .i64 ((i : Int) - 1) ∧ Hid (Tab wr w.heap.size w.heap.size n i X lo up) ∧ Below w.heap.size w wr) (fun t _ => (intOf t + 1).toNat)
  case atStart => exact ⟨n, by omega, rfl, Tab.made w n X lo up, by go_grown⟩
  case round =>
    obtain ⟨i, hi, rfl, HT, hbl⟩ := hrel
    have HB := Lib.hid hbl
    have hzz := hbl.size
    have hTl := HT.out.lt
    clear hbl
    rcases Nat.eq_zero_or_pos i with rfl | hi0
    · obtain ⟨g0, TR0, _, _, g0l, GC0⟩ := HT.out.row (j := 0) (Nat.le_refl _) n0
      rw [show n - 1 - 0 = n - 1 by omega] at GC0
      have QT := Lib.hid TR0
      have QC := Lib.hid GC0
      have HTS := Lib.hid (top_step (X := X) (lo := lo) (hi := up) n12)
      have n0' : (0 : Int) < (n : Int) := by omega
      clear TR0 GC0
      rename World => w4
      rw [show ((0 : Nat) : Int) - 1 = -1 from rfl]
      go_wp2_with fail
      go_loopw [14, 15] (fun s t wr => ∃ k : Nat, k ≤ 61 ∧ t = .int .i64 k ∧ s = .int .i64 (tb (cst X lo up (n - 1) 0) k) ∧ Drew w4 wr) (fun _ t _ => 61 - (intOf t).toNat)
      case atStart => exact ⟨0, by omega, rfl, rfl, Drew.refl _⟩
      case round =>
        obtain ⟨k, hk, rfl, rfl, hd⟩ := hrel
        by_cases hlt : k < 61
        · have hlt' : (k : Int) ≤ 60 := by omega
          have hk0 : (0 : Int) ≤ (k : Int) := by omega
          have hk1 : (k : Int) < 61 := by omega
          have p0 := hd.cell QT.out
          have p1 := hd.cell (QC.out k hlt)
          have HY := Lib.hid (fun h => tb_yes (f := cst X lo up (n - 1) 0) (k := k) h)
          have HN := Lib.hid (fun h => tb_no (f := cst X lo up (n - 1) 0) (k := k) h)
          rcases tb_spec (f := cst X lo up (n - 1) 0) k with ⟨h1, _⟩ | ⟨h1, h2, h3, _⟩
          · rw [h1] at HY HN ⊢
            generalize hF : cst X lo up (n - 1) 0 (k : Int) = F at *
            by_cases c1 : 0 ≤ F
            · have H1 := Lib.hid (HY.out ⟨c1, .inl (by omega)⟩)
              clear hF h1 HY HN
              go_wp2_with fail
              go_quiet (fail)
              go_wp2
              go_roundw
              case rel => exact ⟨k + 1, by omega, by go_num, by rw [H1.out], hd.drewN _⟩
              case measure => simp [intOf]; omega
            · have H1 := Lib.hid (HN.out (fun h => c1 h.1))
              have d1 : decide (0 ≤ F) = false := by simp; omega
              clear hF h1 HY HN
              go_wp2_with fail
              go_quiet (fail)
              go_wp2
              go_roundw
              case rel => exact ⟨k + 1, by omega, by go_num, by rw [H1.out], hd.drewN _⟩
              case measure => simp [intOf]; omega
          · obtain ⟨bn, hbn⟩ : ∃ bn : Nat, tb (cst X lo up (n - 1) 0) k = bn := ⟨(tb (cst X lo up (n - 1) 0) k).toNat, by omega⟩
            rw [hbn] at HY HN h1 h2 ⊢
            have p2 := hd.cell (QC.out bn (by omega))
            have hb0 : (0 : Int) ≤ (bn : Int) := by omega
            have hb1 : (bn : Int) < 61 := by omega
            generalize hF : cst X lo up (n - 1) 0 (k : Int) = F at *
            generalize hG : cst X lo up (n - 1) 0 (bn : Int) = G at *
            by_cases c1 : 0 ≤ F
            · by_cases c3 : F < G
              · have H1 := Lib.hid (HY.out ⟨c1, .inr c3⟩)
                clear hF hG hbn HY HN h3 h1 h2
                go_wp2_with fail
                go_quiet (fail)
                go_wp2
                go_roundw
                case rel => exact ⟨k + 1, by omega, by go_num, by rw [H1.out], hd.drewN _⟩
                case measure => simp [intOf]; omega
              · have H1 := Lib.hid (HN.out (fun h => by rcases h.2 with h | h <;> omega))
                clear hF hG hbn HY HN h3 h1 h2
                go_wp2_with fail
                go_quiet (fail)
                go_wp2
                go_roundw
                case rel => exact ⟨k + 1, by omega, by go_num, by rw [H1.out], hd.drewN _⟩
                case measure => simp [intOf]; omega
            · have H1 := Lib.hid (HN.out (fun h => c1 h.1))
              have d1 : decide (0 ≤ F) = false := by simp; omega
              clear hF hG hbn HY HN h3 h1 h2
              go_wp2_with fail
              go_quiet (fail)
              go_wp2
              go_roundw
              case rel => exact ⟨k + 1, by omega, by go_num, by rw [H1.out], hd.drewN _⟩
              case measure => simp [intOf]; omega
        · obtain rfl : k = 61 := by omega
          rename World => w5
          have BW5 := Lib.hid (HB.out.trans (hd.below.mono hzz))
          have z5 := hd.below.size
          have T5 := Lib.hid (HT.out.keep (w' := w5) fun g hg => hd.below.block g hg)
          rcases HTS.out with ⟨t1, t2⟩ | ⟨l', t, t1, t2, t3, t4, t5, t6⟩
          · rw [t2]
            have HR5 := Lib.hid (show l = [] ∧ code = 3 by
              rcases HL.out with ⟨q, _⟩ | ⟨_, q1, q2⟩
              · rw [t1] at q; cases q
              · exact ⟨q1, q2⟩)
            obtain ⟨rfl, rfl⟩ := HR5.out
            clear t1 t2 HR5 HL HTS
            go_wp2
            go_ret2
            exact ⟨none, 0, rfl, Nat.le_refl _, by unfold maxLen; omega, Row.none_, BW5.out⟩
          · rw [t2]
            have HR5 := Lib.hid (show l' = l ∧ code = 0 by
              rcases HL.out with ⟨q, q2⟩ | ⟨q, _, _⟩
              · rw [t1] at q; exact ⟨Option.some.inj q, q2⟩
              · rw [t1] at q; cases q)
            obtain ⟨rfl, rfl⟩ := HR5.out
            have hTT := top_tail n0 t3 t4 t5 t6
            have ht0 : l'.take 1 = [t] := by
              obtain ⟨m', hm'⟩ := planB_head (pl_bd _ t3 t4 t6)
              rw [hm']; rfl
            have HLL := Lib.hid hTT.1
            have HSR := Lib.hid (fun p hp => srch (p := p) n12 hTT.1 hTT.2 hp)
            have HBD := Lib.hid (fun j hj => (⟨(hTT.2 j hj).2.1, (hTT.2 j hj).2.2.1⟩ : 3 ≤ l'.getD j 0 ∧ l'.getD j 0 ≤ 60))
            have HT0 := Lib.hid ht0
            obtain ⟨i0, hi0, hz0, hz1, hz2⟩ := info_parts info_num
            have tnn : ¬ t < 0 := by omega
            clear t1 t2 t5 t6 hTT ht0 HR5 HL HTS
            go_wp2_with fail
            go_loopw [17, 16] (fun s v wr => ∃ i p : Nat, i = p + 1 ∧ i ≤ n ∧ s = .int .i64 i ∧ Hid (wr.ownsRow w5.heap.size 2 1 v i ((l'.take i).map (Value.int .i64))) ∧ Below w5.heap.size w5 wr) (fun s _ _ => n - (intOf s).toNat)
            case atStart => exact ⟨1, 0, rfl, n0, rfl, by rw [HT0.out]; exact owns_first w5 w5.heap.size 2 t (Nat.le_refl _), by go_grown⟩
            case round =>
              obtain ⟨i, p, hip, hin, rfl, hown, hbl⟩ := hrel
              have HB6 := Lib.hid hbl
              have z6 := hbl.size
              clear hbl
              obtain ⟨A6, c6, rfl, hc1, hc2, hrow⟩ := row_of_owns hown.out
              by_cases hlt : i < n
              · have hlt' : (i : Int) < (n : Int) := by omega
                have hi0' : (0 : Int) ≤ (i : Int) := by omega
                obtain ⟨go, rfl, go0, go1, ho⟩ := hrow (by omega)
                have op : wr.cell? ⟨go, p, none⟩ = some (.int .i64 (l'.getD p 0)) := by rw [ho.cell (by omega), take_getD (by omega)]
                obtain ⟨gi, ti, _, _, gil, ci⟩ := T5.out.row (Nat.zero_le i) hlt
                obtain ⟨gp, tp, _, _, gpl, cp⟩ := T5.out.row (Nat.zero_le p) (by omega)
                have hTl5 := T5.out.lt
                have TI := Lib.hid ((HB6.out.cell (p := ⟨w.heap.size, i, none⟩) hTl5).trans ti)
                have TP := Lib.hid ((HB6.out.cell (p := ⟨w.heap.size, p, none⟩) hTl5).trans tp)
                have CI := Lib.hid (fun k hk => (HB6.out.cell (p := ⟨gi, k, none⟩) gil).trans (ci k hk))
                have CP := Lib.hid (fun k hk => (HB6.out.cell (p := ⟨gp, k, none⟩) gpl).trans (cp k hk))
                obtain ⟨s3, s60⟩ := HBD.out p (by omega)
                obtain ⟨t3', t60'⟩ := HBD.out i hlt
                obtain ⟨⟨sr1, sr2⟩, sr3, sr4⟩ := HSR.out p (by omega)
                rw [← hip] at sr1 sr2 sr3 sr4
                have HTS2 := Lib.hid (show (l'.take (i + 1)).map (Value.int .i64) = (l'.take i).map (Value.int .i64) ++ [.int .i64 (l'.getD i 0)] by
                  rw [List.take_succ_eq_append_getElem (by rw [HLL.out]; exact hlt), List.map_append]
                  simp [List.getD, List.getElem?_eq_getElem (show i < l'.length by rw [HLL.out]; exact hlt)])
                obtain ⟨sn, hsn⟩ : ∃ sn : Nat, l'.getD p 0 = sn := ⟨(l'.getD p 0).toNat, by omega⟩
                obtain ⟨tn, htn⟩ : ∃ tn : Nat, l'.getD i 0 = tn := ⟨(l'.getD i 0).toNat, by omega⟩
                rw [hsn] at op s3 s60 sr2 sr3 sr4
                rw [htn] at t3' t60' sr1 sr2 sr3 sr4 HTS2
                obtain ⟨m0, hm0⟩ : ∃ m0 : Nat, mxI 0 ((sn : Int) - 6) = m0 := ⟨(mxI 0 ((sn : Int) - 6)).toNat, by unfold mxI; split <;> omega⟩
                rw [hm0] at sr3 sr4
                have cps := CP.out sn (by omega)
                have hCb := cst_bd (X := X) (lo := lo) (hi := up) (r := n - 1 - p) (i := p) (s := (sn : Int)) (by omega) s60
                generalize hC : cst X lo up (n - 1 - p) p (sn : Int) = C at *
                have CPS := Lib.hid cps
                have SR1 := Lib.hid sr1
                have SR2 := Lib.hid sr2
                have SR4 := Lib.hid sr4
                have HM0 := Lib.hid hm0
                have ip1 : IntKind.i64.wrap ((i : Int) - 1) = (p : Int) := by rw [IntKind.wrap_i64]; omega
                have ip2 : (i : Int) - 1 = (p : Int) := by omega
                have ip3 : (p : Int) < (i : Int) := by omega
                have hp0' : (0 : Int) ≤ (p : Int) := by omega
                have hpn : (p : Int) < (n : Int) := by omega
                have hri : n - 1 - i ≤ 11 := by omega
                have IP2 := Lib.hid ip2
                have hs0 : (0 : Int) ≤ (sn : Int) := by omega
                have hs61 : (sn : Int) < 61 := by omega
                have hmt : m0 ≤ tn := by omega
                have hip' : p < i := by omega
                clear ho hrow ti tp ci cp hsn htn hm0 hC cps sr1 sr2 sr4 hip sr3
                go_wp2_with (go_at_call 51; refine (max_s _ _ _).mono ?_; rintro e w' ⟨rfl, rfl⟩; rw [HM0.out])
                rename World => w6
                clear op
                go_loopw [19] (fun s wr => ∃ m : Nat, m0 ≤ m ∧ m ≤ tn ∧ s = .int .i64 m ∧ Drew w6 wr) (fun s _ => 61 - (intOf s).toNat)
                case atStart => exact ⟨m0, by omega, hmt, rfl, Drew.refl _⟩
                case round =>
                  obtain ⟨m, hm1, hm2, rfl, hd6⟩ := hrel
                  have hmm0 : (0 : Int) ≤ (m : Int) := by omega
                  have hmm1 : (m : Int) < 61 := by omega
                  have hmm2 : (m : Int) ≤ 60 := by omega
                  have ti := hd6.cell TI.out
                  have tp := hd6.cell TP.out
                  have fm := hd6.cell (CI.out m (by omega))
                  have cv := hd6.cell CPS.out
                  obtain ⟨cb1, cb2⟩ := cst_bd (X := X) (lo := lo) (hi := up) (r := n - 1 - i) (i := i) (s := (m : Int)) hri hmm2
                  obtain ⟨db1, db2⟩ := dst_bd (a := (sn : Int)) (b := (m : Int)) (l := 0) (h := 60) hs0 (by omega) hmm0 hmm2
                  have ea : IntKind.i64.wrap ((sn : Int) - (m : Int)) = (sn : Int) - (m : Int) := by rw [IntKind.wrap_i64]; omega
                  by_cases hmt2 : m < tn
                  · have h4 := SR4.out (m : Int) (by omega) (by omega)
                    generalize hF : cst X lo up (n - 1 - i) i (m : Int) = F at *
                    have es : IntKind.i64.wrap (F + dst (sn : Int) (m : Int)) = F + dst (sn : Int) (m : Int) := by rw [IntKind.wrap_i64]; omega
                    by_cases c1 : F < 0
                    · clear hF h4
                      go_wp2_with fail
                      go_quiet ((go_at_call 57; exact Calls.quiet_of_same ((size_d _ _ (by omega) (by omega) (by omega) (by omega) _).mono fun _ _ ⟨p, q⟩ => ⟨p, q.symm⟩)))
                      clear es ea
                      go_wp2
                      go_roundw
                      case rel => exact ⟨m + 1, by omega, by omega, by go_num, hd6.drewN _⟩
                      case measure => simp [intOf]; omega
                    · have hne : F + dst (sn : Int) (m : Int) ≠ C := by rcases h4 with h | h; exact absurd h c1; exact h
                      have e1 : (F + dst (sn : Int) (m : Int) == C) = false := by simpa using hne
                      have e2 : (F + dst (sn : Int) (m : Int) != C) = true := by simpa using hne
                      have d1 : decide (F < 0) = false := by simp; omega
                      clear hF h4 hne
                      go_wp2_with fail
                      go_quiet ((go_at_call 57; exact Calls.quiet_of_same ((size_d _ _ (by omega) (by omega) (by omega) (by omega) _).mono fun _ _ ⟨p, q⟩ => ⟨p, q.symm⟩)))
                      clear es ea
                      go_wp2
                      go_roundw
                      case rel => exact ⟨m + 1, by omega, by omega, by go_num, hd6.drewN _⟩
                      case measure => simp [intOf]; omega
                  · obtain rfl : tn = m := by omega
                    have h1 := SR1.out
                    have h2 := SR2.out
                    generalize hF : cst X lo up (n - 1 - i) i (tn : Int) = F at *
                    have es : IntKind.i64.wrap (F + dst (sn : Int) (tn : Int)) = F + dst (sn : Int) (tn : Int) := by rw [IntKind.wrap_i64]; omega
                    have c1 : ¬ F < 0 := by omega
                    have e1 : (F + dst (sn : Int) (tn : Int) == C) = true := by simpa using h2
                    have e2 : (F + dst (sn : Int) (tn : Int) != C) = false := by simpa using h2
                    have d1 : decide (F < 0) = false := by simp; omega
                    have hl1 : i + 1 ≤ maxLen := by unfold maxLen; omega
                    have hl2 : (i + 1) * 8 ≤ 140737488355328 := by omega
                    clear hF h1 h2
                    go_wp2_with fail
                    go_quiet ((go_at_call 57; exact Calls.quiet_of_same ((size_d _ _ (by omega) (by omega) (by omega) (by omega) _).mono fun _ _ ⟨p, q⟩ => ⟨p, q.symm⟩)))
                    clear es ea ti tp fm cv e1 e2 ip1
                    have O7 := Lib.hid (fun m => drew_owns (hd6.drewN m) hown.out)
                    have B7 := Lib.hid (fun m => HB6.out.trans ((hd6.drewN m).below' z6))
                    have z7 := (hd6.below).size
                    rename World => w7
                    go_wp2_with (at_builtin; refine wpList_append_own _ rfl _ _ 22 rfl w5.heap.size 2 i0 (.int .i64 0) 1 8 Try.underlying22 hi0 hz0 hz1 hz2 rfl (by decide) _ _ _ rfl ((O7.out _).alloc _) ⟨w7.heap.size, 0, none⟩ 1 1 [.int .i64 (tn : Int)] rfl rfl ?c1 ?c2 hl1 hl2 ?c5 ?_)
                    case c1 => intro j u hj; rcases j with _ | j <;> simp at hj; subst hj; exact (own_new (w7.drewN _) (tn : Int) _).cell (j := 0) (by omega)
                    case c2 => intro u hu; simp at hu; subst hu; rfl
                    case c5 => simp <;> omega
                    intro v8 w8 hown8 hgrow8 _
                    have g8 : Below w5.heap.size w5 w8 := Below.grown ((B7.out _).alloc (by simp; omega) _) hgrow8 (by simp; omega) (owns_block hown.out)
                    have O8 := Lib.hid (show w8.ownsRow w5.heap.size 2 1 v8 (i + 1) ((l'.take (i + 1)).map (Value.int .i64)) by rw [HTS2.out, List.map_take]; exact hown8)
                    clear hown8 hgrow8
                    go_wp2
                    go_roundw
                    case rel => exact ⟨i + 1, i, rfl, by omega, by go_num, O8.out, g8⟩
                    case measure => simp [intOf]; omega
              · obtain rfl : n = i := by omega
                have HRW := Lib.hid hrow
                have HTK := Lib.hid (show l'.take n = l' from List.take_of_length_le (by rw [HLL.out]; exact Nat.le_refl _))
                clear hrow hip
                go_wp2
                go_ret2
                exact ⟨A6, c6, by rw [HLL.out]; rfl, by rw [HLL.out]; exact hc1, hc2, by have := HRW.out; rw [HTK.out] at this; rw [HLL.out]; exact this.wide (by omega) (Nat.le_refl _), BW5.out.trans (HB6.out.mono (by omega))⟩
    · obtain ⟨q, rfl⟩ : ∃ q, i = q + 1 := ⟨i - 1, by omega⟩
      rw [show ((q + 1 : Nat) : Int) - 1 = (q : Int) by omega]
      have hq0 : (0 : Int) ≤ (q : Int) := by omega
      have hqn : (q : Int) < (n : Int) := by omega
      have hXq := HX.out q (by omega)
      obtain ⟨V0, hT0, _, _⟩ := HT.out
      have hTc := hT0.cell (j := q) (by omega)
      have hTf := hT0.frozen q
      have HT0 := Lib.hid hT0
      clear hT0
      go_wp2_with fail
      rename World => wo
      obtain ⟨w2, hw2⟩ : ∃ w2, w2 = (wo.setCell ⟨w.heap.size, q, none⟩ (.slice (some ⟨wo.heap.size, 0, none⟩) 61 61)).alloc (Obj.cells (madeCells #[Value.int IntKind.i64 0] 61) 2) := ⟨_, rfl⟩
      rw [← hw2]
      have O2 := Lib.hid (show Own w2 wo.heap.size 2 61 (half (fun k => cst X lo up (n - 1 - q) q k) 0 0) by
        have h := own_made (wo.setCell ⟨w.heap.size, q, none⟩ (.slice (some ⟨wo.heap.size, 0, none⟩) 61 61)) #[.int .i64 0] 61 61 2 (fun i hi => by match i, hi with | 0, _ => rfl) (by simp) rfl
        rw [← hw2, show (wo.setCell ⟨w.heap.size, q, none⟩ (.slice (some ⟨wo.heap.size, 0, none⟩) 61 61)).heap.size = wo.heap.size by simp] at h
        exact h.congr fun k _ => half_zero _ k)
      have K2 := Lib.hid (show ∀ k, k < wo.heap.size → k ≠ w.heap.size → w2.heap[k]? = wo.heap[k]? from fun k h1 h2 => by
        rw [hw2]
        exact (Go.Deep.blk_alloc_lt _ _ _ (by simpa using h1)).trans (Go.Deep.blk_setCell_other _ _ _ _ (by simp; omega)))
      have KT := Lib.hid (show w2.heap[w.heap.size]? = (wo.setCell ⟨w.heap.size, q, none⟩ (.slice (some ⟨wo.heap.size, 0, none⟩) 61 61)).heap[w.heap.size]? by
        rw [hw2]
        exact Go.Deep.blk_alloc_lt _ _ _ (by simpa using hTl))
      have Z2 : w2.heap.size = wo.heap.size + 1 := by rw [hw2]; simp
      have z2 : wo.heap.size < w2.heap.size := by omega
      have TQ2 := Lib.hid (show w2.cell? ⟨w.heap.size, q, none⟩ = some (.slice (some ⟨wo.heap.size, 0, none⟩) 61 61) from
        (World.cell?_of_block (a := ⟨w.heap.size, q, none⟩) KT.out).trans (World.cell?_setCell_same _ _ _ hTc))
      have TQ1 := Lib.hid (show ∀ (hq1 : q + 1 < n), ∃ g, w2.cell? ⟨w.heap.size, q + 1, none⟩ = some (.slice (some ⟨g, 0, none⟩) 61 61) ∧ g ≠ wo.heap.size ∧ g < w2.heap.size ∧ ∀ k, k < 61 → w2.cell? ⟨g, k, none⟩ = some (.int .i64 (cst X lo up (n - 1 - (q + 1)) (q + 1) (k : Int))) from fun hq1 => by
        obtain ⟨g, e1, e2, e3, e4, e5⟩ := HT.out.row (Nat.le_refl _) hq1
        refine ⟨g, ?_, by omega, by omega, fun k hk => (World.cell?_of_block (a := ⟨g, k, none⟩) (K2.out g e4 e2)).trans (e5 k hk)⟩
        exact (World.cell?_of_block (a := ⟨w.heap.size, q + 1, none⟩) KT.out).trans ((World.cell?_setCell_other _ _ _ _ (fun e => by injection e with _ e; omega)).trans e1))
      have LV2 := Lib.hid (show w2.cell? ⟨b, o + q, none⟩ = some (.int .i64 (X q)) from (World.cell?_of_block (a := ⟨b, o + q, none⟩) (K2.out b (by omega) (by omega))).trans ((HB.out.cell (p := ⟨b, o + q, none⟩) hb).trans (HI.out q (by omega))))
      have BW2 := Lib.hid (show Below w.heap.size w w2 by
        rw [hw2]
        exact Below.alloc (Below.setCell HB.out (Nat.le_refl _) _) (by simp; omega) _)
      have Z2' := Lib.hid Z2
      clear hw2 hTc hTf Z2
      go_loopw [11] (fun t wr => ∃ a : Nat, a ≤ 61 ∧ t = .int .i64 a ∧ Hid (Own wr wo.heap.size 2 61 (half (fun k => cst X lo up (n - 1 - q) q k) a 0)) ∧ Hid (WroteIn w2 wr wo.heap.size (wo.heap.size + 1))) (fun t _ => 61 - (intOf t).toNat)
      case atStart => exact ⟨0, by omega, rfl, O2.out, WroteIn.refl _ _ _⟩
      case round =>
        obtain ⟨a, ha, rfl, HO, HW⟩ := hrel
        have zr := HW.out.size
        by_cases hlt : a < 61
        · have hlt' : (a : Int) ≤ 60 := by omega
          have ha0 : (0 : Int) ≤ (a : Int) := by omega
          have ha1 : (a : Int) < 61 := by omega
          have hd : decide ((a : Int) ≤ 60) = true := by simp; omega
          have p0 := HO.out.cell (j := a) (by omega)
          have f0 := HO.out.frozen a
          have tq := (HW.out.cell (b := w.heap.size) (o := q) (by omega) (by omega)).trans TQ2.out
          have lv := (HW.out.cell (b := b) (o := o + q) (by omega) (by omega)).trans LV2.out
          by_cases h3 : 3 ≤ a
          · have h3' : ¬ (a : Int) < 3 := by omega
            cases hg : goodB (X q) lo up (a : Int)
            · have HCA := Lib.hid (show (fun k => cst X lo up (n - 1 - q) q k) (a : Int) = -1 from cst_bad hg)
              go_wp2_with (go_at_call 56; refine (good_s (X q) (a : Int) lo up _ hXq.1 hXq.2 (by omega) (by omega) HA.out).mono ?_; rintro e w' ⟨rfl, rfl⟩)
              go_wp2
              go_roundw
              case rel => exact ⟨a + 1, by omega, by go_num, (HO.out.set a (-1)).congr (fun k _ => (half_set k).trans (half_next HCA.out k)), HW.out.set (Nat.le_refl _) (Nat.lt_succ_self _) _⟩
              case measure => simp [intOf]; omega
            · have HG := Lib.hid hg
              by_cases hq1 : q + 1 = n
              · have e1 : ((q : Int) == (n : Int) - 1) = true := by simp; omega
                have HCA := Lib.hid (show (fun k => cst X lo up (n - 1 - q) q k) (a : Int) = 0 by
                  show cst X lo up (n - 1 - q) q (a : Int) = 0
                  rw [show n - 1 - q = 0 by omega]; exact cst_zero (by omega) HG.out)
                have OS := Lib.hid ((HO.out.set a (-1)).congr (fun k _ => half_set (u := -1) k))
                go_wp2_with (go_at_call 56; refine (good_s (X q) (a : Int) lo up _ hXq.1 hXq.2 (by omega) (by omega) HA.out).mono ?_; rintro e w' ⟨rfl, rfl⟩)
                go_roundw
                case rel => exact ⟨a + 1, by omega, by go_num, ((OS.out.set a 0).congr (fun k _ => (half_set k).trans (half_next HCA.out k))), (HW.out.set (Nat.le_refl _) (Nat.lt_succ_self _) _).set (Nat.le_refl _) (Nat.lt_succ_self _) _⟩
                case measure => simp [intOf]; omega
              · have e1 : ((q : Int) == (n : Int) - 1) = false := by simp; omega
                obtain ⟨r, hr⟩ : ∃ r, n - 1 - q = r + 1 := ⟨n - 2 - q, by omega⟩
                obtain ⟨m0, hm0⟩ : ∃ m0 : Nat, mxI 0 ((a : Int) - 6) = m0 := ⟨(mxI 0 ((a : Int) - 6)).toNat, by unfold mxI; split <;> omega⟩
                obtain ⟨E, hE⟩ : ∃ E : Nat, mnI 60 ((a : Int) + 6) = E := ⟨(mnI 60 ((a : Int) + 6)).toNat, by unfold mnI; split <;> omega⟩
                have hmE : m0 ≤ E + 1 ∧ E ≤ 60 := by
                  have hx : mxI 0 ((a : Int) - 6) = if (a : Int) - 6 < 0 then 0 else (a : Int) - 6 := rfl
                  have hy : mnI 60 ((a : Int) + 6) = if 60 < (a : Int) + 6 then 60 else (a : Int) + 6 := rfl
                  rw [hx] at hm0
                  rw [hy] at hE
                  split at hm0 <;> split at hE <;> omega
                have HCA := Lib.hid (show ∀ K : Nat, m0 + K = E + 1 → (fun k => cst X lo up (n - 1 - q) q k) (a : Int) = rn (cst X lo up r (q + 1)) (a : Int) m0 K from fun K hK => by
                  show cst X lo up (n - 1 - q) q (a : Int) = _
                  rw [hr]
                  exact (cst_rn (by omega) (by omega) (by omega) HG.out hm0.symm (by rw [hE]; omega)).symm)
                have HM0 := Lib.hid hm0
                have HE0 := Lib.hid hE
                obtain ⟨g1, gT, gne, glt, gc⟩ := TQ1.out (by omega)
                rw [show n - 1 - (q + 1) = r by omega] at gc
                have GT := Lib.hid gT
                have GC := Lib.hid gc
                have hr11 : r ≤ 11 := by omega
                have OS := Lib.hid ((HO.out.set a (-1)).congr (fun k _ => half_set (u := -1) k))
                have WS := Lib.hid (HW.out.set (g := wo.heap.size) (i := a) (Nat.le_refl _) (Nat.lt_succ_self _) (.int .i64 (-1)))
                obtain ⟨hmE1, hmE2⟩ := hmE
                clear hr hm0 hE gT gc
                go_wp2_with (first | (go_at_call 56; refine (good_s (X q) (a : Int) lo up _ hXq.1 hXq.2 (by omega) (by omega) HA.out).mono ?_; rintro e w' ⟨rfl, rfl⟩) | (go_at_call 51; refine (max_s _ _ _).mono ?_; rintro e w' ⟨rfl, rfl⟩; rw [HM0.out]))
                generalize wr.setCell ⟨wo.heap.size, a, none⟩ (.int .i64 (-1)) = w3 at *
                rename World => w3
                go_loopw [12] (fun t wr => ∃ k : Nat, m0 + k ≤ E + 1 ∧ t = .int .i64 ((m0 + k : Nat) : Int) ∧ Hid (Own wr wo.heap.size 2 61 (half (fun k => cst X lo up (n - 1 - q) q k) a (rn (cst X lo up r (q + 1)) (a : Int) m0 k))) ∧ Hid (WroteIn w2 wr wo.heap.size (wo.heap.size + 1))) (fun t _ => E + 1 - (intOf t).toNat)
                case atStart => exact ⟨0, by omega, rfl, OS.out, WS.out⟩
                case round =>
                  obtain ⟨k, hk, rfl, HOk, HWk⟩ := hrel
                  have zk := HWk.out.size
                  by_cases hkE : m0 + k ≤ E
                  · have hkk := hkE
                    have HMM := Lib.hid (show ((m0 : Int) + (k : Int)) = ((m0 + k : Nat) : Int) by omega)
                    generalize hmm : m0 + k = mm at *
                    have hle : (mm : Int) ≤ (E : Int) := by omega
                    have hm0' : (0 : Int) ≤ (mm : Int) := by omega
                    have hm61 : (mm : Int) < 61 := by omega
                    have hle60 : (mm : Int) ≤ 60 := by omega
                    have tqk := (HWk.out.cell (b := w.heap.size) (o := q) (by omega) (by omega)).trans TQ2.out
                    have tq1 := (HWk.out.cell (b := w.heap.size) (o := q + 1) (by omega) (by omega)).trans GT.out
                    have fm := (HWk.out.cell (b := g1) (o := mm) glt (by omega)).trans (GC.out mm (by omega))
                    have rv := HOk.out.cell (j := a) (by omega)
                    have fz := HOk.out.frozen a
                    rw [half_at] at rv
                    obtain ⟨cb1, cb2⟩ := cst_bd (X := X) (lo := lo) (hi := up) (i := q + 1) (s := (mm : Int)) hr11 hle60
                    obtain ⟨db1, db2⟩ := dst_bd (a := (a : Int)) (b := (mm : Int)) (l := 0) (h := 60) ha0 hlt' hm0' hle60
                    have HY := Lib.hid (fun h => rn_stepY (f := cst X lo up r (q + 1)) (s := (a : Int)) (m0 := (m0 : Int)) (k := k) (mm := (mm : Int)) HMM.out h)
                    have HNn := Lib.hid (fun h => rn_stepN (f := cst X lo up r (q + 1)) (s := (a : Int)) (m0 := (m0 : Int)) (k := k) (mm := (mm : Int)) HMM.out h)
                    have HOk2 := Lib.hid (fun m u => ((HOk.out.drewN m).set a u).congr (fun k' _ => half_set (u := u) k'))
                    have WSk := Lib.hid (fun m u => (HWk.out.drewN m).set (g := wo.heap.size) (i := a) (Nat.le_refl _) (Nat.lt_succ_self _) (.int .i64 u))
                    generalize hF : cst X lo up r (q + 1) (mm : Int) = F at *
                    generalize hRR : rn (cst X lo up r (q + 1)) (a : Int) (m0 : Int) k = R at *
                    have eq1 : IntKind.i64.wrap ((q : Int) + 1) = (q : Int) + 1 := by rw [IntKind.wrap_i64]; omega
                    have eq2 : (0 : Int) ≤ (q : Int) + 1 := by omega
                    have eq3 : ((q : Int) + 1).toNat = q + 1 := by omega
                    have eq4 : (q : Int) + 1 < (n : Int) := by omega
                    have ea : IntKind.i64.wrap ((a : Int) - (mm : Int)) = (a : Int) - (mm : Int) := by rw [IntKind.wrap_i64]; omega
                    have es : IntKind.i64.wrap (F + dst (a : Int) (mm : Int)) = F + dst (a : Int) (mm : Int) := by rw [IntKind.wrap_i64]; omega
                    have HKK := Lib.hid hmm
                    clear hF hRR hmm hkE
                    by_cases c1 : 0 ≤ F
                    · by_cases c2 : R < 0
                      · have HN := Lib.hid (HY.out ⟨c1, .inl c2⟩)
                        clear HY HNn
                        go_wp2_with (go_at_call 52; refine (min_s _ _ _).mono ?_; rintro e w' ⟨rfl, rfl⟩; rw [HE0.out])
                        go_quiet ((go_at_call 57; exact Calls.quiet_of_same ((size_d _ _ (by omega) (by omega) (by omega) (by omega) _).mono fun _ _ ⟨p, q⟩ => ⟨p, q.symm⟩)))
                        clear es ea
                        go_wp2
                        go_roundw
                        case rel => exact ⟨k + 1, by have := HKK.out; omega, by have := HKK.out; congr 1; omega, by rw [HN.out]; exact HOk2.out _ _, WSk.out _ _⟩
                        case measure => simp [intOf]; omega
                      · by_cases c3 : F + dst (a : Int) (mm : Int) < R
                        · have HN := Lib.hid (HY.out ⟨c1, .inr c3⟩)
                          clear HY HNn
                          go_wp2_with (go_at_call 52; refine (min_s _ _ _).mono ?_; rintro e w' ⟨rfl, rfl⟩; rw [HE0.out])
                          go_quiet ((go_at_call 57; exact Calls.quiet_of_same ((size_d _ _ (by omega) (by omega) (by omega) (by omega) _).mono fun _ _ ⟨p, q⟩ => ⟨p, q.symm⟩)))
                          clear es ea
                          go_wp2
                          go_roundw
                          case rel => exact ⟨k + 1, by have := HKK.out; omega, by have := HKK.out; congr 1; omega, by rw [HN.out]; exact HOk2.out _ _, WSk.out _ _⟩
                          case measure => simp [intOf]; omega
                        · have HN := Lib.hid (HNn.out (fun h => by rcases h.2 with h | h <;> omega))
                          clear HY HNn
                          go_wp2_with (go_at_call 52; refine (min_s _ _ _).mono ?_; rintro e w' ⟨rfl, rfl⟩; rw [HE0.out])
                          go_quiet ((go_at_call 57; exact Calls.quiet_of_same ((size_d _ _ (by omega) (by omega) (by omega) (by omega) _).mono fun _ _ ⟨p, q⟩ => ⟨p, q.symm⟩)))
                          clear es ea
                          go_wp2
                          go_roundw
                          case rel => exact ⟨k + 1, by have := HKK.out; omega, by have := HKK.out; congr 1; omega, by rw [HN.out]; exact HOk.out.drewN _, HWk.out.drewN _⟩
                          case measure => simp [intOf]; omega
                    · have HN := Lib.hid (HNn.out (fun h => c1 h.1))
                      clear HY HNn
                      go_wp2_with (go_at_call 52; refine (min_s _ _ _).mono ?_; rintro e w' ⟨rfl, rfl⟩; rw [HE0.out])
                      go_quiet ((go_at_call 57; exact Calls.quiet_of_same ((size_d _ _ (by omega) (by omega) (by omega) (by omega) _).mono fun _ _ ⟨p, q⟩ => ⟨p, q.symm⟩)))
                      clear es ea
                      go_wp2
                      go_roundw
                      case rel => exact ⟨k + 1, by have := HKK.out; omega, by have := HKK.out; congr 1; omega, by rw [HN.out]; exact HOk.out.drewN _, HWk.out.drewN _⟩
                      case measure => simp [intOf]; omega
                  · have hkE1 : m0 + k = E + 1 := by omega
                    have HCK := Lib.hid (HCA.out k hkE1)
                    have hnle : ¬ ((m0 + k : Nat) : Int) ≤ (E : Int) := by omega
                    generalize m0 + k = mm at *
                    clear hkE1 hkE
                    go_wp2_with (go_at_call 52; refine (min_s _ _ _).mono ?_; rintro e w' ⟨rfl, rfl⟩; rw [HE0.out])
                    go_roundw
                    case rel => exact ⟨a + 1, by omega, by go_num, HOk.out.congr (fun k _ => half_next HCK.out k), HWk.out⟩
                    case measure => simp [intOf]; omega
          · have h3' : (a : Int) < 3 := by omega
            have HCA := Lib.hid (show (fun k => cst X lo up (n - 1 - q) q k) (a : Int) = -1 from cst_low (by omega))
            go_wp2
            go_roundw
            case rel => exact ⟨a + 1, by omega, by go_num, (HO.out.set a (-1)).congr (fun k _ => (half_set k).trans (half_next HCA.out k)), HW.out.set (Nat.le_refl _) (Nat.lt_succ_self _) _⟩
            case measure => simp [intOf]; omega
        · obtain rfl : a = 61 := by omega
          have HTA := Lib.hid (Tab.add HT.out (w2 := wr) (q := q) (by omega) rfl (by omega) ((HW.out.block _ (by omega) (by omega)).trans KT.out) (fun k h1 h2 => (HW.out.block k (by omega) (by omega)).trans (K2.out k h1 h2)) (HO.out.congr fun k hk => half_all k (by omega)))
          have HBB := Lib.hid (BW2.out.trans (HW.out.below (by omega) (by omega)))
          go_wp2
          go_roundw
          case rel => exact ⟨q, by omega, rfl, HTA.out, HBB.out⟩
          case measure => first | (simp [intOf]; done) | (simp [intOf]; omega)

end Go.Proofs.Ythcebbamgoklcaa.shp
