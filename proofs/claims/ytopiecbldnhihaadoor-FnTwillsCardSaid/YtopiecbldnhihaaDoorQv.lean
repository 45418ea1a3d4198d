/-
  FloatsOf and IsPlain of the model. No condition of a statement lies here.
-/
import Derived.Test.YtopiecbldnhihaaDoorQs
import Derived.Test.YtopiecbldnhihaaDoorQb
namespace Go.Proofs.YtopiecbldnhihaaDoor.twl
open Go.ChangeShapes Go.WideShapes Go.ChangeAt Go.RowKit Go.Deep Go.Proofs.YtopiecbldnhihaaDoor.mem Go.Proofs.YtopiecbldnhihaaDoor.rod Go.Proofs.YtopiecbldnhihaaDoor.nums Go.Proofs.YtopiecbldnhihaaDoor.shp Go.Proofs.YtopiecbldnhihaaDoor.wv Go.Proofs.YtopiecbldnhihaaDoor.wk
set_option linter.unusedVariables false
set_option maxRecDepth 100000

theorem drew_owns {w w' : World} (d : Drew w w') {B n size : Nat} {E : TypeId} {v : Value} {xs : List Value} (h : w.ownsRow B E size v n xs) : w'.ownsRow B E size v n xs := by obtain ⟨m, rfl⟩ := d; exact h
theorem drew_tw {w w' : World} (d : Drew w w') {b : Nat} {v : Value} {st : Int} (h : TwBlk w b v st) : TwBlk w' b v st := by obtain ⟨m, rfl⟩ := d; exact h
theorem drew_below {w w' : World} (d : Drew w w') : Below w.heap.size w w' := by obtain ⟨m, rfl⟩ := d; exact drewN_below (Below.refl _ _) m
theorem drew_size {w w' : World} (d : Drew w w') : w'.heap.size = w.heap.size := by obtain ⟨m, rfl⟩ := d; rfl

set_option maxHeartbeats 1000000 in
theorem floatsOf_s_no (A : Option Addr) (n c : Nat) (X : Nat → Int) (st : Int) (w : World) (hn : n ≤ maxLen) (hr : Sl w A n 1 X) (hv : twB n X st = false) :
    Calls Tryd.prog 14 #[.agg #[.slice A n c, .int .i64 st]] w fun e w' => e = .returned (.tuple #[.int .i64 0, .int .i64 0, .int .i64 1]) ∧ Below w.heap.size w w' := by
  have HR := Lib.hid hr
  clear hr
  go_enter Tryd.func14, Tryd.ntmps14
  go_wp2_with (go_at_call 31; refine (okT_s A n c w.heap.size X st _ hn (HR.out.below (K := w.heap.size) (by go_grown) (Nat.le_refl _)) (by go_simp) (by go_simp)).mono ?_; rintro e w' ⟨rfl, m, rfl⟩)
  go_returns
  exact ⟨rfl, drewN_below (by go_grown) _⟩
theorem at09_l (s : ByteArray) (t k r : Nat) (w : World) (h0 : 0 < s.size) (hs : s.size ≤ 12) (ht : t ≤ s.size) (hk : k ≤ 40) (hr : r ≤ 40) :
    Calls Tryd.prog 34 #[.string s, .int .i64 (t : Int), .int .i64 (k : Int), .int .i64 (r : Int)] w fun e w' => e = .returned (.int .u8 ((lineU s t k r).toNat : Int)) ∧ Drew w w' := at09_s s t k r w h0 hs ht hk hr

set_option maxHeartbeats 8000000 in
theorem floatsOf_s (A : Option Addr) (n c : Nat) (X : Nat → Int) (t : Nat) (w : World) (hr : Sl w A n 1 X) (hv : twB n X (t : Int) = true) :
    Calls Tryd.prog 14 #[.agg #[.slice A n c, .int .i64 (t : Int)]] w fun e w' => e = .returned (.tuple #[.int .i64 (lrun (byteAt (rowB X n)) (rowB X n).size : Nat), .int .i64 (alongN (rowB X n) t : Nat), .int .i64 0]) ∧ Below w.heap.size w w' := by
  have T := twB_of hv
  have hz := row_size T
  have h12 := T.n12
  have hw := T.wide
  have t1 := T.st1
  have t2 := T.st2
  have hn : n ≤ maxLen := by unfold maxLen; omega
  have HR := Lib.hid hr
  have HRW := Lib.hid (fun W (hw : Below w.heap.size w W) p0 => row_s A n c w.heap.size X W h12 T.part (HR.out.below hw (Nat.le_refl _)) p0)
  rw [← hz] at hw t2
  have h0 : 0 < (rowB X n).size := by omega
  have h12s : (rowB X n).size ≤ 12 := by omega
  have htn : t ≤ (rowB X n).size := by omega
  have hR0 := rnd_pos t h0
  have hR1 := rnd_le (rowB X n).size t
  have HG := Lib.hid (fun W => Go.Proofs.YtopiecbldnhihaaDoor.rod.gcd_s ((rowB X n).size : Int) (t : Int) (by omega) (by omega) (by omega) (by omega) W)
  have hgq := rnd_gcd (n := (rowB X n).size) (t := t) (by omega)
  have hg1 := gcdI_pos (x := ((rowB X n).size : Int)) (y := (t : Int)) (by omega)
  generalize gcdI ((rowB X n).size : Int) (t : Int) = G at *
  have hgq' : ((rowB X n).size : Int).tdiv G = (rnd (rowB X n).size t : Nat) := by rw [Int.tdiv_eq_ediv_of_nonneg (by omega)]; exact hgq
  have hG0 : (G == 0) = false := beq_false_of_ne (by omega)
  have HLR := Lib.hid (fun W => run09_s (rowB X n) W h0 h12s)
  have HLL := Lib.hid (fun k W => run09_s (lineB (rowB X n) t k) W (by rw [lineB_size]; omega) (by rw [lineB_size]; omega))
  have HAT := Lib.hid (fun (k r : Nat) W (hk : k ≤ 40) (hr : r ≤ 40) => at09_l (rowB X n) t k r W h0 h12s htn hk hr)
  generalize rowB X n = s at *
  have HLB : Hid (∀ k, lineB s t k = ⟨(mkL (lineU s t k) (rnd s.size t)).toArray⟩) := fun _ => rfl
  have HL12 := Lib.hid (fun k => show lrun (byteAt (lineB s t k)) (lineB s t k).size ≤ 12 by have := lrun_le (byteAt (lineB s t k)) (lineB s t k).size; rw [lineB_size] at this ⊢; omega)
  obtain ⟨L, hL⟩ : ∃ L : Nat → Nat, L = fun k => lrun (byteAt (lineB s t k)) (lineB s t k).size := ⟨_, rfl⟩
  have HLE : Hid (∀ k, lrun (byteAt (lineB s t k)) (lineB s t k).size = L k) := by intro k; rw [hL]
  have HAE : Hid (alongN s t = hiTo L s.size) := by rw [Hid, hL]; rfl
  rw [HAE.out]
  clear hr hz hL HAE
  generalize rnd s.size t = R at *
  generalize lrun (byteAt s) s.size = lw at *
  obtain ⟨i0, hi0, hz0, hz1, hz2⟩ := info_parts info_u8
  go_enter Tryd.func14, Tryd.ntmps14
  go_wp2_with fail
  refine (okT_s A n c w.heap.size X (t : Int) _ hn (HR.out.below (K := w.heap.size) (by go_grown) (Nat.le_refl _)) (by go_simp) (by go_simp)).mono ?_
  rintro e w1 ⟨rfl, hd⟩
  have HK := Lib.hid (drew_tw hd (Go.Deep.blk_alloc_new _ _ : TwBlk (w.alloc (Obj.cells #[Value.slice A n c, .int .i64 (t : Int)] 26)) w.heap.size (.slice A n c) (t : Int)))
  have HB : Hid (Below w.heap.size w w1) := by obtain ⟨m, rfl⟩ := hd; exact drewN_below (by go_grown) m
  clear hd
  have p0 := HK.out.cell0
  rw [hv]
  go_wp2_with (go_at_call 33; refine (HRW.out _ HB.out p0).mono ?_; rintro e w' ⟨rfl, rfl⟩)
  clear p0
  go_loopw [8, 7] (fun i h wr => ∃ k : Nat, k ≤ s.size ∧ i = .int .i64 (k : Int) ∧ h = .int .i64 (hiTo L k : Nat) ∧ Hid (TwBlk wr w.heap.size (.slice A n c) (t : Int)) ∧ Hid (Below w.heap.size w wr)) (fun i _ _ => s.size - (intOf i).toNat)
  case atStart => exact ⟨0, by omega, rfl, rfl, HK, HB⟩
  case round =>
    clear HK HB
    obtain ⟨k, hk, rfl, rfl, HK, HB⟩ := hrel
    have zr := HK.out.lt
    by_cases hlt : k < s.size
    · have hlt' : (k : Int) < (s.size : Int) := by omega
      have hk0 : (0 : Int) ≤ (k : Int) := by omega
      have HL1 := Lib.hid (fun W => HLL.out k W)
      rw [HLE.out] at HL1
      have HS := Lib.hid (show hiTo L (k + 1) = max (hiTo L k) (L k) from rfl)
      have HLB1 := Lib.hid (HLB.out k)
      have HAT1 := Lib.hid (fun (r : Nat) (hr : r ≤ 40) W => HAT.out k r W (by omega) hr)
      generalize lineB s t k = line at *
      generalize lineU s t k = f at *
      generalize L k = l0 at *
      generalize hiTo L k = h0' at *
      go_wp2_with fail
      have HO0 : Hid ((wr.alloc (Obj.cells #[] 5)).ownsRow w.heap.size 5 1 (.slice (some ⟨wr.heap.size, 0, none⟩) 0 0) 0 ((mkL f 0).map bv)) := ownsB_empty wr _ _ HB.out.size
      have HK0 := Lib.hid (HK.out.of_block (w' := wr.alloc (Obj.cells #[] 5)) (Go.Deep.blk_alloc_lt _ _ _ zr))
      have HB0 := Lib.hid (show Below w.heap.size w (wr.alloc (Obj.cells #[] 5)) from HB.out.alloc HB.out.size _)
      generalize wr.alloc (Obj.cells #[] 5) = wa at *
      generalize Value.slice (some ⟨wr.heap.size, 0, none⟩) 0 0 = va at *
      clear HK HB zr
      go_loopw [10, 9] (fun i v wr => ∃ r : Nat, r ≤ R ∧ i = .int .i64 (r : Int) ∧ Hid (wr.ownsRow w.heap.size 5 1 v r ((mkL f r).map bv)) ∧ Hid (TwBlk wr w.heap.size (.slice A n c) (t : Int)) ∧ Hid (Below w.heap.size w wr)) (fun i _ _ => R - (intOf i).toNat)
      case atStart => exact ⟨0, by omega, rfl, HO0, HK0, HB0⟩
      case round =>
        clear HO0 HK0 HB0
        obtain ⟨r, hr, rfl, HO, HK, HB⟩ := hrel
        have c1 := HK.out.cell1
        by_cases hlr : r < R
        · have hlr' : (r : Int) < (R : Int) := by omega
          have hl1 : r + 1 ≤ maxLen := by unfold maxLen; omega
          have hl2 : (r + 1) * 1 ≤ 140737488355328 := by omega
          have HA2 := Lib.hid (HAT1.out r (by omega))
          have HS2 := Lib.hid (mkL_succ f r)
          have hbv := Lib.hid (show bv (f r) = .int .u8 ((f r).toNat : Int) from rfl)
          generalize f r = b at *
          go_wp2_with (go_at_call 39; refine (HG.out _).mono ?_; rintro e w' ⟨rfl, rfl⟩)
          refine (HA2.out _).mono ?_
          rintro e w2 ⟨rfl, hd⟩
          have HO2 := Lib.hid (drew_owns hd HO.out)
          have HK2 := Lib.hid (drew_tw hd HK.out)
          have HB2 := Lib.hid (HB.out.trans ((drew_below hd).mono HB.out.size))
          have hzz := HB2.out.size
          clear hd HO HK HB
          go_wp2_with (at_builtin; refine wpList_append_own _ rfl _ _ 22 rfl w.heap.size 5 i0 (.int .u8 0) 1 1 Tryd.underlying22 hi0 hz0 hz1 hz2 rfl (by decide) _ _ _ rfl (HO2.out.alloc _) ⟨w2.heap.size, 0, none⟩ 1 1 [bv b] rfl rfl ?c1 ?c2 hl1 hl2 ?c5 ?_)
          case c1 => intro j u hj; rcases j with _ | j <;> simp at hj; subst hj; rw [hbv.out]; go_simp
          case c2 => intro u hu; simp at hu; subst hu; rfl
          case c5 => simp; omega
          intro v' w5 hown5 hgrow5 _
          have g5 : Below w.heap.size w w5 := Below.grown (HB2.out.alloc hzz _) hgrow5 (by simp; omega) (owns_block HO2.out)
          have HB5 := Lib.hid g5
          have HO5 := Lib.hid (ownsB_snoc hown5)
          have HK5 := Lib.hid (HK2.out.of_block (w' := w5) ((hgrow5.block w.heap.size (by simp; have := HK2.out.lt; omega) (fun e => ne_type HO2.out HK2.out (by decide) e.symm)).trans (Go.Deep.blk_alloc_lt _ _ _ HK2.out.lt)))
          clear hown5 hgrow5 g5
          go_wp2
          go_roundw
          case rel => exact ⟨r + 1, by omega, by go_num, by rw [HS2.out]; exact HO5.out, HK5, HB5⟩
          case measure => simp [intOf]; omega
        · obtain rfl : r = R := by omega
          have hcv : ∀ W : World, (W.ownsRow w.heap.size 5 1 u9 r ((mkL f r).map bv)) → (convert 22 9 u9).run Tryd.prog W = .ok (.string line) W := fun W hW => by
            rw [HLB1.out]
            exact str_of_owns (P := Tryd.prog) 22 9 5 Tryd.underlying22 Tryd.underlying5 Tryd.underlying9 (mkL f r) hW
          have hcv1 := hcv _ HO.out
          clear hcv
          have hBz := HB.out.size
          go_wp2_with (first
            | (go_at_call 39; refine (HG.out _).mono ?_; rintro e w' ⟨rfl, rfl⟩)
            | (go_at_call 48; refine (HL1.out _).mono ?_; rintro e w5 ⟨rfl, hd⟩)
            | (go_at_call 47; refine (max_s h0' l0 _).mono ?_; rintro e w' ⟨rfl, rfl⟩))
          have HK5 := Lib.hid (drew_tw hd HK.out)
          have HB5 := Lib.hid (HB.out.trans ((drew_below hd).mono hBz))
          clear hd
          go_roundw
          case rel => exact ⟨k + 1, by omega, by go_num, by rw [HS.out], HK5, HB5⟩
          case measure => simp [intOf]; omega
    · obtain rfl : k = s.size := by omega
      have hBz := HB.out.size
      go_wp2_with (go_at_call 48; refine (HLR.out _).mono ?_; rintro e w5 ⟨rfl, hd⟩)
      go_returns
      exact ⟨rfl, HB.out.trans ((drew_below hd).mono hBz)⟩

/-- the first k strokes differ from their neighbours -/
def plTo (s : ByteArray) (t k : Nat) : Prop := ∀ j, j < k → byteAt s j ≠ byteAt s ((j + 1) % s.size) ∧ byteAt s j ≠ byteAt s (plc s.size t j 1)
theorem plTo_succ {s : ByteArray} {t k : Nat} (h : plTo s t k) (h1 : byteAt s k ≠ byteAt s ((k + 1) % s.size)) (h2 : byteAt s k ≠ byteAt s (plc s.size t k 1)) : plTo s t (k + 1) := fun j hj => by
  by_cases e : j = k
  · subst e; exact ⟨h1, h2⟩
  · exact h j (by omega)
theorem plain_yes {s : ByteArray} {t : Nat} (h : plTo s t s.size) : plainB s t = true := decide_eq_true h
theorem plain_no {s : ByteArray} {t k : Nat} (hk : k < s.size) (h : byteAt s k = byteAt s ((k + 1) % s.size) ∨ byteAt s k = byteAt s (plc s.size t k 1)) : plainB s t = false := decide_eq_false fun q => by
  have := q k hk
  rcases h with h | h
  · exact this.1 h
  · exact this.2 h
theorem next_at {k N a : Nat} (h : a = (k + 1) % N) : ((k : Int) + 1) % (N : Int) = (a : Int) := by rw [h, Int.natCast_emod, Int.natCast_add]; rfl

end Go.Proofs.YtopiecbldnhihaaDoor.twl
