/-
  Contracts: the loose stakes, of the program and of the model; whether a weave is sound.
-/
import Derived.Test.YtbmdggcfoohmgaaDoorWd
import Derived.Test.YtbmdggcfoohmgaaDoorWs
import Derived.Test.YtbmdggcfoohmgaaDoorWl
namespace Go.Proofs.YtbmdggcfoohmgaaDoor.wk
open Go.ChangeShapes Go.WideShapes Go.ChangeAt Go.RowKit
open Go.Proofs.YtbmdggcfoohmgaaDoor.mem Go.Proofs.YtbmdggcfoohmgaaDoor.rod Go.Proofs.YtbmdggcfoohmgaaDoor.wv Go.Proofs.YtbmdggcfoohmgaaDoor.gm Go.Proofs.YtbmdggcfoohmgaaDoor.nums
set_option linter.unusedVariables false

/-- the loose stakes as numbers -/
def looseL (s : ByteArray) (n : Nat) : List Int := idxs (looseB (byteAt s) s.size n) n
theorem looseL_len (s : ByteArray) (n : Nat) : (looseL s n).length ≤ n := idxs_len _ _
theorem idxs_filter (p : Nat → Bool) (n : Nat) : idxs p n = ((List.range n).filter p).map (fun (i : Nat) => (i : Int)) := by
  induction n with
  | zero => rfl
  | succ n ih =>
    rw [List.range_succ, List.filter_append, List.map_append, ← ih]
    show idxs p n ++ _ = _
    cases h : p n <;> simp [h]
theorem looseL_nil (s : ByteArray) (n : Nat) : looseL s n = [] ↔ loose (byteAt s) s.size n = [] := by
  unfold looseL loose
  rw [idxs_filter]
  simp

set_option maxHeartbeats 8000000 in
set_option maxRecDepth 100000 in
theorem looseS_i (s : ByteArray) (n : Nat) (w : World) (hst : strokeB s = true) (hn : n ≤ 60) :
    Calls Tryd.prog 68 #[.agg #[.string s, .int .i64 (n : Int)]] w fun e w' => ∃ g, e = .returned (.slice (some ⟨g, 0, none⟩) (looseL s n).length n) ∧ w.heap.size ≤ g ∧ Own w' g 2 (looseL s n).length (fun j => (looseL s n).getD j 0) ∧ Below w.heap.size w w' := by
  obtain ⟨h0, hs, _⟩ := stroke_of hst
  have HST := Lib.hid hst
  have hmf : ∀ (fn : Fn) (first cap : Array Value) (w : World), (Instr.makeFunc fn first cap).run Tryd.prog w = .ok (.func fn first cap) w := fun _ _ _ _ => rfl
  clear hst
  go_enter Tryd.func68, Tryd.ntmps68
  go_wp2_with fail
  go_region_held3 (fun x => x.cell? ⟨w.heap.size, 0, none⟩ = some (.string s) ∧ x.cell? ⟨w.heap.size, 1, none⟩ = some (.int .i64 (n : Int))) (first | go_keep | exact ⟨r0, r1⟩ | exact ⟨q0, q1⟩ | exact ⟨p0, p1⟩)
    (first
      | (go_at_call 128; refine (indices_c n _ (by omega)).mono ?_; rintro e wi ⟨gI, rfl, hgI, hOI, hbI⟩
         have zI := hbI.size
         try simp at zI
         try simp at hgI
         have lI := hOI.lt
         have p0 : wi.cell? ⟨w.heap.size, 0, none⟩ = some (.string s) := by rw [(bcell hbI).1 _ _ (by first | omega | (simp; done) | (simp; omega))]; first | exact q0 | go_simp
         have p1 : wi.cell? ⟨w.heap.size, 1, none⟩ = some (.int .i64 (n : Int)) := by rw [(bcell hbI).1 _ _ (by first | omega | (simp; done) | (simp; omega))]; first | exact q1 | go_simp
         first
           | (have _t := BG
              have G2 : Grips wi bG s n := GM.below hGM hbI lG
              have B2 : Below w.heap.size w wi := Below.trans BG (hbI.mono (by first | omega | (simp; done) | (simp; omega))))
           | (have BI : Below w.heap.size w wi := Below.trans (by go_grown) (hbI.mono (by first | omega | (simp; done) | (simp; omega))))
         have OI := Lib.hid hOI
         clear hbI hOI)
      | (go_at_call 129; refine (grips_i s n _ h0 hs hn).mono ?_; rintro e wg ⟨bG, rfl, hbG, hGM, hB⟩
         have zG := hB.size
         try simp at zG
         try simp at hbG
         have lG := hGM.lt
         have q0 : wg.cell? ⟨w.heap.size, 0, none⟩ = some (.string s) := by rw [(bcell hB).1 _ _ (by first | omega | (simp; done) | (simp; omega))]; first | exact p0 | go_simp
         have q1 : wg.cell? ⟨w.heap.size, 1, none⟩ = some (.int .i64 (n : Int)) := by rw [(bcell hB).1 _ _ (by first | omega | (simp; done) | (simp; omega))]; first | exact p1 | go_simp
         first
           | (have _t := BI
              have O2 : Hid (Own wg gI 2 n (fun j => (j : Int))) := Lib.hid (OI.out.below hB (by first | omega | (simp; done) | (simp; omega)))
              have B2 : Below w.heap.size w wg := Below.trans BI (hB.mono (by first | omega | (simp; done) | (simp; omega))))
           | (have BG : Below w.heap.size w wg := Below.trans (by go_grown) (hB.mono (by first | omega | (simp; done) | (simp; omega))))
         clear hB)
      | (go_at_call 127
         first
           | (have _t := O2
              refine (deleteFunc_i s n bG gI _ HST.out hn hGM O2.out (by omega)).mono ?_
              rintro e wd ⟨rfl, hOD, hwd⟩
              have lD := hwd.size
              have r0 : wd.cell? ⟨w.heap.size, 0, none⟩ = some (.string s) := (hwd.cell (b := w.heap.size) (o := 0) (by first | omega | (simp; done) | (simp; omega)) (by first | omega | (simp; done) | (simp; omega))).trans q0
              have r1 : wd.cell? ⟨w.heap.size, 1, none⟩ = some (.int .i64 (n : Int)) := (hwd.cell (b := w.heap.size) (o := 1) (by first | omega | (simp; done) | (simp; omega)) (by first | omega | (simp; done) | (simp; omega))).trans q1
              have BD : Below w.heap.size w wd := Below.trans B2 (hwd.below (B := w.heap.size) (by first | omega | (simp; done) | (simp; omega)) (by first | omega | (simp; done) | (simp; omega))))
           | (have _t := G2
              refine (deleteFunc_i s n bG gI _ HST.out hn G2 OI.out (by omega)).mono ?_
              rintro e wd ⟨rfl, hOD, hwd⟩
              have lD := hwd.size
              have r0 : wd.cell? ⟨w.heap.size, 0, none⟩ = some (.string s) := (hwd.cell (b := w.heap.size) (o := 0) (by first | omega | (simp; done) | (simp; omega)) (by first | omega | (simp; done) | (simp; omega))).trans p0
              have r1 : wd.cell? ⟨w.heap.size, 1, none⟩ = some (.int .i64 (n : Int)) := (hwd.cell (b := w.heap.size) (o := 1) (by first | omega | (simp; done) | (simp; omega)) (by first | omega | (simp; done) | (simp; omega))).trans p1
              have BD : Below w.heap.size w wd := Below.trans B2 (hwd.below (B := w.heap.size) (by first | omega | (simp; done) | (simp; omega)) (by first | omega | (simp; done) | (simp; omega))))))
  all_goals
    go_wp2
    go_ret
    exact ⟨_, rfl, by omega, hOD, BD⟩

/-! ### the model's loose stakes -/
theorem frun_mk (g : Nat → UInt8) {m : Nat} (hm : 0 < m) : frun (byteAt (mkB g m)) (mkB g m).size = frun (fun i => ((g i).toNat : Int)) m := by
  unfold frun
  rw [mkB_size]
  have e : cyc (byteAt (mkB g m)) m = cyc (fun i => ((g i).toNat : Int)) m := funext fun i => by
    unfold cyc
    exact mkB_byte g (Nat.mod_lt _ hm)
  rw [e]
theorem lrun_mk (g : Nat → UInt8) {m : Nat} (hm : 0 < m) : lrun (byteAt (mkB g m)) (mkB g m).size = lrun (fun i => ((g i).toNat : Int)) m := by
  unfold lrun
  rw [mkB_size]
  have e : cyc (byteAt (mkB g m)) m = cyc (fun i => ((g i).toNat : Int)) m := funext fun i => by
    unfold cyc
    exact mkB_byte g (Nat.mod_lt _ hm)
  rw [e]
theorem stk_U (s : ByteArray) (n k : Nat) : stk (byteAt s) s.size n k = fun r => ((sideU s n r k).toNat : Int) := funext fun r => sideU_at s n r k

set_option maxHeartbeats 4000000 in
theorem looseS_s (s : ByteArray) (n : Nat) (w : World) (hst : strokeB s = true) (hn : n ≤ 60) :
    Calls Tryd.prog 120 #[.string s, .int .i64 (n : Int)] w fun e w' => ∃ A c, e = .returned (.slice A (looseL s n).length c) ∧ (looseL s n).length ≤ c ∧ c ≤ maxLen ∧ Row w' w.heap.size w'.heap.size A (looseL s n).length 1 2 (fun j => (looseL s n).getD j 0) ∧ Below w.heap.size w w' := by
  obtain ⟨h0, hs, _⟩ := stroke_of hst
  have hR0 := rnd_pos n h0
  have hR12 := rnd_le s.size n
  obtain ⟨i0, hi0, hz0, hz1, hz2⟩ := info_parts info_num
  have HK := Lib.hid (fun (k : Nat) (hk : k ≤ 60) W => stack_s s n k W h0 hs hn hk)
  have HR := Lib.hid (fun (k : Nat) W => run_s (mkB (fun r => sideU s n r k) (rnd s.size n)) W (by rw [mkB_size]; omega) (by rw [mkB_size]; omega))
  obtain ⟨q, hq⟩ : ∃ q, q = looseB (byteAt s) s.size n := ⟨_, rfl⟩
  have hF : ∀ k, (frun (byteAt (mkB (fun r => sideU s n r k) (rnd s.size n))) (mkB (fun r => sideU s n r k) (rnd s.size n)).size == 0) = q k := fun k => by
    rw [frun_mk _ (by omega), ← stk_U, hq]; exact stk_frun h0
  have HF := Lib.hid hF
  have hle : ∀ k, frun (byteAt (mkB (fun r => sideU s n r k) (rnd s.size n))) (mkB (fun r => sideU s n r k) (rnd s.size n)).size ≤ 12 := fun k => by
    refine Nat.le_trans (frun_le (by rw [mkB_size]; omega)) ?_
    rw [mkB_size]; omega
  have HLE := Lib.hid hle
  have hQ : looseL s n = idxs q n := by rw [hq]; rfl
  rw [hQ]
  clear hq hF hle hQ hst
  go_enter Tryd.func120, Tryd.ntmps120
  go_wp2_with fail
  go_loopw [6, 5] (fun i v wr => ∃ k : Nat, k ≤ n ∧ i = .int .i64 (k : Int) ∧ Hid (wr.ownsRow w.heap.size 2 1 v (idxs q k).length ((idxs q k).map (Value.int .i64))) ∧ Below w.heap.size w wr) (fun i _ _ => n - (intOf i).toNat)
  case atStart => exact ⟨0, by omega, rfl, owns_empty w _ _ (Nat.le_refl _), by go_grown⟩
  case round =>
    obtain ⟨k, hk, rfl, hown, hbl⟩ := hrel
    have HB := Lib.hid hbl
    have hzz := hbl.size
    clear hbl
    by_cases hlt : k < n
    · have hlt' : (k : Int) < (n : Int) := by omega
      have HK2 := Lib.hid (HK.out k (by omega))
      have HR2 := Lib.hid (HR.out k)
      have hf := HF.out k
      have hl := HLE.out k
      generalize frun (byteAt (mkB (fun r => sideU s n r k) (rnd s.size n))) (mkB (fun r => sideU s n r k) (rnd s.size n)).size = m at *
      generalize mkB (fun r => sideU s n r k) (rnd s.size n) = T at *
      cases hqk : q k
      · have hm : ¬ m = 0 := fun e => by
          rw [e, hqk] at hf
          exact absurd hf (by decide)
        have e1 : ((m : Int) == 0) = false := beq_false_of_ne (by omega)
        have HN := Lib.hid (idxs_no hqk)
        clear hf hqk
        go_wp2_with fail
        refine (HK2.out _).mono ?_
        rintro e w1 ⟨rfl, b1⟩
        have y1 := b1.size
        go_wp2_with fail
        refine (HR2.out _).mono ?_
        rintro e w2 ⟨rfl, b2⟩
        have y2 := b2.size
        have g2 := Lib.hid (HB.out.trans ((b1.trans (b2.mono y1)).mono hzz))
        have hown2 := Lib.hid (hown.out.kept (w' := w2) (row := none) ⟨by rw [b2.os, b1.os], by rw [b2.tape, b1.tape], by rw [b2.output, b1.output], by omega, fun i hi _ => (b2.block i (by omega)).trans (b1.block i hi)⟩ (by cases hv : Value.ownBlock u5 <;> simp))
        clear b1 b2
        go_wp2
        go_roundw
        case rel => exact ⟨k + 1, by omega, by go_num, by rw [HN.out]; exact hown2.out, g2.out⟩
        case measure => simp [intOf]; omega
      · have e1 : ((m : Int) == 0) = true := by
          rw [hqk] at hf
          have : m = 0 := by simpa using hf
          rw [this]; rfl
        have HN := Lib.hid (idxs_yes hqk)
        have hlen := idxs_len q k
        clear hf hqk
        have hl1 : (idxs q k).length + 1 ≤ maxLen := by unfold maxLen; omega
        have hl2 : ((idxs q k).length + 1) * 8 ≤ 140737488355328 := by omega
        go_wp2_with fail
        refine (HK2.out _).mono ?_
        rintro e w1 ⟨rfl, b1⟩
        have y1 := b1.size
        go_wp2_with fail
        refine (HR2.out _).mono ?_
        rintro e w2 ⟨rfl, b2⟩
        have y2 := b2.size
        have g2 := Lib.hid (HB.out.trans ((b1.trans (b2.mono y1)).mono hzz))
        have hown2 := Lib.hid (hown.out.kept (w' := w2) (row := none) ⟨by rw [b2.os, b1.os], by rw [b2.tape, b1.tape], by rw [b2.output, b1.output], by omega, fun i hi _ => (b2.block i (by omega)).trans (b1.block i hi)⟩ (by cases hv : Value.ownBlock u5 <;> simp))
        clear b1 b2
        generalize hL : idxs q k = l at *
        have HL := Lib.hid hL
        clear hL
        go_wp2_with (at_builtin; refine wpList_append_own _ rfl _ _ 26 rfl w.heap.size 2 i0 (.int .i64 0) 1 8 Tryd.underlying26 hi0 hz0 hz1 hz2 rfl (by decide) _ _ _ rfl (hown2.out.alloc _) ⟨w2.heap.size, 0, none⟩ 1 1 [.int .i64 (k : Int)] rfl rfl ?c1 ?c2 hl1 hl2 ?c5 ?_)
        case c1 => intro j u hj; rcases j with _ | j <;> simp at hj; subst hj; go_simp
        case c2 => intro u hu; simp at hu; subst hu; rfl
        case c5 => simp; omega
        intro v' w3 hown1 hgrow1 _
        have g3 : Below w.heap.size w w3 := Below.grown (g2.out.alloc (by omega) _) hgrow1 (by simp; omega) (owns_block hown.out)
        have HO := Lib.hid (owns_snoc hown1)
        clear hown1 hgrow1
        go_wp2
        go_roundw
        case rel => exact ⟨k + 1, by omega, by go_num, by rw [HN.out]; exact HO.out, g3⟩
        case measure => simp [intOf]; omega
    · obtain rfl : k = n := by omega
      obtain ⟨A', c', rfl, hc1, hc2, hrow⟩ := row_of_owns hown.out
      have HW := Lib.hid hrow
      clear hrow
      go_wp2
      go_ret
      exact ⟨_, _, rfl, hc1, hc2, HW.out, HB.out⟩

end Go.Proofs.YtbmdggcfoohmgaaDoor.wk
