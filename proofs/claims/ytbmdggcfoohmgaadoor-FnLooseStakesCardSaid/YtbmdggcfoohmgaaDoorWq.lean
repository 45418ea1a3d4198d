/-
  Contracts of LooseStakes, IsSound and LongestStack, of the model and of the program.
-/
import Derived.Test.YtbmdggcfoohmgaaDoorWz
import Derived.Test.YtbmdggcfoohmgaaDoorWt
namespace Go.Proofs.YtbmdggcfoohmgaaDoor.wk
open Go.ChangeShapes Go.WideShapes Go.ChangeAt Go.RowKit
open Go.Proofs.YtbmdggcfoohmgaaDoor.mem Go.Proofs.YtbmdggcfoohmgaaDoor.rod Go.Proofs.YtbmdggcfoohmgaaDoor.wv Go.Proofs.YtbmdggcfoohmgaaDoor.gm Go.Proofs.YtbmdggcfoohmgaaDoor.nums
set_option linter.unusedVariables false

/-! ### LooseStakes -/
set_option maxHeartbeats 1000000 in
theorem looseStakes_s (s : ByteArray) (n : Nat) (w : World) (hst : strokeB s = true) (n3 : 3 ≤ n) (hn : n ≤ 60) :
    Calls Tryd.prog 55 #[.string s, .int .i64 (n : Int)] w (NumsCode w 2 (looseL s n) 0) := by
  obtain ⟨h0, hs, _⟩ := stroke_of hst
  have HC := Lib.hid (fun W => code_s s n W (by omega))
  rw [codeW_0.2 ⟨hst, inB_yes (by omega) (by omega)⟩] at HC
  have HK := Lib.hid (fun W => looseS_s s n W hst hn)
  clear hst
  generalize looseL s n = l at *
  go_enter Tryd.func55, Tryd.ntmps55
  go_wp2_with (go_at_call 113; refine (HC.out _).mono ?_; rintro e w' ⟨rfl, rfl⟩)
  refine (HK.out _).mono ?_
  rintro e w2 ⟨A, c, rfl, k1, k2, hr, b2⟩
  have HR := Lib.hid hr
  clear hr
  go_wp2
  go_ret2
  exact ⟨A, c, rfl, k1, k2, HR.out, b2⟩
theorem looseStakes_s_no (s : ByteArray) (a : Int) (w : World) (hs : s.size ≤ 1048576) (hc : codeW s a ≠ 0) :
    Calls Tryd.prog 55 #[.string s, .int .i64 a] w (NumsCode w 2 [] (codeW s a)) := by
  have HC := Lib.hid (fun W => code_s s a W hs)
  generalize codeW s a = v at *
  have e1 : (v == 0) = false := by simpa using hc
  have e2 : (v != 0) = true := by rw [bne, e1]; rfl
  clear hc
  go_enter Tryd.func55, Tryd.ntmps55
  go_wp2_with (go_at_call 113; refine (HC.out _).mono ?_; rintro e w' ⟨rfl, rfl⟩)
  go_ret2
  exact ⟨none, 0, rfl, Nat.le_refl _, by unfold maxLen; omega, Row.none_, Below.refl _ _⟩
set_option maxHeartbeats 1000000 in
theorem looseStakes_i (s : ByteArray) (n : Nat) (w : World) (hst : strokeB s = true) (n3 : 3 ≤ n) (hn : n ≤ 60) :
    Calls Tryd.prog 17 #[.string s, .int .i64 (n : Int)] w (NumsCode w 2 (looseL s n) 0) := by
  have HS := Lib.hid hst
  have HK := Lib.hid (fun W => looseS_i s n W hst hn)
  have hle := looseL_len s n
  clear hst
  generalize looseL s n = l at *
  go_enter Tryd.func17, Tryd.ntmps17
  go_wp2_with fail
  refine (new_i s n _ HS.out n3 hn).mono ?_
  rintro e w1 ⟨rfl, b1⟩
  have z1 := b1.size
  go_wp2_with fail
  refine (HK.out _).mono ?_
  rintro e w2 ⟨g, rfl, hg, ho, b2⟩
  have g2 : Below w.heap.size w w2 := (b1.alloc z1 _).trans (b2.mono (by simp; omega))
  have HO := Lib.hid ho
  simp at hg
  clear ho b2
  go_wp2
  go_ret2
  exact ⟨_, _, rfl, hle, by unfold maxLen; omega, own_row (by omega) HO.out, g2⟩
set_option maxHeartbeats 1000000 in
theorem looseStakes_i_no (s : ByteArray) (a : Int) (w : World) (hs : s.size ≤ 1048576) (hc : codeW s a ≠ 0) :
    Calls Tryd.prog 17 #[.string s, .int .i64 a] w (NumsCode w 2 [] (codeW s a)) := by
  have HN := Lib.hid (fun W => new_i_no s a W hs hc)
  generalize codeW s a = v at *
  have e1 : (v == 0) = false := by simpa using hc
  have e2 : (v != 0) = true := by rw [bne, e1]; rfl
  clear hc
  go_enter Tryd.func17, Tryd.ntmps17
  go_wp2_with fail
  refine (HN.out _).mono ?_
  rintro e w1 ⟨rfl, b1⟩
  go_wp2
  go_ret2
  exact ⟨none, 0, rfl, Nat.le_refl _, by unfold maxLen; omega, Row.none_, b1.alloc b1.size _⟩

/-! ### IsSound -/
set_option maxHeartbeats 1000000 in
theorem isSound_s (s : ByteArray) (n fl : Nat) (w : World) (hst : strokeB s = true) (n3 : 3 ≤ n) (hn : n ≤ 60) (f1 : 1 ≤ fl) (hf : fl ≤ 12) :
    Calls Tryd.prog 22 #[.string s, .int .i64 (n : Int), .int .i64 (fl : Int)] w fun e w' => e = .returned (.tuple #[.bool (soundB (byteAt s) s.size n fl), .int .i64 0]) ∧ Below w.heap.size w w' := by
  obtain ⟨h0, hs, _⟩ := stroke_of hst
  have HC := Lib.hid (fun W => codeF_s s n fl W (by omega))
  rw [codeF_0.2 ⟨codeW_0.2 ⟨hst, inB_yes (by omega) (by omega)⟩, inB_yes (by omega) (by omega)⟩] at HC
  have HK := Lib.hid (fun W => soundW_s s n fl W hst hn hf)
  clear hst
  generalize soundB (byteAt s) s.size n fl = r at *
  go_enter Tryd.func22, Tryd.ntmps22
  go_wp2_with (go_at_call 74; refine (HC.out _).mono ?_; rintro e w' ⟨rfl, rfl⟩)
  refine (HK.out _).mono ?_
  rintro e w2 ⟨rfl, b2⟩
  go_wp2
  go_ret2
  exact ⟨rfl, b2⟩
theorem isSound_s_no (s : ByteArray) (a b : Int) (w : World) (hs : s.size ≤ 1048576) (hc : codeF s a b ≠ 0) :
    Calls Tryd.prog 22 #[.string s, .int .i64 a, .int .i64 b] w fun e w' => e = .returned (.tuple #[.bool false, .int .i64 (codeF s a b)]) ∧ Below w.heap.size w w' := by
  have HC := Lib.hid (fun W => codeF_s s a b W hs)
  generalize codeF s a b = v at *
  have e1 : (v == 0) = false := by simpa using hc
  have e2 : (v != 0) = true := by rw [bne, e1]; rfl
  clear hc
  go_enter Tryd.func22, Tryd.ntmps22
  go_wp2_with (go_at_call 74; refine (HC.out _).mono ?_; rintro e w' ⟨rfl, rfl⟩)
  go_ret2
  exact ⟨rfl, Below.refl _ _⟩
set_option maxHeartbeats 1000000 in
theorem isSound_i (s : ByteArray) (n fl : Nat) (w : World) (hst : strokeB s = true) (n3 : 3 ≤ n) (hn : n ≤ 60) (f1 : 1 ≤ fl) (hf : fl ≤ 12) :
    Calls Tryd.prog 59 #[.string s, .int .i64 (n : Int), .int .i64 (fl : Int)] w fun e w' => e = .returned (.tuple #[.bool (soundB (byteAt s) s.size n fl), .int .i64 0]) ∧ Below w.heap.size w w' := by
  have HS := Lib.hid hst
  have HI := Lib.hid (fun W => in_i (fl : Int) 1 12 W)
  rw [inB_yes (by omega) (by omega)] at HI
  have HK := Lib.hid (fun W => isSoundW_i s n fl W hst n3 hn hf)
  clear hst
  generalize soundB (byteAt s) s.size n fl = r at *
  go_enter Tryd.func59, Tryd.ntmps59
  go_wp2_with fail
  refine (new_i s n _ HS.out n3 hn).mono ?_
  rintro e w1 ⟨rfl, b1⟩
  have z1 := b1.size
  go_wp2_with (go_at_call 71; refine (HI.out _).mono ?_; rintro e w' ⟨rfl, rfl⟩)
  refine (HK.out _).mono ?_
  rintro e w2 ⟨rfl, b2⟩
  have g2 : Below w.heap.size w w2 := (b1.alloc z1 _).trans (b2.mono (by simp; omega))
  go_wp2
  go_ret2
  exact ⟨rfl, g2⟩
set_option maxHeartbeats 1000000 in
theorem isSound_i_no (s : ByteArray) (a b : Int) (w : World) (hs : s.size ≤ 1048576) (hc : codeF s a b ≠ 0) :
    Calls Tryd.prog 59 #[.string s, .int .i64 a, .int .i64 b] w fun e w' => e = .returned (.tuple #[.bool false, .int .i64 (codeF s a b)]) ∧ Below w.heap.size w w' := by
  by_cases h : codeW s a = 0
  · obtain ⟨h1, h2⟩ := codeW_0.1 h
    obtain ⟨n, rfl, n3, n60⟩ := stakes_of h2
    have hb : inB b 1 12 = false := by
      cases hb : inB b 1 12
      · rfl
      · exact absurd (codeF_0.2 ⟨h, hb⟩) hc
    rw [codeF_b h hb]
    have HS := Lib.hid h1
    have HI := Lib.hid (fun W => in_i b 1 12 W)
    rw [hb] at HI
    clear h h1 h2 hb hc
    go_enter Tryd.func59, Tryd.ntmps59
    go_wp2_with fail
    refine (new_i s n _ HS.out n3 n60).mono ?_
    rintro e w1 ⟨rfl, b1⟩
    go_wp2_with (go_at_call 71; refine (HI.out _).mono ?_; rintro e w' ⟨rfl, rfl⟩)
    go_ret2
    exact ⟨rfl, b1.alloc b1.size _⟩
  · rw [codeF_w h]
    have HN := Lib.hid (fun W => new_i_no s a W hs h)
    generalize codeW s a = v at *
    have e1 : (v == 0) = false := by simpa using h
    have e2 : (v != 0) = true := by rw [bne, e1]; rfl
    clear hc h
    go_enter Tryd.func59, Tryd.ntmps59
    go_wp2_with fail
    refine (HN.out _).mono ?_
    rintro e w1 ⟨rfl, b1⟩
    go_wp2
    go_ret2
    exact ⟨rfl, b1.alloc b1.size _⟩

/-! ### LongestStack -/
/-- the code and the number of LongestStack -/
def stackA (s : ByteArray) (n : Nat) : Int × Int := if looseL s n = [] then ((stackTo (byteAt s) s.size n n : Nat), 0) else (0, 10)
theorem run_stk {s : ByteArray} {n : Nat} (h0 : 0 < s.size) (k : Nat) : frun (byteAt (mkB (fun r => sideU s n r k) (rnd s.size n))) (mkB (fun r => sideU s n r k) (rnd s.size n)).size = frun (stk (byteAt s) s.size n k) (rnd s.size n) := by
  rw [frun_mk _ (rnd_pos n h0), ← stk_U]
theorem lrun_stk {s : ByteArray} {n : Nat} (h0 : 0 < s.size) (k : Nat) : lrun (byteAt (mkB (fun r => sideU s n r k) (rnd s.size n))) (mkB (fun r => sideU s n r k) (rnd s.size n)).size = lrun (stk (byteAt s) s.size n k) (rnd s.size n) := by
  rw [lrun_mk _ (rnd_pos n h0), ← stk_U]
theorem stackTo_step (f : Nat → Int) (n s k : Nat) : stackTo f n s (k + 1) = max (stackTo f n s k) (frun (stk f n s k) (rnd n s)) := rfl

set_option maxHeartbeats 4000000 in
theorem stack_A_s (s : ByteArray) (n : Nat) (w : World) (hst : strokeB s = true) (n3 : 3 ≤ n) (hn : n ≤ 60) :
    Calls Tryd.prog 62 #[.string s, .int .i64 (n : Int)] w fun e w' => e = .returned (.tuple #[.int .i64 (stackA s n).1, .int .i64 (stackA s n).2]) ∧ Below w.heap.size w w' := by
  obtain ⟨h0, hs, _⟩ := stroke_of hst
  have hR0 := rnd_pos n h0
  have hR12 := rnd_le s.size n
  have HC := Lib.hid (fun W => code_s s n W (by omega))
  rw [codeW_0.2 ⟨hst, inB_yes (by omega) (by omega)⟩] at HC
  have HK := Lib.hid (fun W => looseS_s s n W hst hn)
  unfold stackA
  by_cases hl : looseL s n = []
  · rw [if_pos hl]
    rw [hl] at HK
    have HT := Lib.hid (fun (k : Nat) (hk : k ≤ 60) W => stack_s s n k W h0 hs hn hk)
    have HR := Lib.hid (fun (k : Nat) W => run_s (mkB (fun r => sideU s n r k) (rnd s.size n)) W (by rw [mkB_size]; omega) (by rw [mkB_size]; omega))
    have HQ := Lib.hid (fun k => run_stk (n := n) h0 k)
    obtain ⟨f, hf⟩ : ∃ f, f = stackTo (byteAt s) s.size n := ⟨_, rfl⟩
    have HF := Lib.hid (show ∀ k, f (k + 1) = max (f k) (frun (stk (byteAt s) s.size n k) (rnd s.size n)) from fun k => by rw [hf]; rfl)
    have HF0 := Lib.hid (show f 0 = 0 by rw [hf]; rfl)
    have HFL := Lib.hid (show ∀ k, f k ≤ 12 from fun k => by rw [hf]; exact Nat.le_trans (stackTo_le _ _ h0 k) hs)
    rw [← hf]
    clear hf hl hst
    go_enter Tryd.func62, Tryd.ntmps62
    go_wp2_with (go_at_call 113; refine (HC.out _).mono ?_; rintro e w' ⟨rfl, rfl⟩)
    refine (HK.out _).mono ?_
    rintro e w1 ⟨A, c, rfl, k1, k2, hr, b1⟩
    clear hr
    have HB1 := Lib.hid b1
    clear b1
    go_wp2_with fail
    go_loopw [8, 7] (fun i m wr => ∃ k : Nat, k ≤ n ∧ i = .int .i64 (k : Int) ∧ m = .int .i64 ((f k : Nat) : Int) ∧ Below w.heap.size w wr) (fun i _ _ => n - (intOf i).toNat)
    case atStart => exact ⟨0, by omega, rfl, by rw [HF0.out]; rfl, HB1.out⟩
    case round =>
      obtain ⟨k, hk, rfl, rfl, hbl⟩ := hrel
      have HB := Lib.hid hbl
      have hzz := hbl.size
      clear hbl
      by_cases hlt : k < n
      · have hlt' : (k : Int) < (n : Int) := by omega
        have HT2 := Lib.hid (HT.out k (by omega))
        have HR2 := Lib.hid (HR.out k)
        rw [HQ.out k] at HR2
        have HF2 := Lib.hid (HF.out k)
        have hl1 := HFL.out k
        generalize frun (stk (byteAt s) s.size n k) (rnd s.size n) = m at *
        generalize mkB (fun r => sideU s n r k) (rnd s.size n) = T at *
        have HM := Lib.hid (fun W => max_s (f k) m W)
        generalize f k = fk at *
        go_wp2_with fail
        refine (HT2.out _).mono ?_
        rintro e w2 ⟨rfl, b2⟩
        have y2 := b2.size
        go_wp2_with fail
        refine (HR2.out _).mono ?_
        rintro e w3 ⟨rfl, b3⟩
        have g3 := Lib.hid (HB.out.trans ((b2.trans (b3.mono y2)).mono hzz))
        clear b2 b3
        go_wp2_with (go_at_call 122; refine (HM.out _).mono ?_; rintro e w' ⟨rfl, rfl⟩)
        go_roundw
        case rel => exact ⟨k + 1, by omega, by go_num, by rw [HF2.out], g3.out⟩
        case measure => simp [intOf]; omega
      · obtain rfl : k = n := by omega
        go_wp2
        go_ret2
        exact ⟨rfl, HB.out⟩
  · rw [if_neg hl]
    have hpos : 0 < (looseL s n).length := List.length_pos_iff.2 hl
    have hpos' : (0 : Int) < ((looseL s n).length : Int) := by omega
    clear hl hst
    generalize looseL s n = l at *
    generalize hL : l.length = L at *
    clear hL
    go_enter Tryd.func62, Tryd.ntmps62
    go_wp2_with (go_at_call 113; refine (HC.out _).mono ?_; rintro e w' ⟨rfl, rfl⟩)
    refine (HK.out _).mono ?_
    rintro e w1 ⟨A, c, rfl, k1, k2, hr, b1⟩
    clear hr
    go_wp2
    go_ret2
    exact ⟨rfl, b1⟩
theorem stack_A_s_no (s : ByteArray) (a : Int) (w : World) (hs : s.size ≤ 1048576) (hc : codeW s a ≠ 0) :
    Calls Tryd.prog 62 #[.string s, .int .i64 a] w fun e w' => e = .returned (.tuple #[.int .i64 0, .int .i64 (codeW s a)]) ∧ Below w.heap.size w w' := by
  have HC := Lib.hid (fun W => code_s s a W hs)
  generalize codeW s a = v at *
  have e1 : (v == 0) = false := by simpa using hc
  have e2 : (v != 0) = true := by rw [bne, e1]; rfl
  clear hc
  go_enter Tryd.func62, Tryd.ntmps62
  go_wp2_with (go_at_call 113; refine (HC.out _).mono ?_; rintro e w' ⟨rfl, rfl⟩)
  go_ret2
  exact ⟨rfl, Below.refl _ _⟩

theorem ascii_mk {s : ByteArray} (hst : strokeB s = true) (n k m : Nat) : ∀ i, i < (mkB (fun r => sideU s n r k) m).size → byteAt (mkB (fun r => sideU s n r k) m) i < 128 := fun i hi => by
  rw [mkB_size] at hi
  rw [mkB_byte _ hi, ← sideU_at]
  have := side_kinds hst n i k
  omega
set_option maxHeartbeats 4000000 in
set_option maxRecDepth 100000 in
theorem stack_A_i (s : ByteArray) (n : Nat) (w : World) (hst : strokeB s = true) (n3 : 3 ≤ n) (hn : n ≤ 60) :
    Calls Tryd.prog 18 #[.string s, .int .i64 (n : Int)] w fun e w' => e = .returned (.tuple #[.int .i64 (stackA s n).1, .int .i64 (stackA s n).2]) ∧ Below w.heap.size w w' := by
  obtain ⟨h0, hs, _⟩ := stroke_of hst
  have HS := Lib.hid hst
  have hR0 := rnd_pos n h0
  have hR12 := rnd_le s.size n
  have HK := Lib.hid (fun W => looseS_i s n W hst hn)
  unfold stackA
  by_cases hl : looseL s n = []
  · rw [if_pos hl]
    rw [hl] at HK
    have HT := Lib.hid (fun (k : Nat) (hk : k ≤ 60) W => ofStake_i s n k W h0 hs hn hk)
    have HR := Lib.hid (fun (k : Nat) W => longest_i (mkB (fun r => sideU s n r k) (rnd s.size n)) W (by rw [mkB_size]; omega) (ascii_mk hst n k _))
    have HQ := Lib.hid (fun (k : Nat) (hk : k < n) => (lrun_stk (n := n) h0 k).trans (stk_two h0 ((looseL_nil s n).1 hl) hk))
    obtain ⟨f, hf⟩ : ∃ f, f = stackTo (byteAt s) s.size n := ⟨_, rfl⟩
    have HF := Lib.hid (show ∀ k, f (k + 1) = max (f k) (frun (stk (byteAt s) s.size n k) (rnd s.size n)) from fun k => by rw [hf]; rfl)
    have HF0 := Lib.hid (show f 0 = 0 by rw [hf]; rfl)
    have HFL := Lib.hid (show ∀ k, f k ≤ 12 from fun k => by rw [hf]; exact Nat.le_trans (stackTo_le _ _ h0 k) hs)
    have HLL := Lib.hid (fun k => frun_le (f := stk (byteAt s) s.size n k) hR0)
    rw [← hf]
    clear hf hl hst
    go_enter Tryd.func18, Tryd.ntmps18
    go_wp2_with fail
    refine (new_i s n _ HS.out n3 hn).mono ?_
    rintro e w1 ⟨rfl, b1⟩
    have z1 := b1.size
    go_wp2_with fail
    refine (HK.out _).mono ?_
    rintro e w2 ⟨g, rfl, hg, ho, b2⟩
    clear ho
    have hz2 := b2.size
    simp at hz2
    have HB1 := Lib.hid (show Below (w1.heap.size + 1) (w1.alloc (.cells #[.string s, .int .i64 (n : Int)] 68)) w2 from b2.mono (by simp))
    have HB0 := Lib.hid b1
    clear b1 b2
    go_wp2_with fail
    go_loopw [24, 8] (fun i m wr => ∃ k : Nat, k ≤ n ∧ i = .int .i64 (k : Int) ∧ m = .int .i64 ((f k : Nat) : Int) ∧ Below (w1.heap.size + 1) (w1.alloc (.cells #[.string s, .int .i64 (n : Int)] 68)) wr) (fun i _ _ => n - (intOf i).toNat)
    case atStart => exact ⟨0, by omega, rfl, by rw [HF0.out]; rfl, HB1.out⟩
    case round =>
      obtain ⟨k, hk, rfl, rfl, hbl⟩ := hrel
      have hzz := hbl.size
      simp at hzz
      have c0 : wr.cell? ⟨w1.heap.size, 0, none⟩ = some (.string s) := (hbl.cell (p := ⟨w1.heap.size, 0, none⟩) (by show w1.heap.size < _; omega)).trans (by go_simp)
      have c1 : wr.cell? ⟨w1.heap.size, 1, none⟩ = some (.int .i64 (n : Int)) := (hbl.cell (p := ⟨w1.heap.size, 1, none⟩) (by show w1.heap.size < _; omega)).trans (by go_simp)
      have HB := Lib.hid hbl
      clear hbl
      by_cases hlt : k < n
      · have hlt' : (k : Int) < (n : Int) := by omega
        have HT2 := Lib.hid (HT.out k (by omega))
        have HR2 := Lib.hid (HR.out k)
        rw [HQ.out k hlt] at HR2
        have HF2 := Lib.hid (HF.out k)
        have hl1 := HFL.out k
        have hl2 := HLL.out k
        generalize frun (stk (byteAt s) s.size n k) (rnd s.size n) = m at *
        generalize mkB (fun r => sideU s n r k) (rnd s.size n) = T at *
        generalize f k = fk at *
        go_wp2_with fail
        refine (HT2.out _).mono ?_
        rintro e w3 ⟨rfl, b3⟩
        have y3 := b3.size
        go_wp2_with fail
        refine (HR2.out _).mono ?_
        rintro e w4 ⟨rfl, b4⟩
        have g4 := Lib.hid (HB.out.trans ((b3.trans (b4.mono y3)).mono hzz))
        clear b3 b4
        go_wp2
        go_roundw
        case rel => exact ⟨k + 1, by omega, by go_num, by rw [HF2.out]; go_num, g4.out⟩
        case measure => simp [intOf]; omega
      · obtain rfl : k = n := by omega
        go_wp2
        go_ret2
        exact ⟨rfl, (HB0.out.alloc z1 _).trans (HB.out.mono (by omega))⟩
  · rw [if_neg hl]
    have hpos : 0 < (looseL s n).length := List.length_pos_iff.2 hl
    have hpos' : (0 : Int) < ((looseL s n).length : Int) := by omega
    clear hl hst
    generalize looseL s n = l at *
    generalize hL : l.length = L at *
    clear hL
    go_enter Tryd.func18, Tryd.ntmps18
    go_wp2_with fail
    refine (new_i s n _ HS.out n3 hn).mono ?_
    rintro e w1 ⟨rfl, b1⟩
    have z1 := b1.size
    go_wp2_with fail
    refine (HK.out _).mono ?_
    rintro e w2 ⟨g, rfl, hg, ho, b2⟩
    clear ho
    have g2 : Below w.heap.size w w2 := (b1.alloc z1 _).trans (b2.mono (by simp; omega))
    go_wp2
    go_ret2
    exact ⟨rfl, g2⟩
set_option maxHeartbeats 1000000 in
theorem stack_A_i_no (s : ByteArray) (a : Int) (w : World) (hs : s.size ≤ 1048576) (hc : codeW s a ≠ 0) :
    Calls Tryd.prog 18 #[.string s, .int .i64 a] w fun e w' => e = .returned (.tuple #[.int .i64 0, .int .i64 (codeW s a)]) ∧ Below w.heap.size w w' := by
  have HN := Lib.hid (fun W => new_i_no s a W hs hc)
  generalize codeW s a = v at *
  have e1 : (v == 0) = false := by simpa using hc
  have e2 : (v != 0) = true := by rw [bne, e1]; rfl
  clear hc
  go_enter Tryd.func18, Tryd.ntmps18
  go_wp2_with fail
  refine (HN.out _).mono ?_
  rintro e w1 ⟨rfl, b1⟩
  go_wp2
  go_ret2
  exact ⟨rfl, b1.alloc b1.size _⟩

end Go.Proofs.YtbmdggcfoohmgaaDoor.wk
