/-
  Contracts: whether a weave is sound, of the model and of the program; IsSound, LooseStakes, LongestStack.
-/
import Derived.Test.YtbmdggcfoohmgaaDoorWx
namespace Go.Proofs.YtbmdggcfoohmgaaDoor.wk
open Go.ChangeShapes Go.WideShapes Go.ChangeAt Go.RowKit
open Go.Proofs.YtbmdggcfoohmgaaDoor.mem Go.Proofs.YtbmdggcfoohmgaaDoor.rod Go.Proofs.YtbmdggcfoohmgaaDoor.wv Go.Proofs.YtbmdggcfoohmgaaDoor.gm Go.Proofs.YtbmdggcfoohmgaaDoor.nums
set_option linter.unusedVariables false

theorem own_row {w w' : World} {g n : Nat} {X : Nat → Int} (hg : w.heap.size ≤ g) (h : Own w' g 2 n X) : Row w' w.heap.size w'.heap.size (some ⟨g, 0, none⟩) n 1 2 X :=
  fun _ => ⟨g, rfl, hg, h.lt, by rw [Nat.mul_one]; exact h⟩
theorem looseL_0 (s : ByteArray) (n : Nat) : (looseL s n).length = 0 ↔ loose (byteAt s) s.size n = [] := by rw [List.length_eq_zero_iff, looseL_nil]

set_option maxHeartbeats 1000000 in
theorem isSoundW_i (s : ByteArray) (n fl : Nat) (w : World) (hst : strokeB s = true) (n3 : 3 ≤ n) (hn : n ≤ 60) (hf : fl ≤ 12) :
    Calls Tryd.prog 121 #[.agg #[.string s, .int .i64 (n : Int)], .int .i64 (fl : Int)] w fun e w' => e = .returned (.bool (soundB (byteAt s) s.size n fl)) ∧ Below w.heap.size w w' := by
  obtain ⟨h0, hs, _⟩ := stroke_of hst
  have HL := Lib.hid (fun W => longest_i s W (by omega) (ascii_stroke hst))
  have HK := Lib.hid (fun W => looseS_i s n W hst hn)
  have hsd := sound_i (f := byteAt s) (n := s.size) (s := n) fl h0 (by omega)
  have hl0 := looseL_0 s n
  have hlr := lrun_le (byteAt s) s.size
  rw [hsd]
  clear hsd hst
  generalize lrun (byteAt s) s.size = m at *
  generalize (looseL s n).length = L at *
  by_cases hm : m ≤ fl
  · have hm' : (m : Int) ≤ (fl : Int) := by omega
    rw [decide_eq_true hm, Bool.true_and]
    by_cases h : L = 0
    · rw [decide_eq_true (hl0.1 h)]
      have e1 : ((L : Int) == 0) = true := by rw [h]; rfl
      clear hl0 h
      go_enter Tryd.func121, Tryd.ntmps121
      go_wp2_with fail
      refine (HL.out _).mono ?_
      rintro e w1 ⟨rfl, hb⟩
      have z1 := hb.size
      simp at z1
      have c0 : w1.cell? ⟨w.heap.size, 0, none⟩ = some (.string s) := by rw [(bcell hb).1 _ _ (by simp)]; go_simp
      have c1 : w1.cell? ⟨w.heap.size, 1, none⟩ = some (.int .i64 (n : Int)) := by rw [(bcell hb).1 _ _ (by simp)]; go_simp
      have g1 : Below w.heap.size w w1 := Below.trans (by go_grown) (hb.mono (by simp <;> omega))
      clear hb
      go_wp2_with fail
      refine (HK.out _).mono ?_
      rintro e w2 ⟨g, rfl, hg, ho, hb⟩
      have g2 : Below w.heap.size w w2 := g1.trans (hb.mono (by omega))
      clear hb ho
      go_wp2
      go_ret
      exact ⟨rfl, g2⟩
    · rw [decide_eq_false (fun q => h (hl0.2 q))]
      have e1 : ((L : Int) == 0) = false := beq_false_of_ne (by omega)
      clear hl0 h
      go_enter Tryd.func121, Tryd.ntmps121
      go_wp2_with fail
      refine (HL.out _).mono ?_
      rintro e w1 ⟨rfl, hb⟩
      have z1 := hb.size
      simp at z1
      have c0 : w1.cell? ⟨w.heap.size, 0, none⟩ = some (.string s) := by rw [(bcell hb).1 _ _ (by simp)]; go_simp
      have c1 : w1.cell? ⟨w.heap.size, 1, none⟩ = some (.int .i64 (n : Int)) := by rw [(bcell hb).1 _ _ (by simp)]; go_simp
      have g1 : Below w.heap.size w w1 := Below.trans (by go_grown) (hb.mono (by simp <;> omega))
      clear hb
      go_wp2_with fail
      refine (HK.out _).mono ?_
      rintro e w2 ⟨g, rfl, hg, ho, hb⟩
      have g2 : Below w.heap.size w w2 := g1.trans (hb.mono (by omega))
      clear hb ho
      go_wp2
      go_ret
      exact ⟨rfl, g2⟩
  · have hm' : ¬ (m : Int) ≤ (fl : Int) := by omega
    rw [decide_eq_false hm, Bool.false_and]
    clear hl0
    go_enter Tryd.func121, Tryd.ntmps121
    go_wp2_with fail
    refine (HL.out _).mono ?_
    rintro e w1 ⟨rfl, hb⟩
    have g1 : Below w.heap.size w w1 := Below.trans (by go_grown) (hb.mono (by simp <;> omega))
    clear hb
    go_wp2
    go_ret
    exact ⟨rfl, g1⟩

set_option maxHeartbeats 1000000 in
theorem soundW_s (s : ByteArray) (n fl : Nat) (w : World) (hst : strokeB s = true) (hn : n ≤ 60) (hf : fl ≤ 12) :
    Calls Tryd.prog 75 #[.string s, .int .i64 (n : Int), .int .i64 (fl : Int)] w fun e w' => e = .returned (.bool (soundB (byteAt s) s.size n fl)) ∧ Below w.heap.size w w' := by
  obtain ⟨h0, hs, _⟩ := stroke_of hst
  have HL := Lib.hid (fun W => run_s s W h0 (by omega))
  have HK := Lib.hid (fun W => looseS_s s n W hst hn)
  have hl0 := looseL_0 s n
  have hlr := frun_le (f := byteAt s) h0
  unfold soundB
  clear hst
  generalize frun (byteAt s) s.size = m at *
  generalize looseL s n = l at *
  generalize hL : l.length = L at *
  clear hL
  by_cases hp : 0 < m
  · have hp' : (0 : Int) < (m : Int) := by omega
    rw [decide_eq_true hp, Bool.true_and]
    by_cases hm : m ≤ fl
    · have hm' : (m : Int) ≤ (fl : Int) := by omega
      rw [decide_eq_true hm, Bool.true_and]
      by_cases h : L = 0
      · rw [decide_eq_true (hl0.1 h)]
        have e1 : ((L : Int) == 0) = true := by rw [h]; rfl
        clear hl0 h
        go_enter Tryd.func75, Tryd.ntmps75
        go_wp2_with fail
        refine (HL.out _).mono ?_
        rintro e w1 ⟨rfl, b1⟩
        go_wp2_with fail
        refine (HK.out _).mono ?_
        rintro e w2 ⟨A, c, rfl, k1, k2, hr, b2⟩
        clear hr
        go_wp2
        go_ret
        exact ⟨rfl, b1.trans (b2.mono b1.size)⟩
      · rw [decide_eq_false (fun q => h (hl0.2 q))]
        have e1 : ((L : Int) == 0) = false := beq_false_of_ne (by omega)
        clear hl0 h
        go_enter Tryd.func75, Tryd.ntmps75
        go_wp2_with fail
        refine (HL.out _).mono ?_
        rintro e w1 ⟨rfl, b1⟩
        go_wp2_with fail
        refine (HK.out _).mono ?_
        rintro e w2 ⟨A, c, rfl, k1, k2, hr, b2⟩
        clear hr
        go_wp2
        go_ret
        exact ⟨rfl, b1.trans (b2.mono b1.size)⟩
    · have hm' : ¬ (m : Int) ≤ (fl : Int) := by omega
      rw [decide_eq_false hm, Bool.false_and]
      clear hl0
      go_enter Tryd.func75, Tryd.ntmps75
      go_wp2_with fail
      refine (HL.out _).mono ?_
      rintro e w1 ⟨rfl, b1⟩
      go_wp2
      go_ret
      exact ⟨rfl, b1⟩
  · have hp' : ¬ (0 : Int) < (m : Int) := by omega
    rw [decide_eq_false hp, Bool.false_and, Bool.false_and]
    clear hl0
    go_enter Tryd.func75, Tryd.ntmps75
    go_wp2_with fail
    refine (HL.out _).mono ?_
    rintro e w1 ⟨rfl, b1⟩
    go_wp2
    go_ret
    exact ⟨rfl, b1⟩

/-- the code of a stroke, stakes and a greatest float -/
def codeF (s : ByteArray) (a b : Int) : Int := if codeW s a = 0 then (if inB b 1 12 = true then 0 else 2) else codeW s a
theorem codeF_0 {s : ByteArray} {a b : Int} : codeF s a b = 0 ↔ codeW s a = 0 ∧ inB b 1 12 = true := by
  unfold codeF
  by_cases h : codeW s a = 0
  · rw [if_pos h]
    cases inB b 1 12 <;> simp [h]
  · rw [if_neg h]; simp [h]
theorem codeF_w {s : ByteArray} {a b : Int} (h : ¬ codeW s a = 0) : codeF s a b = codeW s a := by unfold codeF; rw [if_neg h]
theorem codeF_b {s : ByteArray} {a b : Int} (h : codeW s a = 0) (h2 : inB b 1 12 = false) : codeF s a b = 2 := by unfold codeF; rw [if_pos h, h2]; rfl
theorem float_of {b : Int} (h : inB b 1 12 = true) : ∃ n : Nat, b = (n : Int) ∧ 1 ≤ n ∧ n ≤ 12 := by
  obtain ⟨h1, h2⟩ := inB_of h
  exact ⟨b.toNat, by omega, by omega, by omega⟩
set_option maxHeartbeats 1000000 in
theorem codeF_s (s : ByteArray) (a b : Int) (w : World) (hs : s.size ≤ 1048576) :
    Calls Tryd.prog 74 #[.string s, .int .i64 a, .int .i64 b] w fun e w' => e = .returned (.int .i64 (codeF s a b)) ∧ w = w' := by
  by_cases hc : codeW s a = 0
  · have HC := Lib.hid (fun W => code_s s a W hs)
    rw [hc] at HC
    cases hb : inB b 1 12
    · rw [codeF_b hc hb]
      have HI := Lib.hid (fun W => in_s b 1 12 W)
      rw [hb] at HI
      clear hc hb
      go_enter Tryd.func74, Tryd.ntmps74
      go_wp2_with (first
        | (go_at_call 113; refine (HC.out _).mono ?_; rintro e w' ⟨rfl, rfl⟩)
        | (go_at_call 81; refine (HI.out _).mono ?_; rintro e w' ⟨rfl, rfl⟩))
      go_ret
      exact ⟨rfl, rfl⟩
    · rw [codeF_0.2 ⟨hc, hb⟩]
      have HI := Lib.hid (fun W => in_s b 1 12 W)
      rw [hb] at HI
      clear hc hb
      go_enter Tryd.func74, Tryd.ntmps74
      go_wp2_with (first
        | (go_at_call 113; refine (HC.out _).mono ?_; rintro e w' ⟨rfl, rfl⟩)
        | (go_at_call 81; refine (HI.out _).mono ?_; rintro e w' ⟨rfl, rfl⟩))
      go_ret
      exact ⟨rfl, rfl⟩
  · rw [codeF_w hc]
    have HC := Lib.hid (fun W => code_s s a W hs)
    generalize codeW s a = v at *
    have e1 : (v == 0) = false := by simpa using hc
    have e2 : (v != 0) = true := by rw [bne, e1]; rfl
    clear hc
    go_enter Tryd.func74, Tryd.ntmps74
    go_wp2_with (first
      | (go_at_call 113; refine (HC.out _).mono ?_; rintro e w' ⟨rfl, rfl⟩)
      | (go_at_call 81; refine (in_s _ _ _ _).mono ?_; rintro e w' ⟨rfl, rfl⟩))
    go_ret
    exact ⟨rfl, rfl⟩

end Go.Proofs.YtbmdggcfoohmgaaDoor.wk
