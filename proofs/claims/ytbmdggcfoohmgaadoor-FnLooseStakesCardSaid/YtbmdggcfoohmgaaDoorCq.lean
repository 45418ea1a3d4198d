/-
  Contracts of SoundStakes, of the model and of the program.
-/
import Derived.Test.YtbmdggcfoohmgaaDoorCo
namespace Go.Proofs.YtbmdggcfoohmgaaDoor.sn
open Go.ChangeShapes Go.WideShapes Go.ChangeAt Go.RowKit
open Go.Proofs.YtbmdggcfoohmgaaDoor.mem Go.Proofs.YtbmdggcfoohmgaaDoor.rod Go.Proofs.YtbmdggcfoohmgaaDoor.wv Go.Proofs.YtbmdggcfoohmgaaDoor.wk Go.Proofs.YtbmdggcfoohmgaaDoor.rf Go.Proofs.YtbmdggcfoohmgaaDoor.rk Go.Proofs.YtbmdggcfoohmgaaDoor.nums
set_option linter.unusedVariables false

def sndL (s : ByteArray) (fl hi : Nat) : List Int := idxs (sndQ (byteAt s) s.size fl) (hi + 1)
theorem sndL_len (s : ByteArray) (fl hi : Nat) : (sndL s fl hi).length ≤ hi + 1 := idxs_len _ _

theorem collect_c (s : ByteArray) (fl hi bl bh bs bf : Nat) (w : World) (hst : strokeB s = true) (hh3 : 3 ≤ hi) (hh : hi ≤ 60) (hf : fl ≤ 12) (hcap : Cap bl bh bs bf s fl 3 hi w) (k1 : bl < w.heap.size) (k2 : bh < w.heap.size) (k3 : bs < w.heap.size) (k4 : bf < w.heap.size) :
    Calls Tryd.prog 72 #[.func (.func 135) #[] #[.pointer (some ⟨bl, 0, none⟩), .pointer (some ⟨bh, 0, none⟩), .pointer (some ⟨bs, 0, none⟩), .pointer (some ⟨bf, 0, none⟩)]] w fun e w' =>
      ∃ v, e = .returned v ∧ w'.ownsRow w.heap.size 2 1 v (sndL s fl hi).length ((sndL s fl hi).map (Value.int .i64)) ∧ Below w.heap.size w w' := by
  have HA := Lib.hid (appendSeq_c s fl hi bl bh bs bf w hst hh3 hh hf hcap k1 k2 k3 k4)
  clear hcap hst
  go_enter Tryd.func72, Tryd.ntmps72
  go_wp2_with (go_at_call 134; refine (HA.out).mono ?_; rintro e w1 ⟨v, rfl, h1, h2⟩)
  go_ret
  exact ⟨v, rfl, h1, h2⟩

set_option maxHeartbeats 4000000 in
set_option maxRecDepth 100000 in
theorem soundStakes_i (s : ByteArray) (fl n : Nat) (w : World) (hst : strokeB s = true) (n3 : 3 ≤ n) (hn : n ≤ 60) (f1 : 1 ≤ fl) (hf : fl ≤ 12) :
    Calls Tryd.prog 19 #[.string s, .int .i64 (fl : Int), .int .i64 (n : Int)] w (NumsCode w 2 (sndL s fl n) 0) := by
  have HS := Lib.hid hst
  have HI := Lib.hid (fun W => in_i (fl : Int) 1 12 W)
  rw [inB_yes (by omega) (by omega)] at HI
  have HCO := Lib.hid (fun (bl bh bs bf : Nat) (W : World) hcap k1 k2 k3 k4 => collect_c s fl n bl bh bs bf W hst n3 hn hf hcap k1 k2 k3 k4)
  clear hst
  go_enter Tryd.func19, Tryd.ntmps19
  go_wp2_with fail
  refine (new_i s n _ HS.out n3 hn).mono ?_
  rintro e w1 ⟨rfl, b1⟩
  have z1 := b1.size
  go_wp2_with (go_at_call 71; refine (HI.out _).mono ?_; rintro e w' ⟨rfl, rfl⟩)
  refine (sound_c s _ _ _ _).mono ?_
  rintro e w2 ⟨rfl, rfl⟩
  go_wp2_with fail
  have hcap : Cap (w1.heap.size + 1 + 1 + 1) (w1.heap.size + 1 + 1 + 1 + 1) (w1.heap.size + 1) (w1.heap.size + 1 + 1) s fl 3 n (((((w1.alloc (Obj.cells #[Value.string s, Value.int IntKind.i64 (n : Int)] 68)).alloc (Obj.cells #[Value.string s] 9)).alloc (Obj.cells #[Value.int IntKind.i64 (fl : Int)] 2)).alloc (Obj.cells #[Value.int IntKind.i64 3] 2)).alloc (Obj.cells #[Value.int IntKind.i64 (n : Int)] 2)) :=
    ⟨by go_simp, by go_simp, by go_simp, by go_simp⟩
  refine (HCO.out _ _ _ _ _ hcap (by simp) (by simp) (by simp) (by simp)).mono ?_
  rintro e w3 ⟨v, rfl, hown, b3⟩
  obtain ⟨A', c', rfl, hc1, hc2, hrow⟩ := row_of_owns hown
  have HW := Lib.hid (show Row w3 w.heap.size w3.heap.size A' (sndL s fl n).length 1 2 (fun j => (sndL s fl n).getD j 0) from Row.wide hrow (by simp; omega) (Nat.le_refl _))
  have g3 : Below w.heap.size w w3 := Below.trans (((((b1.alloc z1 _).alloc (by simp; omega) _).alloc (by simp; omega) _).alloc (by simp; omega) _).alloc (by simp; omega) _) (b3.mono (by simp; omega))
  clear hrow hown b3 hcap
  go_wp2
  go_ret2
  exact ⟨_, _, rfl, hc1, hc2, HW.out, g3⟩
set_option maxHeartbeats 1000000 in
theorem soundStakes_i_no (s : ByteArray) (b a : Int) (w : World) (hs : s.size ≤ 1048576) (hc : codeF s a b ≠ 0) :
    Calls Tryd.prog 19 #[.string s, .int .i64 b, .int .i64 a] w (NumsCode w 2 [] (codeF s a b)) := by
  by_cases h : codeW s a = 0
  · obtain ⟨h1, h2⟩ := codeW_0.1 h
    obtain ⟨n, rfl, n3, n60⟩ := stakes_of h2
    have hb : inB b 1 12 = false := by
      cases hb : inB b 1 12
      · rfl
      · exact absurd (codeF_0.2 ⟨h, hb⟩) hc
    rw [codeF_b h hb]
    have HS := Lib.hid h1
    have HI := Lib.hid (fun W => in_i b 1 12 W)
    rw [hb] at HI
    clear h h1 h2 hb hc
    go_enter Tryd.func19, Tryd.ntmps19
    go_wp2_with fail
    refine (new_i s n _ HS.out n3 n60).mono ?_
    rintro e w1 ⟨rfl, b1⟩
    go_wp2_with (go_at_call 71; refine (HI.out _).mono ?_; rintro e w' ⟨rfl, rfl⟩)
    go_ret2
    exact ⟨none, 0, rfl, Nat.le_refl _, by unfold maxLen; omega, Row.none_, b1.alloc b1.size _⟩
  · rw [codeF_w h]
    have HN := Lib.hid (fun W => new_i_no s a W hs h)
    generalize codeW s a = v at *
    have e1 : (v == 0) = false := by simpa using h
    have e2 : (v != 0) = true := by rw [bne, e1]; rfl
    clear hc h
    go_enter Tryd.func19, Tryd.ntmps19
    go_wp2_with fail
    refine (HN.out _).mono ?_
    rintro e w1 ⟨rfl, b1⟩
    go_wp2
    go_ret2
    exact ⟨none, 0, rfl, Nat.le_refl _, by unfold maxLen; omega, Row.none_, b1.alloc b1.size _⟩

end Go.Proofs.YtbmdggcfoohmgaaDoor.sn
