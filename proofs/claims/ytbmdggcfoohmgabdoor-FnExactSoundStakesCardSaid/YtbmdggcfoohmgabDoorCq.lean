/-
  Contracts of SoundStakes, of the model and of the program.
-/
import Derived.Test.YtbmdggcfoohmgabDoorCo
namespace Go.Proofs.YtbmdggcfoohmgabDoor.sn
open Go.ChangeShapes Go.WideShapes Go.ChangeAt Go.RowKit
open Go.Proofs.YtbmdggcfoohmgabDoor.mem Go.Proofs.YtbmdggcfoohmgabDoor.rod Go.Proofs.YtbmdggcfoohmgabDoor.wv Go.Proofs.YtbmdggcfoohmgabDoor.wk Go.Proofs.YtbmdggcfoohmgabDoor.rf Go.Proofs.YtbmdggcfoohmgabDoor.rk Go.Proofs.YtbmdggcfoohmgabDoor.nums
set_option linter.unusedVariables false

def sndL (s : ByteArray) (fl hi : Nat) : List Int := idxs (sndQ (byteAt s) s.size fl) (hi + 1)
theorem sndL_len (s : ByteArray) (fl hi : Nat) : (sndL s fl hi).length ≤ hi + 1 := idxs_len _ _

theorem collect_c (s : ByteArray) (fl hi bl bh bs bf : Nat) (w : World) (hst : strokeB s = true) (hh3 : 3 ≤ hi) (hh : hi ≤ 60) (hf : fl ≤ 12) (hcap : Cap bl bh bs bf s fl 3 hi w) (k1 : bl < w.heap.size) (k2 : bh < w.heap.size) (k3 : bs < w.heap.size) (k4 : bf < w.heap.size) :
    Calls Tryd.prog 13 #[.func (.func 21) #[] #[.pointer (some ⟨bl, 0, none⟩), .pointer (some ⟨bh, 0, none⟩), .pointer (some ⟨bs, 0, none⟩), .pointer (some ⟨bf, 0, none⟩)]] w fun e w' =>
      ∃ v, e = .returned v ∧ w'.ownsRow w.heap.size 2 1 v (sndL s fl hi).length ((sndL s fl hi).map (Value.int .i64)) ∧ Below w.heap.size w w' := by
  have HA := Lib.hid (appendSeq_c s fl hi bl bh bs bf w hst hh3 hh hf hcap k1 k2 k3 k4)
  clear hcap hst
  go_enter Tryd.func13, Tryd.ntmps13
  go_wp2_with (go_at_call 20; refine (HA.out).mono ?_; rintro e w1 ⟨v, rfl, h1, h2⟩)
  go_ret
  exact ⟨v, rfl, h1, h2⟩

set_option maxHeartbeats 4000000 in
theorem soundStakes_s (s : ByteArray) (fl n : Nat) (w : World) (hst : strokeB s = true) (n3 : 3 ≤ n) (hn : n ≤ 60) (f1 : 1 ≤ fl) (hf : fl ≤ 12) :
    Calls Tryd.prog 4 #[.string s, .int .i64 (fl : Int), .int .i64 (n : Int)] w (NumsCode w 2 (sndL s fl n) 0) := by
  obtain ⟨h0, hs, _⟩ := stroke_of hst
  obtain ⟨i0, hi0, hz0, hz1, hz2⟩ := info_parts info_num
  have HC := Lib.hid (fun W => codeF_s s n fl W (by omega))
  rw [codeF_0.2 ⟨codeW_0.2 ⟨hst, inB_yes (by omega) (by omega)⟩, inB_yes (by omega) (by omega)⟩] at HC
  have HK := Lib.hid (fun (k : Nat) (hk : k ≤ 60) W => soundW_s s k fl W hst hk hf)
  obtain ⟨q, hq⟩ : ∃ q, q = sndQ (byteAt s) s.size fl := ⟨_, rfl⟩
  have HQ := Lib.hid (show ∀ k, 3 ≤ k → soundB (byteAt s) s.size k fl = q k from fun k hk => by rw [hq, sndQ_at hk])
  have H3 := Lib.hid (show idxs q 3 = [] by rw [hq]; exact sndQ_3 _ _ _)
  unfold sndL
  rw [← hq]
  clear hst hq
  go_enter Tryd.func4, Tryd.ntmps4
  go_wp2_with (go_at_call 9; refine (HC.out _).mono ?_; rintro e w' ⟨rfl, rfl⟩)
  go_loopw [10, 9] (fun i v wr => ∃ k : Nat, 3 ≤ k ∧ k ≤ n + 1 ∧ i = .int .i64 (k : Int) ∧ Hid (wr.ownsRow w.heap.size 2 1 v (idxs q k).length ((idxs q k).map (Value.int .i64))) ∧ Below w.heap.size w wr) (fun i _ _ => 61 - (intOf i).toNat)
  case atStart => exact ⟨3, Nat.le_refl _, by omega, rfl, by rw [H3.out]; exact owns_empty w _ _ (Nat.le_refl _), by go_grown⟩
  case round =>
    obtain ⟨k, hk3, hk, rfl, hown, hbl⟩ := hrel
    have HB := Lib.hid hbl
    have hzz := hbl.size
    clear hbl
    by_cases hlt : k ≤ n
    · have hlt' : (k : Int) ≤ (n : Int) := by omega
      have HK2 := Lib.hid (HK.out k (by omega))
      rw [HQ.out k hk3] at HK2
      cases hqk : q k
      · rw [hqk] at HK2
        have HN := Lib.hid (idxs_no hqk)
        clear hqk
        go_wp2_with fail
        refine (HK2.out _).mono ?_
        rintro e w2 ⟨rfl, b2⟩
        have g2 := Lib.hid (HB.out.trans (b2.mono hzz))
        have hown2 := Lib.hid (hown.out.kept (w' := w2) (row := none) ⟨by rw [b2.os], by rw [b2.tape], by rw [b2.output], b2.size, fun i hi _ => b2.block i hi⟩ (by cases hv : Value.ownBlock u9 <;> simp))
        clear b2
        go_wp2
        go_roundw
        case rel => exact ⟨k + 1, by omega, by omega, by go_num, by rw [HN.out]; exact hown2.out, g2.out⟩
        case measure => simp [intOf]; omega
      · rw [hqk] at HK2
        have HN := Lib.hid (idxs_yes hqk)
        have hlen := idxs_len q k
        clear hqk
        have hl1 : (idxs q k).length + 1 ≤ maxLen := by unfold maxLen; omega
        have hl2 : ((idxs q k).length + 1) * 8 ≤ 140737488355328 := by omega
        go_wp2_with fail
        refine (HK2.out _).mono ?_
        rintro e w2 ⟨rfl, b2⟩
        have y2 := b2.size
        have g2 := Lib.hid (HB.out.trans (b2.mono hzz))
        have hown2 := Lib.hid (hown.out.kept (w' := w2) (row := none) ⟨by rw [b2.os], by rw [b2.tape], by rw [b2.output], b2.size, fun i hi _ => b2.block i hi⟩ (by cases hv : Value.ownBlock u9 <;> simp))
        clear b2
        generalize hL : idxs q k = l at *
        have HL := Lib.hid hL
        clear hL
        go_wp2_with (at_builtin; refine wpList_append_own _ rfl _ _ 22 rfl w.heap.size 2 i0 (.int .i64 0) 1 8 Tryd.underlying22 hi0 hz0 hz1 hz2 rfl (by decide) _ _ _ rfl (hown2.out.alloc _) ⟨w2.heap.size, 0, none⟩ 1 1 [.int .i64 (k : Int)] rfl rfl ?c1 ?c2 hl1 hl2 ?c5 ?_)
        case c1 => intro j u hj; rcases j with _ | j <;> simp at hj; subst hj; go_simp
        case c2 => intro u hu; simp at hu; subst hu; rfl
        case c5 => simp; omega
        intro v' w3 hown1 hgrow1 _
        have g3 : Below w.heap.size w w3 := Below.grown (g2.out.alloc (by omega) _) hgrow1 (by simp; omega) (owns_block hown.out)
        have HO := Lib.hid (owns_snoc hown1)
        clear hown1 hgrow1
        go_wp2
        go_roundw
        case rel => exact ⟨k + 1, by omega, by omega, by go_num, by rw [HN.out]; exact HO.out, g3⟩
        case measure => simp [intOf]; omega
    · obtain rfl : k = n + 1 := by omega
      obtain ⟨A', c', rfl, hc1, hc2, hrow⟩ := row_of_owns hown.out
      have HW := Lib.hid hrow
      clear hrow
      go_wp2
      go_ret2
      exact ⟨_, _, rfl, hc1, hc2, HW.out, HB.out⟩
theorem soundStakes_s_no (s : ByteArray) (b a : Int) (w : World) (hs : s.size ≤ 1048576) (hc : codeF s a b ≠ 0) :
    Calls Tryd.prog 4 #[.string s, .int .i64 b, .int .i64 a] w (NumsCode w 2 [] (codeF s a b)) := by
  have HC := Lib.hid (fun W => codeF_s s a b W hs)
  generalize codeF s a b = v at *
  have e1 : (v == 0) = false := by simpa using hc
  have e2 : (v != 0) = true := by rw [bne, e1]; rfl
  clear hc
  go_enter Tryd.func4, Tryd.ntmps4
  go_wp2_with (go_at_call 9; refine (HC.out _).mono ?_; rintro e w' ⟨rfl, rfl⟩)
  go_ret2
  exact ⟨none, 0, rfl, Nat.le_refl _, by unfold maxLen; omega, Row.none_, Below.refl _ _⟩

set_option maxHeartbeats 4000000 in
set_option maxRecDepth 100000 in
theorem soundStakes_i (s : ByteArray) (fl n : Nat) (w : World) (hst : strokeB s = true) (n3 : 3 ≤ n) (hn : n ≤ 60) (f1 : 1 ≤ fl) (hf : fl ≤ 12) :
    Calls Tryd.prog 5 #[.string s, .int .i64 (fl : Int), .int .i64 (n : Int)] w (NumsCode w 2 (sndL s fl n) 0) := by
  have HS := Lib.hid hst
  have HI := Lib.hid (fun W => in_i (fl : Int) 1 12 W)
  rw [inB_yes (by omega) (by omega)] at HI
  have HCO := Lib.hid (fun (bl bh bs bf : Nat) (W : World) hcap k1 k2 k3 k4 => collect_c s fl n bl bh bs bf W hst n3 hn hf hcap k1 k2 k3 k4)
  clear hst
  go_enter Tryd.func5, Tryd.ntmps5
  go_wp2_with fail
  refine (new_i s n _ HS.out n3 hn).mono ?_
  rintro e w1 ⟨rfl, b1⟩
  have z1 := b1.size
  go_wp2_with (go_at_call 12; refine (HI.out _).mono ?_; rintro e w' ⟨rfl, rfl⟩)
  refine (sound_c s _ _ _ _).mono ?_
  rintro e w2 ⟨rfl, rfl⟩
  go_wp2_with fail
  have hcap : Cap (w1.heap.size + 1 + 1 + 1) (w1.heap.size + 1 + 1 + 1 + 1) (w1.heap.size + 1) (w1.heap.size + 1 + 1) s fl 3 n (((((w1.alloc (Obj.cells #[Value.string s, Value.int IntKind.i64 (n : Int)] 30)).alloc (Obj.cells #[Value.string s] 9)).alloc (Obj.cells #[Value.int IntKind.i64 (fl : Int)] 2)).alloc (Obj.cells #[Value.int IntKind.i64 3] 2)).alloc (Obj.cells #[Value.int IntKind.i64 (n : Int)] 2)) :=
    ⟨by go_simp, by go_simp, by go_simp, by go_simp⟩
  refine (HCO.out _ _ _ _ _ hcap (by simp) (by simp) (by simp) (by simp)).mono ?_
  rintro e w3 ⟨v, rfl, hown, b3⟩
  obtain ⟨A', c', rfl, hc1, hc2, hrow⟩ := row_of_owns hown
  have HW := Lib.hid (show Row w3 w.heap.size w3.heap.size A' (sndL s fl n).length 1 2 (fun j => (sndL s fl n).getD j 0) from Row.wide hrow (by simp; omega) (Nat.le_refl _))
  have g3 : Below w.heap.size w w3 := Below.trans (((((b1.alloc z1 _).alloc (by simp; omega) _).alloc (by simp; omega) _).alloc (by simp; omega) _).alloc (by simp; omega) _) (b3.mono (by simp; omega))
  clear hrow hown b3 hcap
  go_wp2
  go_ret2
  exact ⟨_, _, rfl, hc1, hc2, HW.out, g3⟩
set_option maxHeartbeats 1000000 in
theorem soundStakes_i_no (s : ByteArray) (b a : Int) (w : World) (hs : s.size ≤ 1048576) (hc : codeF s a b ≠ 0) :
    Calls Tryd.prog 5 #[.string s, .int .i64 b, .int .i64 a] w (NumsCode w 2 [] (codeF s a b)) := by
  by_cases h : codeW s a = 0
  · obtain ⟨h1, h2⟩ := codeW_0.1 h
    obtain ⟨n, rfl, n3, n60⟩ := stakes_of h2
    have hb : inB b 1 12 = false := by
      cases hb : inB b 1 12
      · rfl
      · exact absurd (codeF_0.2 ⟨h, hb⟩) hc
    rw [codeF_b h hb]
    have HS := Lib.hid h1
    have HI := Lib.hid (fun W => in_i b 1 12 W)
    rw [hb] at HI
    clear h h1 h2 hb hc
    go_enter Tryd.func5, Tryd.ntmps5
    go_wp2_with fail
    refine (new_i s n _ HS.out n3 n60).mono ?_
    rintro e w1 ⟨rfl, b1⟩
    go_wp2_with (go_at_call 12; refine (HI.out _).mono ?_; rintro e w' ⟨rfl, rfl⟩)
    go_ret2
    exact ⟨none, 0, rfl, Nat.le_refl _, by unfold maxLen; omega, Row.none_, b1.alloc b1.size _⟩
  · rw [codeF_w h]
    have HN := Lib.hid (fun W => new_i_no s a W hs h)
    generalize codeW s a = v at *
    have e1 : (v == 0) = false := by simpa using h
    have e2 : (v != 0) = true := by rw [bne, e1]; rfl
    clear hc h
    go_enter Tryd.func5, Tryd.ntmps5
    go_wp2_with fail
    refine (HN.out _).mono ?_
    rintro e w1 ⟨rfl, b1⟩
    go_wp2
    go_ret2
    exact ⟨none, 0, rfl, Nat.le_refl _, by unfold maxLen; omega, Row.none_, b1.alloc b1.size _⟩

end Go.Proofs.YtbmdggcfoohmgabDoor.sn
