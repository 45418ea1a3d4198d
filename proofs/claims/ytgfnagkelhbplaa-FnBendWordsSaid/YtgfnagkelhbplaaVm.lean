/-
  Pairs of answers on borders: what both functions tell, for any arguments. No condition of a statement lies here.
-/
import Derived.Test.YtgfnagkelhbplaaVj
namespace Go.Proofs.Ytgfnagkelhbplaa.brd
open Go.ChangeShapes Go.WideShapes Go.ChangeAt Go.RowKit Go.Proofs.Ytgfnagkelhbplaa.mem Go.Proofs.Ytgfnagkelhbplaa.rod Go.Proofs.Ytgfnagkelhbplaa.nums
set_option linter.unusedVariables false
set_option maxRecDepth 100000

theorem bigT_c (A : Option Addr) (n c : Nat) (w : World) (hn : n ≤ 4096) :
    Calls Try.prog 41 #[.slice A n c] w fun e w' => e = .returned (.bool false) ∧ w' = w := by
  have h : ¬ (4096 : Int) < (n : Int) := by omega
  go_enter Try.func41, Try.ntmps41
  go_wp2
  go_ret
  exact ⟨rfl, rfl⟩
theorem bigT_no (A : Option Addr) (n c : Nat) (w : World) (hn : 4096 < n) :
    Calls Try.prog 41 #[.slice A n c] w fun e w' => e = .returned (.bool true) ∧ w' = w := by
  have h : (4096 : Int) < (n : Int) := by omega
  go_enter Try.func41, Try.ntmps41
  go_wp2
  go_ret
  exact ⟨rfl, rfl⟩
set_option maxHeartbeats 2000000 in
theorem textsT_c (A1 A2 : Option Addr) (n c1 c2 : Nat) (T : Nat → ByteArray) (w : World) (hn : n ≤ maxLen) (h1 : split.SlS w A1 n T) (h2 : split.SlS w A2 n T) :
    Calls Try.prog 46 #[.slice A1 n c1, .slice A2 n c2] w fun e w' => e = .returned (.bool true) ∧ ∃ m, w' = w.drewN m := by
  unfold maxLen at hn
  have H1 := Lib.hid h1
  have H2 := Lib.hid h2
  clear h1 h2
  go_enter Try.func46, Try.ntmps46
  go_wp2_with fail
  go_loopw [5] (fun s wr => ∃ k m : Nat, k ≤ n ∧ s = .int .i64 k ∧ wr = w.drewN m) (fun s _ => n - (intOf s).toNat)
  case atStart => exact ⟨0, 0, by omega, rfl, rfl⟩
  case round =>
    obtain ⟨k, m, hk, rfl, rfl⟩ := hrel
    by_cases hlt : k < n
    · have hlt' : (k : Int) < (n : Int) := by omega
      have hk0 : (0 : Int) ≤ (k : Int) := by omega
      obtain ⟨g1, rfl, _, hX⟩ := H1.out (by omega)
      obtain ⟨g2, rfl, _, hY⟩ := H2.out (by omega)
      have p0 := hX k (by omega)
      have p1 := hY k (by omega)
      clear hX hY H1 H2
      generalize T k = R at *
      have e1 : (R.toList == R.toList) = true := by simp
      have e2 : (R.toList != R.toList) = false := by simp
      go_wp2_with fail
      go_quiet (fail)
      go_wp2
      go_roundw
      case rel => exact ⟨k + 1, _, by omega, by go_num, rfl⟩
      case measure => simp [intOf]; omega
    · obtain rfl : k = n := by omega
      go_wp2
      go_ret
      exact ⟨rfl, m, rfl⟩


theorem listW_asc {n : Nat} (h1 : 1 ≤ n) (h8 : n ≤ 8) : ascB (listW n) = true := by
  have := goodN_of h1 h8
  unfold goodN at this
  simp only [Bool.and_eq_true] at this
  exact this.2
theorem rod_more {s : ByteArray} {r st : Nat} (hb : bendB s = true) (r0 : 100 ≤ r) (r1 : r ≤ 5000) (hst : st ≤ 40) (h2 : s.size + 2 ≤ st) : ∃ p q : Int, (rodV s r st : Int) * (st : Int) = p ∧ (r : Int) * ((s.size : Int) + 1) = q ∧ q ≤ p ∧ 0 ≤ q ∧ p ≤ 100000000 := by
  obtain ⟨b1, b8, _⟩ := bend_of hb
  obtain ⟨P, hP, eP, eV, hV⟩ := rod_facts (r := r) (st := st) b8 r0 r1 (by omega) hst
  have hq : (r : Int) * ((s.size : Int) + 1) = ((r * (s.size + 1) : Nat) : Int) := by rw [Int.natCast_mul]; rfl
  have hp : (rodV s r st : Int) * (st : Int) = ((rodV s r st * st : Nat) : Int) := by rw [Int.natCast_mul]
  have hPn : r * (10 * (s.size + 1) + cntB s s.size) = P := by have : ((r * (10 * (s.size + 1) + cntB s s.size) : Nat) : Int) = (P : Int) := by rw [← eP]; simp [Int.natCast_mul, Int.natCast_add]
                                                               exact Int.ofNat.inj this
  have h10 : 10 * (r * (s.size + 1)) ≤ P := by
    have e : 10 * (r * (s.size + 1)) = r * (10 * (s.size + 1)) := by rw [← Nat.mul_assoc, Nat.mul_comm 10 r, Nat.mul_assoc]
    rw [← hPn, e]
    exact Nat.mul_le_mul_left _ (by omega)
  have hdiv : P ≤ rodV s r st * (10 * st) := by
    rw [eV]
    have hd := Nat.div_add_mod (P + 10 * st - 1) (10 * st)
    have hm := Nat.mod_lt (P + 10 * st - 1) (show 0 < 10 * st by omega)
    rw [Nat.mul_comm] at hd
    generalize (P + 10 * st - 1) / (10 * st) * (10 * st) = Z at *
    omega
  have e3 : rodV s r st * (10 * st) = 10 * (rodV s r st * st) := by rw [← Nat.mul_assoc, Nat.mul_comm _ 10, Nat.mul_assoc]
  have hle : rodV s r st * st ≤ 490400 * 40 := Nat.mul_le_mul (by omega) hst
  refine ⟨_, _, hp, hq, ?_, by omega, by omega⟩
  rw [e3] at hdiv
  generalize rodV s r st * st = Z at *
  generalize r * (s.size + 1) = Y at *
  omega

theorem same_any (a b : ByteArray) (ha : a.size ≤ 9) (hb : b.size ≤ 9) : ∃ (v : Bool) (c : Int), (c = 0 → bothB a b = true ∧ v = sameV a b) ∧ (bothB a b = true → c = 0 ∧ v = sameV a b) ∧ (∀ w, Calls Try.prog 31 #[.string a, .string b] w fun e w' => e = .returned (.tuple #[.bool v, .int .i64 c]) ∧ Below w.heap.size w w') ∧ ∀ w, Calls Try.prog 30 #[.string a, .string b] w fun e w' => e = .returned (.tuple #[.bool v, .int .i64 c]) ∧ Below w.heap.size w w' := by
  cases hv : bothB a b
  · exact ⟨false, 7, fun h => absurd h (by decide), fun h => absurd h (by decide), fun w => same_i_no a b w (by omega) (by omega) hv, fun w => same_s_no a b w (by omega) (by omega) hv⟩
  · exact ⟨sameV a b, 0, fun _ => ⟨rfl, rfl⟩, fun _ => ⟨rfl, rfl⟩, fun w => same_i a b w (by omega) (by omega) hv, fun w => same_s a b w hv⟩

theorem first_any (s : ByteArray) (hs : s.size ≤ 9) : ∃ (f : ByteArray) (c : Int), f.size ≤ 9 ∧ (c = 0 → bendB s = true ∧ f = toB (first (bits s))) ∧ (∀ w, Calls Try.prog 29 #[.string s] w fun e w' => e = .returned (.tuple #[.string f, .int .i64 c]) ∧ Below w.heap.size w w') ∧ ∀ w, Calls Try.prog 28 #[.string s] w fun e w' => e = .returned (.tuple #[.string f, .int .i64 c]) ∧ Below w.heap.size w w' := by
  cases hv : bendB s
  · exact ⟨⟨#[]⟩, 7, by decide, fun h => absurd h (by decide), fun w => first_i_no s w (by omega) hv, fun w => first_s_no s w (by omega) hv⟩
  · exact ⟨toB (first (bits s)), 0, by rw [toB_size, first_len, bits_len]; exact hs, fun _ => ⟨rfl, rfl⟩, fun w => first_i s w hv, fun w => first_s s w hv⟩

theorem lock_any (s : ByteArray) (a : Int) (hs : s.size ≤ 9) : ∃ (v : Bool) (c : Int), (c = 0 → codeW s a = 0 ∧ v = decide (0 < cntB s s.size)) ∧ (c ≠ 0 → codeW s a ≠ 0) ∧ (∀ w, Calls Try.prog 25 #[.string s, .int .i64 a] w fun e w' => e = .returned (.tuple #[.bool v, .int .i64 c]) ∧ Below w.heap.size w w') ∧ ∀ w, Calls Try.prog 24 #[.string s, .int .i64 a] w fun e w' => e = .returned (.tuple #[.bool v, .int .i64 c]) ∧ Below w.heap.size w w' := by
  by_cases hv : codeW s a = 0
  · obtain ⟨hb, st, rfl, h1, h2⟩ := stakesW_nat hv
    exact ⟨_, 0, fun _ => ⟨hv, rfl⟩, fun h => absurd rfl h, fun w => lock_i s st w hb h1 h2, fun w => lock_s s st w hb h1 h2⟩
  · exact ⟨false, codeW s a, fun h => absurd h hv, fun h => h, fun w => lock_i_no s a _ w (by omega) rfl hv, fun w => lock_s_no s a _ w (by omega) rfl hv⟩

theorem out_any (s : ByteArray) (a : Int) (hs : s.size ≤ 9) : ∃ (v c : Int), (c = 0 → codeW s a = 0 ∧ v = (outN s a.toNat : Int)) ∧ (codeW s a = 0 → c = 0) ∧ (∀ w, Calls Try.prog 27 #[.string s, .int .i64 a] w fun e w' => e = .returned (.tuple #[.int .i64 v, .int .i64 c]) ∧ Below w.heap.size w w') ∧ ∀ w, Calls Try.prog 26 #[.string s, .int .i64 a] w fun e w' => e = .returned (.tuple #[.int .i64 v, .int .i64 c]) ∧ Below w.heap.size w w' := by
  by_cases hv : codeW s a = 0
  · obtain ⟨hb, st, rfl, h1, h2⟩ := stakesW_nat hv
    exact ⟨_, 0, fun _ => ⟨hv, rfl⟩, fun _ => rfl, fun w => out_i s st w hb h1 h2, fun w => out_s s st w hb h1 h2⟩
  · exact ⟨0, codeW s a, fun h => absurd h hv, fun h => h, fun w => out_i_no s a _ w (by omega) rfl hv, fun w => out_s_no s a _ w (by omega) rfl hv⟩

theorem end_any (s : ByteArray) (a k : Int) (hs : s.size ≤ 9) : ∃ (v c : Int), True ∧ (∀ w, Calls Try.prog 18 #[.string s, .int .i64 a, .int .i64 k] w fun e w' => e = .returned (.tuple #[.int .i64 v, .int .i64 c]) ∧ Below w.heap.size w w') ∧ ∀ w, Calls Try.prog 17 #[.string s, .int .i64 a, .int .i64 k] w fun e w' => e = .returned (.tuple #[.int .i64 v, .int .i64 c]) ∧ Below w.heap.size w w' := by
  by_cases hv : codeK s a k = 0
  · obtain ⟨hb, st, kk, rfl, rfl, h0, h1, h2⟩ := stakes_nat hv
    exact ⟨_, 0, trivial, fun w => end_i s st kk w hb h0 h1 h2, fun w => end_s s st kk w hb h0 h1 h2⟩
  · exact ⟨0, codeK s a k, trivial, fun w => end_i_no s a k _ w (by omega) rfl hv, fun w => end_s_no s a k _ w (by omega) rfl hv⟩

theorem cov_any (s : ByteArray) (a k : Int) (hs : s.size ≤ 9) : ∃ (l : List Int) (c : Int), l.length ≤ 8 ∧ (codeK s a k = 0 → c = 0 ∧ l.length = cntB s s.size) ∧ (∀ w, Calls Try.prog 20 #[.string s, .int .i64 a, .int .i64 k] w (NumsCode w 2 l c)) ∧ ∀ w, Calls Try.prog 19 #[.string s, .int .i64 a, .int .i64 k] w (NumsCode w 2 l c) := by
  by_cases hv : codeK s a k = 0
  · obtain ⟨hb, st, kk, rfl, rfl, h0, h1, h2⟩ := stakes_nat hv
    have h8 := (bend_of hb).2.1
    have h9 := cntB_le s s.size
    exact ⟨ovL s st kk s.size, 0, by rw [ovL_len]; omega, fun _ => ⟨rfl, ovL_len s st kk s.size⟩, fun w => cov_i s st kk w hb h0 h1 h2, fun w => cov_s s st kk w hb h0 h1 h2⟩
  · exact ⟨[], codeK s a k, by simp, fun h => absurd h hv, fun w => cov_i_no s a k _ w (by omega) rfl hv, fun w => cov_s_no s a k _ w (by omega) rfl hv⟩

theorem locked_any (a b : Int) (hw : (Lit.int .i64 a).wf = true) : ∃ (W : List (List Bool)) (c : Int), W.length ≤ 256 ∧ (∀ i, i < W.length → ∃ st : Nat, b = (st : Int) ∧ st ≤ 40 ∧ 1 ≤ (W.getD i []).length ∧ (W.getD i []).length ≤ 8 ∧ (W.getD i []).length + 2 ≤ st ∧ outN (toB (W.getD i [])) st = 1) ∧ (∀ w, Calls Try.prog 38 #[.int .i64 a, .int .i64 b] w (TextsC w W c)) ∧ ∀ w, Calls Try.prog 37 #[.int .i64 a, .int .i64 b] w (TextsC w W c) := by
  cases hv : lkB a b
  · exact ⟨[], 2, by simp, fun i hi => absurd hi (by simp), fun w => locked_i_no a b w hv, fun w => locked_s_no a b w hw hv⟩
  · obtain ⟨h1, h2⟩ := Bool.and_eq_true_iff.1 hv
    obtain ⟨h1, h8⟩ := inB_of h1
    obtain ⟨h2, h40⟩ := inB_of h2
    obtain ⟨n, rfl⟩ : ∃ n : Nat, a = n := ⟨a.toNat, by omega⟩
    obtain ⟨st, rfl⟩ : ∃ n : Nat, b = n := ⟨b.toNat, by omega⟩
    have n1 : 1 ≤ n := by omega
    have n8 : n ≤ 8 := by omega
    refine ⟨lckL st (listW n), 0, ?_, fun i hi => ?_, fun w => locked_i n st w n1 n8 (by omega) (by omega), fun w => locked_s n st w n1 n8 (by omega) (by omega)⟩
    · exact Nat.le_trans (List.length_filter_le _ _) (listW_few n8)
    · have hm : (lckL st (listW n)).getD i [] ∈ lckL st (listW n) := by rw [List.getD_eq_getElem?_getD, List.getElem?_eq_getElem hi]; exact List.getElem_mem hi
      obtain ⟨m1, m2⟩ := List.mem_filter.1 hm
      obtain ⟨e1, e2⟩ := listW_mem n1 n8 m1
      exact ⟨st, rfl, by omega, by omega, by omega, by omega, of_decide_eq_true m2⟩

theorem rod_any (s : ByteArray) (r a : Int) (hs : s.size ≤ 9) : ∃ (v c : Int), (c = 0 → ∃ p q : Int, v * a = p ∧ r * ((s.size : Int) + 1) = q ∧ q ≤ p ∧ 0 ≤ q ∧ p ≤ 100000000) ∧ (∀ w, Calls Try.prog 40 #[.string s, .int .i64 r, .int .i64 a] w fun e w' => e = .returned (.tuple #[.int .i64 v, .int .i64 c]) ∧ Below w.heap.size w w') ∧ ∀ w, Calls Try.prog 39 #[.string s, .int .i64 r, .int .i64 a] w fun e w' => e = .returned (.tuple #[.int .i64 v, .int .i64 c]) ∧ Below w.heap.size w w' := by
  by_cases hv : codeR s r a = 0
  · obtain ⟨hb, st, rr, rfl, rfl, r0, r1, h1, h2⟩ := rod_nat hv
    refine ⟨_, 0, fun _ => rod_more hb r0 r1 h1 h2, fun w => rod_i s rr st w hb r0 r1 h1 h2, fun w => rod_s s rr st w hb r0 r1 h1 h2⟩
  · exact ⟨0, codeR s r a, fun h => absurd h hv, fun w => rod_i_no s r a _ w (by omega) rfl hv, fun w => rod_s_no s r a _ w (by omega) rfl hv⟩

end Go.Proofs.Ytgfnagkelhbplaa.brd
