/-
  Codes of borders, the stakes that a rod passes, EndOfBend, CoversOf, IsLocked and RodForBorder, of the model and of the program. No condition of a statement lies here.
-/
import Derived.Test.YtgfnagkelhbplaaVb
import Derived.Test.YtgfnagkelhbplaaNums
import Derived.Test.YtgfnagkelhbplaaAppend
import Derived.OwnWalk
import Derived.Deep.RegionHeld3
import Derived.BigQuiet
import Derived.Deep.QuietTactic
namespace Go.Proofs.Ytgfnagkelhbplaa.brd
open Go.ChangeShapes Go.WideShapes Go.ChangeAt Go.RowKit Go.Proofs.Ytgfnagkelhbplaa.mem Go.Proofs.Ytgfnagkelhbplaa.rod Go.Proofs.Ytgfnagkelhbplaa.nums
set_option linter.unusedVariables false
set_option linter.unusedSimpArgs false
set_option maxRecDepth 100000

theorem owns_belowL {w w' : World} {B n size K : Nat} {E : TypeId} {v : Value} {xs : List Value} (h : w.ownsRow B E size v n xs) (hb : Below K w w') (hK : w.heap.size ≤ K) : w'.ownsRow B E size v n xs := by
  obtain ⟨hl, h0⟩ := h
  refine ⟨hl, ?_⟩
  rcases h0 with ⟨rfl, rfl⟩ | ⟨g, cap, cur, rfl, hB, hh, hc, hm, hsz, ht⟩
  · exact .inl ⟨rfl, rfl⟩
  · have hlt : g < w.heap.size := (Array.getElem?_eq_some_iff.1 hh).1
    exact .inr ⟨g, cap, cur, rfl, hB, (hb.block g (by omega)).trans hh, hc, hm, hsz, ht⟩
theorem mod_at {a st : Nat} {x : Int} (h : x = (a : Int)) : x.tmod (st : Int) = ((a % st : Nat) : Int) ∧ x % (st : Int) = ((a % st : Nat) : Int) := by
  subst h
  refine ⟨?_, (Int.natCast_emod a st).symm⟩
  rw [Int.tmod_eq_emod_of_nonneg (by omega)]
  exact (Int.natCast_emod a st).symm
theorem owns_iterAt {wr : World} {B n size b p : Nat} {E : TypeId} {v : Value} {xs : List Value} {s : ByteArray} (h : wr.ownsRow B E size v n xs) (hk : wr.heap[b]? = some (.stringIter s p)) (q : Nat) : (wr.iterAt b s q).ownsRow B E size v n xs := by
  obtain ⟨hl, h0⟩ := h
  refine ⟨hl, ?_⟩
  rcases h0 with ⟨rfl, rfl⟩ | ⟨g, cap, cur, rfl, hB, hh, hc, hm, hsz, ht⟩
  · exact .inl ⟨rfl, rfl⟩
  · have hne : g ≠ b := by rintro rfl; rw [hk] at hh; cases hh
    exact .inr ⟨g, cap, cur, rfl, hB, (Lib.iterAt_other wr b g s q hne).trans hh, hc, hm, hsz, ht⟩
theorem owns_lower {w : World} {B B' n size : Nat} {E : TypeId} {v : Value} {xs : List Value} (h : w.ownsRow B E size v n xs) (hB : B' ≤ B) : w.ownsRow B' E size v n xs := by
  obtain ⟨hl, h0⟩ := h
  refine ⟨hl, ?_⟩
  rcases h0 with ⟨rfl, rfl⟩ | ⟨g, cap, cur, rfl, hB, hh, hc, hm, hsz, ht⟩
  · exact .inl ⟨rfl, rfl⟩
  · exact .inr ⟨g, cap, cur, rfl, by omega, hh, hc, hm, hsz, ht⟩
theorem ItAt.later2 {w wr w1 : World} {b K : Nat} {s : ByteArray} {pos : Nat} (h : ItAt w wr b s pos) (hb : Below K wr w1) (hK : b < K) : ItAt w w1 b s pos :=
  ⟨h.le, (hb.block _ hK).trans h.at_, h.own, h.below.trans (hb.mono (by have := h.own; omega))⟩
theorem cell_iterAt {wr : World} {b c o : Nat} {s : ByteArray} {q : Nat} (h : c ≠ b) : (wr.iterAt b s q).cell? ⟨c, o, none⟩ = wr.cell? ⟨c, o, none⟩ := by
  have e := Lib.iterAt_other wr b c s q h
  unfold World.cell?
  simp only [e]
/-- a border in a block of the call's own -/
def BdBlk (w : World) (b : Nat) (s : ByteArray) (st : Int) : Prop := w.heap[b]? = some (Obj.cells #[.string s, .int .i64 st] 62 (0, 0))
theorem BdBlk.cell0 {w : World} {b : Nat} {s : ByteArray} {st : Int} (h : BdBlk w b s st) : w.cell? ⟨b, 0, none⟩ = some (.string s) := by unfold BdBlk at h; simp [World.cell?, h]
theorem BdBlk.cell1 {w : World} {b : Nat} {s : ByteArray} {st : Int} (h : BdBlk w b s st) : w.cell? ⟨b, 1, none⟩ = some (.int .i64 st) := by unfold BdBlk at h; simp [World.cell?, h]
theorem BdBlk.lt {w : World} {b : Nat} {s : ByteArray} {st : Int} (h : BdBlk w b s st) : b < w.heap.size := (Array.getElem?_eq_some_iff.1 h).1
theorem BdBlk.of_block {w w' : World} {b : Nat} {s : ByteArray} {st : Int} (h : BdBlk w b s st) (e : w'.heap[b]? = w.heap[b]?) : BdBlk w' b s st := e.trans h
theorem BdBlk.below {w w' : World} {b K : Nat} {s : ByteArray} {st : Int} (h : BdBlk w b s st) (hb : Below K w w') (hK : b < K) : BdBlk w' b s st := h.of_block (hb.block b hK)
/-- the answer is a row of its own -/
def NewL (w : World) (l : List Int) (e : Ending) (w' : World) : Prop :=
  ∃ A c, e = .returned (.slice A l.length c) ∧ l.length ≤ c ∧ c ≤ maxLen ∧ Row w' w.heap.size w'.heap.size A l.length 1 2 (fun j => l.getD j 0) ∧ Below w.heap.size w w'
theorem newL_of {w w' : World} {l : List Int} {v : Value} (h : w'.ownsRow w.heap.size 2 1 v l.length (l.map (Value.int .i64))) (hb : Below w.heap.size w w') : NewL w l (.returned v) w' := by
  obtain ⟨A, c, rfl, h1, h2, h3⟩ := row_of_owns h
  exact ⟨A, c, rfl, h1, h2, h3, hb⟩

set_option maxHeartbeats 1000000 in
theorem stakes_s (s : ByteArray) (a : Int) (w : World) (hs : s.size ≤ 1048576) :
    Calls Try.prog 75 #[.string s, .int .i64 a] w fun e w' => e = .returned (.bool (inB a ((s.size : Int) + 2) 40)) ∧ w = w' := by
  go_enter Try.func75, Try.ntmps75
  go_wp2_with (go_at_call 56; refine (in_s _ _ _ _).mono ?_; rintro e w' ⟨rfl, rfl⟩)
  go_ret
  exact ⟨rfl, rfl⟩

set_option maxHeartbeats 1000000 in
theorem code_s (s : ByteArray) (a : Int) (w : World) (hs : s.size ≤ 1048576) :
    Calls Try.prog 55 #[.string s, .int .i64 a] w fun e w' => e = .returned (.int .i64 (codeW s a)) ∧ w = w' := by
  have HO := Lib.hid (fun W => ok_s s W hs)
  have HS := Lib.hid (fun W => stakes_s s a W hs)
  cases h1 : bendB s
  · rw [h1] at HO
    rw [codeW_no h1]
    clear h1
    go_enter Try.func55, Try.ntmps55
    go_wp2_with (go_at_call 51; refine (HO.out _).mono ?_; rintro e w' ⟨rfl, rfl⟩)
    go_ret
    exact ⟨rfl, rfl⟩
  · rw [h1] at HO
    cases h2 : inB a ((s.size : Int) + 2) 40
    all_goals
      rw [h2] at HS
    · rw [codeW_far h1 h2]
      clear h1 h2
      go_enter Try.func55, Try.ntmps55
      go_wp2_with (first | (go_at_call 51; refine (HO.out _).mono ?_; rintro e w' ⟨rfl, rfl⟩) | (go_at_call 75; refine (HS.out _).mono ?_; rintro e w' ⟨rfl, rfl⟩))
      go_ret
      exact ⟨rfl, rfl⟩
    · rw [codeW_yes h1 h2]
      clear h1 h2
      go_enter Try.func55, Try.ntmps55
      go_wp2_with (first | (go_at_call 51; refine (HO.out _).mono ?_; rintro e w' ⟨rfl, rfl⟩) | (go_at_call 75; refine (HS.out _).mono ?_; rintro e w' ⟨rfl, rfl⟩))
      go_ret
      exact ⟨rfl, rfl⟩

set_option maxHeartbeats 2000000 in
theorem behind_s (s : ByteArray) (w : World) (h8 : s.size ≤ 8) :
    Calls Try.prog 62 #[.string s] w fun e w' => e = .returned (.int .i64 ((cntB s s.size : Nat) : Int)) ∧ w = w' := by
  go_enter Try.func62, Try.ntmps62
  go_wp2_with fail
  go_loop [4, 3] (fun i v => ∃ k : Nat, k ≤ s.size ∧ i = .int .i64 (k : Int) ∧ v = .int .i64 ((cntB s k : Nat) : Int)) (fun i v => s.size - (intOf i).toNat)
  case atStart => exact ⟨0, by omega, rfl, rfl⟩
  case round =>
    obtain ⟨k, hk, rfl, rfl⟩ := hrel
    by_cases hlt : k < s.size
    · have hlt' : (k : Int) < (s.size : Int) := by omega
      have hk0 : (0 : Int) ≤ (k : Int) := by omega
      have hck := cntB_le s k
      cases hb : isB s k
      · have HN := Lib.hid (show cntB s (k + 1) = cntB s k by show _ + _ = _; rw [hb]; rfl)
        have e1 : (((s[k]'hlt).toNat : Int) == 98) = false := by unfold isB at hb; rw [byteAt_eq hlt] at hb; simpa using hb
        have e2 : (((s[k]'hlt).toNat : Int) != 98) = true := by rw [bne, e1]; rfl
        clear hb
        go_wp2
        go_round
        case rel => exact ⟨k + 1, by omega, by go_num, by rw [HN.out]⟩
        case measure => simp [intOf]; omega
      · have HN := Lib.hid (show cntB s (k + 1) = cntB s k + 1 by show _ + _ = _; rw [hb]; rfl)
        have e1 : (((s[k]'hlt).toNat : Int) == 98) = true := by unfold isB at hb; rw [byteAt_eq hlt] at hb; simpa using hb
        have e2 : (((s[k]'hlt).toNat : Int) != 98) = false := by rw [bne, e1]; rfl
        clear hb
        go_wp2
        go_round
        case rel => exact ⟨k + 1, by omega, by go_num, by rw [HN.out]; go_num⟩
        case measure => simp [intOf]; omega
    · obtain rfl : k = s.size := by omega
      go_wp2
      go_ret
      exact ⟨rfl, rfl⟩

set_option maxHeartbeats 2000000 in
theorem covers_s (s : ByteArray) (st k : Nat) (w : World) (h8 : s.size ≤ 8) (hk : k < st) (hst : st ≤ 40) :
    Calls Try.prog 60 #[.string s, .int .i64 (st : Int), .int .i64 (k : Int)] w (NewL w (ovL s st k s.size)) := by
  obtain ⟨i0, hi0, hz0, hz1, hz2⟩ := info_parts info_num
  go_enter Try.func60, Try.ntmps60
  go_wp2_with fail
  go_loopw [8, 7] (fun t v wr => ∃ i : Nat, i ≤ s.size ∧ t = .int .i64 (i : Int) ∧ Hid (wr.ownsRow w.heap.size 2 1 v (ovL s st k i).length ((ovL s st k i).map (Value.int .i64))) ∧ Below w.heap.size w wr) (fun t _ _ => s.size - (intOf t).toNat)
  case atStart => exact ⟨0, by omega, rfl, owns_empty w w.heap.size 2 (Nat.le_refl _), by go_grown⟩
  case round =>
    obtain ⟨i, hi, rfl, hown, hbl⟩ := hrel
    have HB := Lib.hid hbl
    have hzz := hbl.size
    clear hbl
    by_cases hlt : i < s.size
    · have hlt' : (i : Int) < (s.size : Int) := by omega
      have hi0' : (0 : Int) ≤ (i : Int) := by omega
      cases hb : isB s i
      · have HN := Lib.hid (ovL_no (st := st) (k := k) hb)
        have e1 : (((s[i]'hlt).toNat : Int) == 98) = false := by unfold isB at hb; rw [byteAt_eq hlt] at hb; simpa using hb
        have e2 : (((s[i]'hlt).toNat : Int) != 98) = true := by rw [bne, e1]; rfl
        clear hb
        go_wp2
        go_roundw
        case rel => exact ⟨i + 1, by omega, by go_num, by rw [HN.out]; exact hown.out, HB.out⟩
        case measure => simp [intOf]; omega
      · have HN := Lib.hid (ovL_yes (st := st) (k := k) hb)
        have e1 : (((s[i]'hlt).toNat : Int) == 98) = true := by unfold isB at hb; rw [byteAt_eq hlt] at hb; simpa using hb
        have e2 : (((s[i]'hlt).toNat : Int) != 98) = false := by rw [bne, e1]; rfl
        clear hb
        have hlen : (ovL s st k i).length ≤ i := by rw [ovL_len]; exact cntB_le s i
        have hl1 : (ovL s st k i).length + 1 ≤ maxLen := by unfold maxLen; omega
        have hl2 : ((ovL s st k i).length + 1) * 8 ≤ 140737488355328 := by omega
        have hst0 : ((st : Int) == 0) = false := beq_false_of_ne (by omega)
        have hst1 : ¬ (st : Int) = 0 := by omega
        obtain ⟨hmod2, hmod3⟩ := mod_at (a := k + i + 1) (st := st) (x := (k : Int) + (i : Int) + 1) (by omega)
        have hq := Nat.mod_lt (k + i + 1) (show 0 < st by omega)
        generalize (k + i + 1) % st = q at *
        generalize ovL s st k i = l at *
        go_wp2_with (at_builtin; refine wpList_append_own _ rfl _ _ 26 rfl w.heap.size 2 i0 (.int .i64 0) 1 8 Try.underlying26 hi0 hz0 hz1 hz2 rfl (by decide) _ _ _ rfl (hown.out.alloc _) ⟨wr.heap.size, 0, none⟩ 1 1 [.int .i64 (q : Int)] rfl rfl ?c1 ?c2 hl1 hl2 ?c5 ?_)
        case c1 => intro j u hj; rcases j with _ | j <;> simp at hj; subst hj; go_simp
        case c2 => intro u hu; simp at hu; subst hu; rfl
        case c5 => simp <;> omega
        intro v' w1 hown1 hgrow1 _
        have g1 : Below w.heap.size w w1 := Below.grown (HB.out.alloc hzz _) hgrow1 (by simp; omega) (owns_block hown.out)
        have HO := Lib.hid (owns_snoc hown1)
        clear hown1 hgrow1
        go_wp2
        go_roundw
        case rel => exact ⟨i + 1, by omega, by go_num, by rw [HN.out]; exact HO.out, g1⟩
        case measure => simp [intOf]; omega
    · obtain rfl : i = s.size := by omega
      go_wp2
      go_ret
      exact newL_of hown.out HB.out

set_option maxHeartbeats 1000000 in
theorem enough_i (a n : Int) (w : World) (h0 : 0 ≤ n) (h8 : n ≤ 1048576) :
    Calls Try.prog 72 #[.int .i64 a, .int .i64 n] w fun e w' => e = .returned (.bool (inB a (n + 2) 40)) ∧ w = w' := by
  go_enter Try.func72, Try.ntmps72
  go_wp2_with (go_at_call 52; refine (in_i _ _ _ _).mono ?_; rintro e w' ⟨rfl, rfl⟩)
  go_ret
  exact ⟨rfl, rfl⟩

set_option maxHeartbeats 1000000 in
theorem newBorder_i_no (s : ByteArray) (a c : Int) (w : World) (hs : s.size ≤ 1048576) (hc : codeW s a = c) (h0 : c ≠ 0) :
    Calls Try.prog 63 #[.string s, .int .i64 a] w fun e w' => e = .returned (.tuple #[.agg #[.string ⟨#[]⟩, .int .i64 0], .int .i64 c]) ∧ Below w.heap.size w w' := by
  subst hc
  have HO := Lib.hid (fun W => valid_i s W hs)
  have HS := Lib.hid (fun W => enough_i a (s.size : Int) W (by omega) (by omega))
  cases h1 : bendB s
  · rw [h1] at HO
    rw [codeW_no h1]
    clear h1 h0
    go_enter Try.func63, Try.ntmps63
    go_wp2_with fail
    refine (HO.out _).mono ?_
    rintro e w1 ⟨rfl, hb1⟩
    have p0 : w1.cell? ⟨w.heap.size, 0, none⟩ = some (.string ⟨#[]⟩) := by rw [(bcell hb1).1 _ _ (by first | (simp; done) | (simp; omega))]; go_simp
    have q0 : w1.frozen? ⟨w.heap.size, 0, none⟩ = false := by rw [(bcell hb1).2 _ _ (by first | (simp; done) | (simp; omega))]; go_simp
    have p1 : w1.cell? ⟨w.heap.size, 1, none⟩ = some (.int .i64 0) := by rw [(bcell hb1).1 _ _ (by first | (simp; done) | (simp; omega))]; go_simp
    have q1 : w1.frozen? ⟨w.heap.size, 1, none⟩ = false := by rw [(bcell hb1).2 _ _ (by first | (simp; done) | (simp; omega))]; go_simp
    have g1 : Below w.heap.size w w1 := Below.trans (by go_grown) (hb1.mono (by first | (simp; done) | (simp; omega)))
    have z1 := hb1.size
    try simp at z1
    clear hb1
    go_wp2
    refine bodyPost_ret (v := .tuple #[.agg #[.string ⟨#[]⟩, .int .i64 0], .int .i64 7]) (by simp [results, Try.results63, go_sem, p0, p1, q0, q1]) rfl ?_
    exact ⟨rfl, Below.setCell (Below.setCell g1 (Nat.le_refl _) _) (Nat.le_refl _) _⟩
  · rw [h1] at HO
    cases h2 : inB a ((s.size : Int) + 2) 40
    · rw [h2] at HS
      rw [codeW_far h1 h2]
      clear h1 h2 h0
      go_enter Try.func63, Try.ntmps63
      go_wp2_with fail
      refine (HO.out _).mono ?_
      rintro e w1 ⟨rfl, hb1⟩
      have p0 : w1.cell? ⟨w.heap.size, 0, none⟩ = some (.string ⟨#[]⟩) := by rw [(bcell hb1).1 _ _ (by first | (simp; done) | (simp; omega))]; go_simp
      have q0 : w1.frozen? ⟨w.heap.size, 0, none⟩ = false := by rw [(bcell hb1).2 _ _ (by first | (simp; done) | (simp; omega))]; go_simp
      have p1 : w1.cell? ⟨w.heap.size, 1, none⟩ = some (.int .i64 0) := by rw [(bcell hb1).1 _ _ (by first | (simp; done) | (simp; omega))]; go_simp
      have q1 : w1.frozen? ⟨w.heap.size, 1, none⟩ = false := by rw [(bcell hb1).2 _ _ (by first | (simp; done) | (simp; omega))]; go_simp
      have g1 : Below w.heap.size w w1 := Below.trans (by go_grown) (hb1.mono (by first | (simp; done) | (simp; omega)))
      have z1 := hb1.size
      try simp at z1
      clear hb1
      go_wp2_with (go_at_call 72; refine (HS.out _).mono ?_; rintro e w' ⟨rfl, rfl⟩)
      refine bodyPost_ret (v := .tuple #[.agg #[.string ⟨#[]⟩, .int .i64 0], .int .i64 2]) (by simp [results, Try.results63, go_sem, p0, p1, q0, q1]) rfl ?_
      exact ⟨rfl, Below.setCell (Below.setCell g1 (Nat.le_refl _) _) (Nat.le_refl _) _⟩
    · exact absurd (codeW_yes h1 h2) h0

set_option maxHeartbeats 1000000 in
theorem newBorder_i (s : ByteArray) (a : Int) (w : World) (hc : codeW s a = 0) :
    Calls Try.prog 63 #[.string s, .int .i64 a] w fun e w' => e = .returned (.tuple #[.agg #[.string s, .int .i64 a], .int .i64 0]) ∧ Below w.heap.size w w' := by
  obtain ⟨h1, h2⟩ := codeW_0.1 hc
  have h8 := (bend_of h1).2.1
  have HO := Lib.hid (fun W => valid_i s W (by omega))
  have HS := Lib.hid (fun W => enough_i a (s.size : Int) W (by omega) (by omega))
  rw [h1] at HO
  rw [h2] at HS
  clear h1 h2 hc
  go_enter Try.func63, Try.ntmps63
  go_wp2_with fail
  refine (HO.out _).mono ?_
  rintro e w1 ⟨rfl, hb1⟩
  have p0 : w1.cell? ⟨w.heap.size, 0, none⟩ = some (.string ⟨#[]⟩) := by rw [(bcell hb1).1 _ _ (by first | (simp; done) | (simp; omega))]; go_simp
  have q0 : w1.frozen? ⟨w.heap.size, 0, none⟩ = false := by rw [(bcell hb1).2 _ _ (by first | (simp; done) | (simp; omega))]; go_simp
  have p1 : w1.cell? ⟨w.heap.size, 1, none⟩ = some (.int .i64 0) := by rw [(bcell hb1).1 _ _ (by first | (simp; done) | (simp; omega))]; go_simp
  have q1 : w1.frozen? ⟨w.heap.size, 1, none⟩ = false := by rw [(bcell hb1).2 _ _ (by first | (simp; done) | (simp; omega))]; go_simp
  have g1 : Below w.heap.size w w1 := Below.trans (by go_grown) (hb1.mono (by first | (simp; done) | (simp; omega)))
  have z1 := hb1.size
  try simp at z1
  clear hb1
  go_wp2_with (go_at_call 72; refine (HS.out _).mono ?_; rintro e w' ⟨rfl, rfl⟩)
  refine bodyPost_ret (v := .tuple #[.agg #[.string s, .int .i64 a], .int .i64 0]) (by simp [results, Try.results63, go_sem, p0, p1, q0, q1]) rfl ?_
  exact ⟨rfl, Below.setCell (Below.setCell g1 (Nat.le_refl _) _) (Nat.le_refl _) _⟩

set_option maxHeartbeats 1000000 in
theorem with_i_no (s : ByteArray) (a k c : Int) (w : World) (hs : s.size ≤ 1048576) (hc : codeK s a k = c) (h0 : c ≠ 0) :
    Calls Try.prog 57 #[.string s, .int .i64 a, .int .i64 k] w fun e w' => e = .returned (.tuple #[.agg #[.string ⟨#[]⟩, .int .i64 0], .int .i64 c]) ∧ Below w.heap.size w w' := by
  subst hc
  by_cases h1 : codeW s a = 0
  · have HO := Lib.hid (fun W => newBorder_i s a W h1)
    have HS := Lib.hid (fun W => in_i k 0 (a - 1) W)
    obtain ⟨g1, g2⟩ := codeW_0.1 h1
    have g3 := inB_of g2
    cases h2 : inB k 0 (a - 1)
    · rw [h2] at HS
      rw [codeK_far h1 h2]
      clear h1 h2 h0 g1 g2
      go_enter Try.func57, Try.ntmps57
      go_wp2_with fail
      refine (HO.out _).mono ?_
      rintro e w1 ⟨rfl, hb1⟩
      have p0 : w1.cell? ⟨w.heap.size, 0, none⟩ = some (.string ⟨#[]⟩) := by rw [(bcell hb1).1 _ _ (by first | (simp; done) | (simp; omega))]; go_simp
      have q0 : w1.frozen? ⟨w.heap.size, 0, none⟩ = false := by rw [(bcell hb1).2 _ _ (by first | (simp; done) | (simp; omega))]; go_simp
      have p1 : w1.cell? ⟨w.heap.size, 1, none⟩ = some (.int .i64 0) := by rw [(bcell hb1).1 _ _ (by first | (simp; done) | (simp; omega))]; go_simp
      have q1 : w1.frozen? ⟨w.heap.size, 1, none⟩ = false := by rw [(bcell hb1).2 _ _ (by first | (simp; done) | (simp; omega))]; go_simp
      have zlt : w.heap.size < w1.heap.size := by have := hb1.size; simp at this; omega
      have P0 : ∀ X, (w1.alloc X).cell? ⟨w.heap.size, 0, none⟩ = some (.string ⟨#[]⟩) := fun X => ((Below.refl w1.heap.size w1).alloc (Nat.le_refl _) X).cell (p := ⟨w.heap.size, 0, none⟩) zlt |>.trans p0
      have Q0 : ∀ X, (w1.alloc X).frozen? ⟨w.heap.size, 0, none⟩ = false := fun X => ((Below.refl w1.heap.size w1).alloc (Nat.le_refl _) X).frozen (p := ⟨w.heap.size, 0, none⟩) zlt |>.trans q0
      have P1 : ∀ X, (w1.alloc X).cell? ⟨w.heap.size, 1, none⟩ = some (.int .i64 0) := fun X => ((Below.refl w1.heap.size w1).alloc (Nat.le_refl _) X).cell (p := ⟨w.heap.size, 1, none⟩) zlt |>.trans p1
      have Q1 : ∀ X, (w1.alloc X).frozen? ⟨w.heap.size, 1, none⟩ = false := fun X => ((Below.refl w1.heap.size w1).alloc (Nat.le_refl _) X).frozen (p := ⟨w.heap.size, 1, none⟩) zlt |>.trans q1
      have g1 : Below w.heap.size w w1 := Below.trans (by go_grown) (hb1.mono (by first | (simp; done) | (simp; omega)))
      have z1 := hb1.size
      try simp at z1
      clear hb1
      go_wp2_with (go_at_call 52; refine (HS.out _).mono ?_; rintro e w' ⟨rfl, rfl⟩)
      refine bodyPost_ret (v := .tuple #[.agg #[.string ⟨#[]⟩, .int .i64 0], .int .i64 2]) (by simp [results, Try.results57, go_sem, p0, p1, q0, q1, zlt]) rfl ?_
      exact ⟨rfl, Below.alloc (Below.setCell (Below.setCell g1 (Nat.le_refl _) _) (Nat.le_refl _) _) (by first | (simp; done) | (simp; omega)) _⟩
    · exact absurd (codeK_0.2 ⟨h1, h2⟩) h0
  · rw [codeK_no h1]
    have HO := Lib.hid (fun W => newBorder_i_no s a _ W hs rfl h1)
    have hd1 : (codeW s a != 0) = true := by simp [h1]
    have hd2 : (codeW s a == 0) = false := by simp [h1]
    generalize codeW s a = c at *
    clear h0
    go_enter Try.func57, Try.ntmps57
    go_wp2_with fail
    refine (HO.out _).mono ?_
    rintro e w1 ⟨rfl, hb1⟩
    have p0 : w1.cell? ⟨w.heap.size, 0, none⟩ = some (.string ⟨#[]⟩) := by rw [(bcell hb1).1 _ _ (by first | (simp; done) | (simp; omega))]; go_simp
    have q0 : w1.frozen? ⟨w.heap.size, 0, none⟩ = false := by rw [(bcell hb1).2 _ _ (by first | (simp; done) | (simp; omega))]; go_simp
    have p1 : w1.cell? ⟨w.heap.size, 1, none⟩ = some (.int .i64 0) := by rw [(bcell hb1).1 _ _ (by first | (simp; done) | (simp; omega))]; go_simp
    have q1 : w1.frozen? ⟨w.heap.size, 1, none⟩ = false := by rw [(bcell hb1).2 _ _ (by first | (simp; done) | (simp; omega))]; go_simp
    have zlt : w.heap.size < w1.heap.size := by have := hb1.size; simp at this; omega
    have P0 : ∀ X, (w1.alloc X).cell? ⟨w.heap.size, 0, none⟩ = some (.string ⟨#[]⟩) := fun X => ((Below.refl w1.heap.size w1).alloc (Nat.le_refl _) X).cell (p := ⟨w.heap.size, 0, none⟩) zlt |>.trans p0
    have Q0 : ∀ X, (w1.alloc X).frozen? ⟨w.heap.size, 0, none⟩ = false := fun X => ((Below.refl w1.heap.size w1).alloc (Nat.le_refl _) X).frozen (p := ⟨w.heap.size, 0, none⟩) zlt |>.trans q0
    have P1 : ∀ X, (w1.alloc X).cell? ⟨w.heap.size, 1, none⟩ = some (.int .i64 0) := fun X => ((Below.refl w1.heap.size w1).alloc (Nat.le_refl _) X).cell (p := ⟨w.heap.size, 1, none⟩) zlt |>.trans p1
    have Q1 : ∀ X, (w1.alloc X).frozen? ⟨w.heap.size, 1, none⟩ = false := fun X => ((Below.refl w1.heap.size w1).alloc (Nat.le_refl _) X).frozen (p := ⟨w.heap.size, 1, none⟩) zlt |>.trans q1
    have g1 : Below w.heap.size w w1 := Below.trans (by go_grown) (hb1.mono (by first | (simp; done) | (simp; omega)))
    have z1 := hb1.size
    try simp at z1
    clear hb1
    go_wp2
    refine bodyPost_ret (v := .tuple #[.agg #[.string ⟨#[]⟩, .int .i64 0], .int .i64 c]) (by simp [results, Try.results57, go_sem, p0, p1, q0, q1, zlt]) rfl ?_
    exact ⟨rfl, Below.alloc (Below.setCell (Below.setCell g1 (Nat.le_refl _) _) (Nat.le_refl _) _) (by first | (simp; done) | (simp; omega)) _⟩

set_option maxHeartbeats 1000000 in
theorem with_i (s : ByteArray) (a k : Int) (w : World) (hc : codeK s a k = 0) :
    Calls Try.prog 57 #[.string s, .int .i64 a, .int .i64 k] w fun e w' => e = .returned (.tuple #[.agg #[.string s, .int .i64 a], .int .i64 0]) ∧ Below w.heap.size w w' := by
  obtain ⟨h1, h2⟩ := codeK_0.1 hc
  have HO := Lib.hid (fun W => newBorder_i s a W h1)
  have HS := Lib.hid (fun W => in_i k 0 (a - 1) W)
  obtain ⟨g1, g2⟩ := codeW_0.1 h1
  have g3 := inB_of g2
  rw [h2] at HS
  clear h1 h2 hc g1 g2
  go_enter Try.func57, Try.ntmps57
  go_wp2_with fail
  refine (HO.out _).mono ?_
  rintro e w1 ⟨rfl, hb1⟩
  have p0 : w1.cell? ⟨w.heap.size, 0, none⟩ = some (.string ⟨#[]⟩) := by rw [(bcell hb1).1 _ _ (by first | (simp; done) | (simp; omega))]; go_simp
  have q0 : w1.frozen? ⟨w.heap.size, 0, none⟩ = false := by rw [(bcell hb1).2 _ _ (by first | (simp; done) | (simp; omega))]; go_simp
  have p1 : w1.cell? ⟨w.heap.size, 1, none⟩ = some (.int .i64 0) := by rw [(bcell hb1).1 _ _ (by first | (simp; done) | (simp; omega))]; go_simp
  have q1 : w1.frozen? ⟨w.heap.size, 1, none⟩ = false := by rw [(bcell hb1).2 _ _ (by first | (simp; done) | (simp; omega))]; go_simp
  have zlt : w.heap.size < w1.heap.size := by have := hb1.size; simp at this; omega
  have P0 : ∀ X, (w1.alloc X).cell? ⟨w.heap.size, 0, none⟩ = some (.string ⟨#[]⟩) := fun X => ((Below.refl w1.heap.size w1).alloc (Nat.le_refl _) X).cell (p := ⟨w.heap.size, 0, none⟩) zlt |>.trans p0
  have Q0 : ∀ X, (w1.alloc X).frozen? ⟨w.heap.size, 0, none⟩ = false := fun X => ((Below.refl w1.heap.size w1).alloc (Nat.le_refl _) X).frozen (p := ⟨w.heap.size, 0, none⟩) zlt |>.trans q0
  have P1 : ∀ X, (w1.alloc X).cell? ⟨w.heap.size, 1, none⟩ = some (.int .i64 0) := fun X => ((Below.refl w1.heap.size w1).alloc (Nat.le_refl _) X).cell (p := ⟨w.heap.size, 1, none⟩) zlt |>.trans p1
  have Q1 : ∀ X, (w1.alloc X).frozen? ⟨w.heap.size, 1, none⟩ = false := fun X => ((Below.refl w1.heap.size w1).alloc (Nat.le_refl _) X).frozen (p := ⟨w.heap.size, 1, none⟩) zlt |>.trans q1
  have g1 : Below w.heap.size w w1 := Below.trans (by go_grown) (hb1.mono (by first | (simp; done) | (simp; omega)))
  have z1 := hb1.size
  try simp at z1
  clear hb1
  go_wp2_with (go_at_call 52; refine (HS.out _).mono ?_; rintro e w' ⟨rfl, rfl⟩)
  refine bodyPost_ret (v := .tuple #[.agg #[.string s, .int .i64 a], .int .i64 0]) (by simp [results, Try.results57, go_sem, p0, p1, q0, q1, zlt]) rfl ?_
  exact ⟨rfl, Below.alloc (Below.setCell (Below.setCell g1 (Nat.le_refl _) _) (Nat.le_refl _) _) (by first | (simp; done) | (simp; omega)) _⟩

set_option maxHeartbeats 1000000 in
theorem letters_i (s : ByteArray) (a : Int) (w : World) (h8 : s.size ≤ 8) :
    Calls Try.prog 59 #[.agg #[.string s, .int .i64 a]] w fun e w' => e = .returned (.int .i64 (s.size : Int)) ∧ Below w.heap.size w w' := by
  go_enter Try.func59, Try.ntmps59
  go_wp2
  go_ret
  exact ⟨rfl, by go_grown⟩

set_option maxHeartbeats 1000000 in
theorem moved_i (s : ByteArray) (st k x : Nat) (b : Int) (w : World) (hst : st ≤ 40) (hk : k < st) (hx : (k : Int) + b + (st : Int) = (x : Int)) (b0 : -8 ≤ b) (b1 : b ≤ 10) :
    Calls Try.prog 58 #[.agg #[.string s, .int .i64 (st : Int)], .int .i64 (k : Int), .int .i64 b] w fun e w' => e = .returned (.int .i64 ((x % st : Nat) : Int)) ∧ Below w.heap.size w w' := by
  obtain ⟨hm1, hm2⟩ := mod_at (a := x) (st := st) (x := (k : Int) + b + (st : Int)) hx
  have hq := Nat.mod_lt x (show 0 < st by omega)
  have hst0 : ((st : Int) == 0) = false := beq_false_of_ne (by omega)
  generalize x % st = q at *
  clear hx
  go_enter Try.func58, Try.ntmps58
  go_wp2
  go_ret
  exact ⟨rfl, by go_grown⟩

set_option maxHeartbeats 2000000 in
theorem passed_up (s : ByteArray) (st k : Nat) (w : World) (hs : bendB s = true) (hk : k < st) (hst : st ≤ 40) (h2 : s.size + 2 ≤ st) :
    Calls Try.prog 87 #[.agg #[.string s, .int .i64 (st : Int)], .int .i64 (k : Int), .int .i64 (1)] w (NewL w (ovL s st k s.size)) := by
  obtain ⟨i0, hi0, hz0, hz1, hz2⟩ := info_parts info_num
  obtain ⟨h0, h8, hbf⟩ := bend_of hs
  have HBF := Lib.hid hbf
  clear hbf hs
  go_enter Try.func87, Try.ntmps87
  go_wp2_with fail
  go_loopw [7] (fun v wr => ∃ i : Nat, i ≤ s.size ∧ Hid (ItAt w wr (w.heap.size + 1) s i) ∧ Hid (wr.cell? ⟨w.heap.size, 0, none⟩ = some (.string s) ∧ wr.cell? ⟨w.heap.size, 1, none⟩ = some (.int .i64 (st : Int))) ∧ Hid (wr.ownsRow (w.heap.size + 2) 2 1 v (ovL s st k i).length ((ovL s st k i).map (Value.int .i64)))) (fun _ wr => s.size - itPos wr (w.heap.size + 1))
  case atStart => exact ⟨0, by omega, Lib.hid (by have := ItAt.start w (w.alloc (Obj.cells #[Value.string s, Value.int IntKind.i64 (st : Int)] 62)) s (by go_grown); simpa using this), Lib.hid ⟨by unfold World.iter; go_simp, by unfold World.iter; go_simp⟩, Lib.hid (owns_nil _ _ _)⟩
  case round =>
    obtain ⟨i, hi, HI, HC, HO⟩ := hrel
    have HP := Lib.hid HI.out.pos
    by_cases hlt : i < s.size
    · have hi0' : (0 : Int) ≤ (i : Int) := by omega
      have hasc : (s[i]'hlt).toNat < 128 := by have := HBF.out i hlt; rw [byteAt_eq hlt] at this; omega
      have hnx : ∀ ty, (Instr.next (.pointer (some ⟨w.heap.size + 1, 0, none⟩)) true ty).run Try.prog wr = _ := fun ty => Lib.run_next_ascii_at wr _ s i ty HI.out.at_ hlt hasc
      have HI2 := Lib.hid (HI.out.next (pos' := i + 1) (by omega))
      have HO2 := Lib.hid (owns_iterAt HO.out HI.out.at_ (i + 1))
      have p0 : (wr.iterAt (w.heap.size + 1) s (i + 1)).cell? ⟨w.heap.size, 0, none⟩ = some (.string s) := (cell_iterAt (by omega)).trans HC.out.1
      have p1 : (wr.iterAt (w.heap.size + 1) s (i + 1)).cell? ⟨w.heap.size, 1, none⟩ = some (.int .i64 (st : Int)) := (cell_iterAt (by omega)).trans HC.out.2
      clear HO HC HI
      generalize wr.iterAt (w.heap.size + 1) s (i + 1) = W at *
      cases hb : isB s i
      · have HN := Lib.hid (ovL_no (st := st) (k := k) hb)
        have e1 : (((s[i]'hlt).toNat : Int) == 98) = false := by unfold isB at hb; rw [byteAt_eq hlt] at hb; simpa using hb
        have e2 : (((s[i]'hlt).toNat : Int) != 98) = true := by rw [bne, e1]; rfl
        clear hb
        go_wp2
        go_roundw
        case rel => exact ⟨i + 1, by omega, HI2, Lib.hid ⟨p0, p1⟩, by rw [HN.out]; exact HO2⟩
        case measure => rw [HI2.out.pos, HP.out]; omega
      · have HN := Lib.hid (ovL_yes (st := st) (k := k) hb)
        have e1 : (((s[i]'hlt).toNat : Int) == 98) = true := by unfold isB at hb; rw [byteAt_eq hlt] at hb; simpa using hb
        have e2 : (((s[i]'hlt).toNat : Int) != 98) = false := by rw [bne, e1]; rfl
        clear hb
        have hlen : (ovL s st k i).length ≤ i := by rw [ovL_len]; exact cntB_le s i
        have hl1 : (ovL s st k i).length + 1 ≤ maxLen := by unfold maxLen; omega
        have hl2 : ((ovL s st k i).length + 1) * 8 ≤ 140737488355328 := by omega
        have HM := Lib.hid (fun W' => moved_i s st k (k + i + 1 + st) ((i : Int) + 1) W' hst hk (by omega) (by omega) (by omega))
        have hm2 : (k + i + 1 + st) % st = (k + i + 1) % st := Nat.add_mod_right _ _
        rw [hm2] at HM
        have hq := Nat.mod_lt ((k + i + 1)) (show 0 < st by omega)
        have hw1 : (-1 : Int) * ((i : Int) + 1) = -((i : Int) + 1) := by omega
        have hw2 : (1 : Int) * ((i : Int) + 1) = ((i : Int) + 1) := by omega
        generalize (k + i + 1) % st = q at *
        generalize ovL s st k i = l at *
        have zW := HI2.out.lt
        clear hm2
        have zlt : w.heap.size < W.heap.size := by omega
        go_wp2_with fail
        refine (HM.out _).mono ?_
        rintro e w1 ⟨rfl, hb1⟩
        have HI3 := Lib.hid (HI2.out.later hb1)
        have HO3 := Lib.hid (owns_belowL HO2.out hb1 (Nat.le_refl _))
        have HC3 := Lib.hid (show w1.cell? ⟨w.heap.size, 0, none⟩ = some (.string s) ∧ w1.cell? ⟨w.heap.size, 1, none⟩ = some (.int .i64 (st : Int)) from ⟨((bcell hb1).1 _ _ zlt).trans p0, ((bcell hb1).1 _ _ zlt).trans p1⟩)
        have z1 := hb1.size
        clear hb1 p0 p1 HM
        go_wp2_with (at_builtin; refine wpList_append_own _ rfl _ _ 26 rfl (w.heap.size + 2) 2 i0 (.int .i64 0) 1 8 Try.underlying26 hi0 hz0 hz1 hz2 rfl (by decide) _ _ _ rfl (HO3.out.alloc _) ⟨w1.heap.size, 0, none⟩ 1 1 [.int .i64 (q : Int)] rfl rfl ?c1 ?c2 hl1 hl2 ?c5 ?_)
        case c1 => intro j u hj; rcases j with _ | j <;> simp at hj; subst hj; go_simp
        case c2 => intro u hu; simp at hu; subst hu; rfl
        case c5 => simp <;> omega
        intro v' w2 hown2 hgrow2 _
        have hb2 : Below (w.heap.size + 2) w1 w2 := Below.grown ((Below.refl _ _).alloc (by omega) _) hgrow2 (by simp; omega) (owns_block HO3.out)
        have HI4 := Lib.hid (HI3.out.later2 hb2 (by omega))
        have HO4 := Lib.hid (owns_snoc hown2)
        have HC4 := Lib.hid (show w2.cell? ⟨w.heap.size, 0, none⟩ = some (.string s) ∧ w2.cell? ⟨w.heap.size, 1, none⟩ = some (.int .i64 (st : Int)) from ⟨(hb2.cell (p := ⟨w.heap.size, 0, none⟩) (show w.heap.size < w.heap.size + 2 by omega)).trans HC3.out.1, (hb2.cell (p := ⟨w.heap.size, 1, none⟩) (show w.heap.size < w.heap.size + 2 by omega)).trans HC3.out.2⟩)
        clear hown2 hgrow2 hb2
        go_wp2
        go_roundw
        case rel => exact ⟨i + 1, by omega, HI4, HC4, by rw [HN.out]; exact HO4⟩
        case measure => rw [HI4.out.pos, HP.out]; omega
    · have hnx : ∀ ty, (Instr.next (.pointer (some ⟨w.heap.size + 1, 0, none⟩)) true ty).run Try.prog wr = _ := fun ty => Lib.run_next_end_at wr _ s i ty HI.out.at_ hlt
      obtain rfl : i = s.size := by omega
      go_wp2
      go_ret
      exact newL_of (owns_lower HO.out (by omega)) HI.out.below

set_option maxHeartbeats 2000000 in
theorem passed_down (s : ByteArray) (st k : Nat) (w : World) (hs : bendB s = true) (hk : k < st) (hst : st ≤ 40) (h2 : s.size + 2 ≤ st) :
    Calls Try.prog 87 #[.agg #[.string s, .int .i64 (st : Int)], .int .i64 (k : Int), .int .i64 (-1)] w (NewL w (unL s st k s.size)) := by
  obtain ⟨i0, hi0, hz0, hz1, hz2⟩ := info_parts info_num
  obtain ⟨h0, h8, hbf⟩ := bend_of hs
  have HBF := Lib.hid hbf
  clear hbf hs
  go_enter Try.func87, Try.ntmps87
  go_wp2_with fail
  go_loopw [7] (fun v wr => ∃ i : Nat, i ≤ s.size ∧ Hid (ItAt w wr (w.heap.size + 1) s i) ∧ Hid (wr.cell? ⟨w.heap.size, 0, none⟩ = some (.string s) ∧ wr.cell? ⟨w.heap.size, 1, none⟩ = some (.int .i64 (st : Int))) ∧ Hid (wr.ownsRow (w.heap.size + 2) 2 1 v (unL s st k i).length ((unL s st k i).map (Value.int .i64)))) (fun _ wr => s.size - itPos wr (w.heap.size + 1))
  case atStart => exact ⟨0, by omega, Lib.hid (by have := ItAt.start w (w.alloc (Obj.cells #[Value.string s, Value.int IntKind.i64 (st : Int)] 62)) s (by go_grown); simpa using this), Lib.hid ⟨by unfold World.iter; go_simp, by unfold World.iter; go_simp⟩, Lib.hid (owns_nil _ _ _)⟩
  case round =>
    obtain ⟨i, hi, HI, HC, HO⟩ := hrel
    have HP := Lib.hid HI.out.pos
    by_cases hlt : i < s.size
    · have hi0' : (0 : Int) ≤ (i : Int) := by omega
      have hasc : (s[i]'hlt).toNat < 128 := by have := HBF.out i hlt; rw [byteAt_eq hlt] at this; omega
      have hnx : ∀ ty, (Instr.next (.pointer (some ⟨w.heap.size + 1, 0, none⟩)) true ty).run Try.prog wr = _ := fun ty => Lib.run_next_ascii_at wr _ s i ty HI.out.at_ hlt hasc
      have HI2 := Lib.hid (HI.out.next (pos' := i + 1) (by omega))
      have HO2 := Lib.hid (owns_iterAt HO.out HI.out.at_ (i + 1))
      have p0 : (wr.iterAt (w.heap.size + 1) s (i + 1)).cell? ⟨w.heap.size, 0, none⟩ = some (.string s) := (cell_iterAt (by omega)).trans HC.out.1
      have p1 : (wr.iterAt (w.heap.size + 1) s (i + 1)).cell? ⟨w.heap.size, 1, none⟩ = some (.int .i64 (st : Int)) := (cell_iterAt (by omega)).trans HC.out.2
      clear HO HC HI
      generalize wr.iterAt (w.heap.size + 1) s (i + 1) = W at *
      cases hb : isB s i
      · have HN := Lib.hid (unL_no (st := st) (k := k) hb)
        have e1 : (((s[i]'hlt).toNat : Int) == 98) = false := by unfold isB at hb; rw [byteAt_eq hlt] at hb; simpa using hb
        have e2 : (((s[i]'hlt).toNat : Int) != 98) = true := by rw [bne, e1]; rfl
        clear hb
        go_wp2
        go_roundw
        case rel => exact ⟨i + 1, by omega, HI2, Lib.hid ⟨p0, p1⟩, by rw [HN.out]; exact HO2⟩
        case measure => rw [HI2.out.pos, HP.out]; omega
      · have HN := Lib.hid (unL_yes (st := st) (k := k) hb)
        have e1 : (((s[i]'hlt).toNat : Int) == 98) = true := by unfold isB at hb; rw [byteAt_eq hlt] at hb; simpa using hb
        have e2 : (((s[i]'hlt).toNat : Int) != 98) = false := by rw [bne, e1]; rfl
        clear hb
        have hlen : (unL s st k i).length ≤ i := by rw [unL_len]; exact cntB_le s i
        have hl1 : (unL s st k i).length + 1 ≤ maxLen := by unfold maxLen; omega
        have hl2 : ((unL s st k i).length + 1) * 8 ≤ 140737488355328 := by omega
        have HM := Lib.hid (fun W' => moved_i s st k (k + st - (i + 1)) (-((i : Int) + 1)) W' hst hk (by omega) (by omega) (by omega))
        have hm2 : (k + st - (i + 1)) % st = (k + st - (i + 1)) % st := rfl
        rw [hm2] at HM
        have hq := Nat.mod_lt ((k + st - (i + 1))) (show 0 < st by omega)
        have hw1 : (-1 : Int) * ((i : Int) + 1) = -((i : Int) + 1) := by omega
        have hw2 : (1 : Int) * ((i : Int) + 1) = ((i : Int) + 1) := by omega
        generalize (k + st - (i + 1)) % st = q at *
        generalize unL s st k i = l at *
        have zW := HI2.out.lt
        clear hm2
        have zlt : w.heap.size < W.heap.size := by omega
        go_wp2_with fail
        refine (HM.out _).mono ?_
        rintro e w1 ⟨rfl, hb1⟩
        have HI3 := Lib.hid (HI2.out.later hb1)
        have HO3 := Lib.hid (owns_belowL HO2.out hb1 (Nat.le_refl _))
        have HC3 := Lib.hid (show w1.cell? ⟨w.heap.size, 0, none⟩ = some (.string s) ∧ w1.cell? ⟨w.heap.size, 1, none⟩ = some (.int .i64 (st : Int)) from ⟨((bcell hb1).1 _ _ zlt).trans p0, ((bcell hb1).1 _ _ zlt).trans p1⟩)
        have z1 := hb1.size
        clear hb1 p0 p1 HM
        go_wp2_with (at_builtin; refine wpList_append_own _ rfl _ _ 26 rfl (w.heap.size + 2) 2 i0 (.int .i64 0) 1 8 Try.underlying26 hi0 hz0 hz1 hz2 rfl (by decide) _ _ _ rfl (HO3.out.alloc _) ⟨w1.heap.size, 0, none⟩ 1 1 [.int .i64 (q : Int)] rfl rfl ?c1 ?c2 hl1 hl2 ?c5 ?_)
        case c1 => intro j u hj; rcases j with _ | j <;> simp at hj; subst hj; go_simp
        case c2 => intro u hu; simp at hu; subst hu; rfl
        case c5 => simp <;> omega
        intro v' w2 hown2 hgrow2 _
        have hb2 : Below (w.heap.size + 2) w1 w2 := Below.grown ((Below.refl _ _).alloc (by omega) _) hgrow2 (by simp; omega) (owns_block HO3.out)
        have HI4 := Lib.hid (HI3.out.later2 hb2 (by omega))
        have HO4 := Lib.hid (owns_snoc hown2)
        have HC4 := Lib.hid (show w2.cell? ⟨w.heap.size, 0, none⟩ = some (.string s) ∧ w2.cell? ⟨w.heap.size, 1, none⟩ = some (.int .i64 (st : Int)) from ⟨(hb2.cell (p := ⟨w.heap.size, 0, none⟩) (show w.heap.size < w.heap.size + 2 by omega)).trans HC3.out.1, (hb2.cell (p := ⟨w.heap.size, 1, none⟩) (show w.heap.size < w.heap.size + 2 by omega)).trans HC3.out.2⟩)
        clear hown2 hgrow2 hb2
        go_wp2
        go_roundw
        case rel => exact ⟨i + 1, by omega, HI4, HC4, by rw [HN.out]; exact HO4⟩
        case measure => rw [HI4.out.pos, HP.out]; omega
    · have hnx : ∀ ty, (Instr.next (.pointer (some ⟨w.heap.size + 1, 0, none⟩)) true ty).run Try.prog wr = _ := fun ty => Lib.run_next_end_at wr _ s i ty HI.out.at_ hlt
      obtain rfl : i = s.size := by omega
      go_wp2
      go_ret
      exact newL_of (owns_lower HO.out (by omega)) HI.out.below

set_option maxHeartbeats 1000000 in
theorem over_i (s : ByteArray) (st k : Nat) (w : World) (hs : bendB s = true) (hk : k < st) (hst : st ≤ 40) (h2 : s.size + 2 ≤ st) :
    Calls Try.prog 61 #[.agg #[.string s, .int .i64 (st : Int)], .int .i64 (k : Int)] w (NewL w (ovL s st k s.size)) := by
  have HP := Lib.hid (fun W => passed_up s st k W hs hk hst h2)
  clear hs
  go_enter Try.func61, Try.ntmps61
  go_wp2_with fail
  refine (HP.out _).mono ?_
  rintro e w1 ⟨A, c, rfl, k1, k2, hrow, hb1⟩
  have HR := Lib.hid (hrow.wide (lo' := w.heap.size) (by simp) (Nat.le_refl _))
  have g1 : Below w.heap.size w w1 := Below.trans (by go_grown) (hb1.mono (by first | (simp; done) | (simp; omega)))
  clear hrow hb1
  go_wp2
  go_ret
  exact ⟨A, c, rfl, k1, k2, HR.out, g1⟩

set_option maxHeartbeats 1000000 in
theorem under_i (s : ByteArray) (st k : Nat) (w : World) (hs : bendB s = true) (hk : k < st) (hst : st ≤ 40) (h2 : s.size + 2 ≤ st) :
    Calls Try.prog 93 #[.agg #[.string s, .int .i64 (st : Int)], .int .i64 (k : Int)] w (NewL w (unL s st k s.size)) := by
  have HP := Lib.hid (fun W => passed_down s st k W hs hk hst h2)
  clear hs
  go_enter Try.func93, Try.ntmps93
  go_wp2_with fail
  refine (HP.out _).mono ?_
  rintro e w1 ⟨A, c, rfl, k1, k2, hrow, hb1⟩
  have HR := Lib.hid (hrow.wide (lo' := w.heap.size) (by simp) (Nat.le_refl _))
  have g1 : Below w.heap.size w w1 := Below.trans (by go_grown) (hb1.mono (by first | (simp; done) | (simp; omega)))
  clear hrow hb1
  go_wp2
  go_ret
  exact ⟨A, c, rfl, k1, k2, HR.out, g1⟩


/-- a word, a number of stakes and a stake as the program takes them -/
theorem stakes_nat {s : ByteArray} {a k : Int} (h : codeK s a k = 0) : bendB s = true ∧ ∃ st kk : Nat, a = (st : Int) ∧ k = (kk : Int) ∧ kk < st ∧ st ≤ 40 ∧ s.size + 2 ≤ st := by
  obtain ⟨h1, h2⟩ := codeK_0.1 h
  obtain ⟨h3, h4⟩ := codeW_0.1 h1
  have g1 := inB_of h4
  have g2 := inB_of h2
  exact ⟨h3, a.toNat, k.toNat, by omega, by omega, by omega, by omega, by omega⟩
theorem stakesW_nat {s : ByteArray} {a : Int} (h : codeW s a = 0) : bendB s = true ∧ ∃ st : Nat, a = (st : Int) ∧ st ≤ 40 ∧ s.size + 2 ≤ st := by
  obtain ⟨h3, h4⟩ := codeW_0.1 h
  have g1 := inB_of h4
  exact ⟨h3, a.toNat, by omega, by omega, by omega⟩
set_option maxHeartbeats 1000000 in
theorem end_s_no (s : ByteArray) (a k c : Int) (w : World) (hs : s.size ≤ 1048576) (hc : codeK s a k = c) (h0 : c ≠ 0) :
    Calls Try.prog 17 #[.string s, .int .i64 a, .int .i64 k] w fun e w' => e = .returned (.tuple #[.int .i64 0, .int .i64 c]) ∧ Below w.heap.size w w' := by
  subst hc
  have HO := Lib.hid (fun W => code_s s a W hs)
  by_cases h1 : codeW s a = 0
  · have g3 := inB_of (codeW_0.1 h1).2
    have HS := Lib.hid (fun W => in_s k 0 (a - 1) W)
    cases h2 : inB k 0 (a - 1)
    · rw [h2] at HS
      rw [h1] at HO
      rw [codeK_far h1 h2]
      clear h1 h2 h0
      go_enter Try.func17, Try.ntmps17
      go_wp2_with (first | (go_at_call 55; refine (HO.out _).mono ?_; rintro e w' ⟨rfl, rfl⟩) | (go_at_call 56; refine (HS.out _).mono ?_; rintro e w' ⟨rfl, rfl⟩))
      go_returns
      exact ⟨rfl, Below.refl _ _⟩
    · exact absurd (codeK_0.2 ⟨h1, h2⟩) h0
  · rw [codeK_no h1]
    have hd1 : (codeW s a != 0) = true := by simp [h1]
    have hd2 : (codeW s a == 0) = false := by simp [h1]
    generalize codeW s a = c at *
    clear h0
    go_enter Try.func17, Try.ntmps17
    go_wp2_with (go_at_call 55; refine (HO.out _).mono ?_; rintro e w' ⟨rfl, rfl⟩)
    go_returns
    exact ⟨rfl, Below.refl _ _⟩

set_option maxHeartbeats 1000000 in
theorem end_s (s : ByteArray) (st k : Nat) (w : World) (hs : bendB s = true) (hk : k < st) (hst : st ≤ 40) (h2 : s.size + 2 ≤ st) :
    Calls Try.prog 17 #[.string s, .int .i64 (st : Int), .int .i64 (k : Int)] w fun e w' => e = .returned (.tuple #[.int .i64 ((k + s.size + 1) % st : Nat), .int .i64 0]) ∧ Below w.heap.size w w' := by
  have h8 := (bend_of hs).2.1
  have HO := Lib.hid (fun W => code_s s (st : Int) W (by omega))
  have HS := Lib.hid (fun W => in_s (k : Int) 0 ((st : Int) - 1) W)
  rw [codeW_yes hs (inB_yes (by omega) (by omega))] at HO
  rw [inB_yes (by omega) (by omega)] at HS
  clear hs
  obtain ⟨hm1, hm2⟩ := mod_at (a := k + s.size + 1) (st := st) (x := (k : Int) + (s.size : Int) + 1) (by omega)
  have hq := Nat.mod_lt (k + s.size + 1) (show 0 < st by omega)
  have hst0 : ((st : Int) == 0) = false := beq_false_of_ne (by omega)
  generalize (k + s.size + 1) % st = q at *
  go_enter Try.func17, Try.ntmps17
  go_wp2_with (first | (go_at_call 55; refine (HO.out _).mono ?_; rintro e w' ⟨rfl, rfl⟩) | (go_at_call 56; refine (HS.out _).mono ?_; rintro e w' ⟨rfl, rfl⟩))
  go_returns
  exact ⟨rfl, Below.refl _ _⟩

set_option maxHeartbeats 1000000 in
theorem cov_s_no (s : ByteArray) (a k c : Int) (w : World) (hs : s.size ≤ 1048576) (hc : codeK s a k = c) (h0 : c ≠ 0) :
    Calls Try.prog 19 #[.string s, .int .i64 a, .int .i64 k] w (NumsCode w 2 [] c) := by
  subst hc
  have HO := Lib.hid (fun W => code_s s a W hs)
  by_cases h1 : codeW s a = 0
  · have g3 := inB_of (codeW_0.1 h1).2
    have HS := Lib.hid (fun W => in_s k 0 (a - 1) W)
    cases h2 : inB k 0 (a - 1)
    · rw [h2] at HS
      rw [h1] at HO
      rw [codeK_far h1 h2]
      clear h1 h2 h0
      go_enter Try.func19, Try.ntmps19
      go_wp2_with (first | (go_at_call 55; refine (HO.out _).mono ?_; rintro e w' ⟨rfl, rfl⟩) | (go_at_call 56; refine (HS.out _).mono ?_; rintro e w' ⟨rfl, rfl⟩))
      go_returns
      exact ⟨none, 0, rfl, Nat.le_refl _, by unfold maxLen; omega, Row.none_, Below.refl _ _⟩
    · exact absurd (codeK_0.2 ⟨h1, h2⟩) h0
  · rw [codeK_no h1]
    have hd1 : (codeW s a != 0) = true := by simp [h1]
    have hd2 : (codeW s a == 0) = false := by simp [h1]
    generalize codeW s a = c at *
    clear h0
    go_enter Try.func19, Try.ntmps19
    go_wp2_with (go_at_call 55; refine (HO.out _).mono ?_; rintro e w' ⟨rfl, rfl⟩)
    go_returns
    exact ⟨none, 0, rfl, Nat.le_refl _, by unfold maxLen; omega, Row.none_, Below.refl _ _⟩

set_option maxHeartbeats 1000000 in
theorem cov_s (s : ByteArray) (st k : Nat) (w : World) (hs : bendB s = true) (hk : k < st) (hst : st ≤ 40) (h2 : s.size + 2 ≤ st) :
    Calls Try.prog 19 #[.string s, .int .i64 (st : Int), .int .i64 (k : Int)] w (NumsCode w 2 (ovL s st k s.size) 0) := by
  have h8 := (bend_of hs).2.1
  have HO := Lib.hid (fun W => code_s s (st : Int) W (by omega))
  have HS := Lib.hid (fun W => in_s (k : Int) 0 ((st : Int) - 1) W)
  rw [codeW_yes hs (inB_yes (by omega) (by omega))] at HO
  rw [inB_yes (by omega) (by omega)] at HS
  clear hs
  go_enter Try.func19, Try.ntmps19
  go_wp2_with (first | (go_at_call 55; refine (HO.out _).mono ?_; rintro e w' ⟨rfl, rfl⟩) | (go_at_call 56; refine (HS.out _).mono ?_; rintro e w' ⟨rfl, rfl⟩))
  refine (covers_s s st k _ h8 hk hst).mono ?_
  rintro e w1 ⟨A, c, rfl, k1, k2, hrow, hb1⟩
  have HR := Lib.hid hrow
  clear hrow
  go_wp2
  go_returns
  exact ⟨A, c, rfl, k1, k2, HR.out, hb1⟩

set_option maxHeartbeats 1000000 in
theorem end_i_no (s : ByteArray) (a k c : Int) (w : World) (hs : s.size ≤ 1048576) (hc : codeK s a k = c) (h0 : c ≠ 0) :
    Calls Try.prog 18 #[.string s, .int .i64 a, .int .i64 k] w fun e w' => e = .returned (.tuple #[.int .i64 0, .int .i64 c]) ∧ Below w.heap.size w w' := by
  have HO := Lib.hid (fun W => with_i_no s a k c W hs hc h0)
  have hd1 : (c != 0) = true := by simp [h0]
  have hd2 : (c == 0) = false := by simp [h0]
  clear hc h0
  go_enter Try.func18, Try.ntmps18
  go_wp2_with fail
  refine (HO.out _).mono ?_
  rintro e w1 ⟨rfl, hb1⟩
  have g1 : Below w.heap.size w w1 := Below.trans (by go_grown) (hb1.mono (by first | (simp; done) | (simp; omega)))
  have z1 := g1.size
  clear hb1
  go_wp2
  go_returns
  exact ⟨rfl, by first | exact g1 | exact g1.alloc z1 _⟩

set_option maxHeartbeats 1000000 in
theorem end_i (s : ByteArray) (st k : Nat) (w : World) (hs : bendB s = true) (hk : k < st) (hst : st ≤ 40) (h2 : s.size + 2 ≤ st) :
    Calls Try.prog 18 #[.string s, .int .i64 (st : Int), .int .i64 (k : Int)] w fun e w' => e = .returned (.tuple #[.int .i64 ((k + s.size + 1) % st : Nat), .int .i64 0]) ∧ Below w.heap.size w w' := by
  have h8 := (bend_of hs).2.1
  have HM := Lib.hid (fun W => moved_i s st k (k + s.size + 1 + st) ((s.size : Int) + 1) W hst hk (by omega) (by omega) (by omega))
  rw [Nat.add_mod_right] at HM
  have HL := Lib.hid (fun W => letters_i s (st : Int) W h8)
  have hq := Nat.mod_lt (k + s.size + 1) (show 0 < st by omega)
  generalize (k + s.size + 1) % st = q at *
  have hw1 : IntKind.i64.wrap ((s.size : Int) + 1) = (s.size : Int) + 1 := by rw [IntKind.wrap_i64]; omega
  have HO := Lib.hid (fun W => with_i s (st : Int) (k : Int) W (codeK_0.2 ⟨codeW_yes hs (inB_yes (by omega) (by omega)), inB_yes (by omega) (by omega)⟩))
  go_enter Try.func18, Try.ntmps18
  go_wp2_with fail
  refine (HO.out _).mono ?_
  rintro e w1 ⟨rfl, hb1⟩
  have g1 : Below w.heap.size w w1 := Below.trans (by go_grown) (hb1.mono (by first | (simp; done) | (simp; omega)))
  have z1 := g1.size
  clear hb1
  have B2 : Below w.heap.size w (w1.alloc (Obj.cells #[Value.string s, Value.int IntKind.i64 (st : Int)] 62)) := g1.alloc z1 _
  have K2 : BdBlk (w1.alloc (Obj.cells #[Value.string s, Value.int IntKind.i64 (st : Int)] 62)) w1.heap.size s (st : Int) := Go.Deep.blk_alloc_new _ _
  go_wp2_with fail
  generalize w1.alloc (Obj.cells #[Value.string s, Value.int IntKind.i64 (st : Int)] 62) = wq at *
  clear g1 z1 HO hs
  generalize w1.heap.size = bb at *
  have p0 := K2.cell0
  have p1 := K2.cell1
  have HB := Lib.hid B2
  have HK := Lib.hid K2
  have z0 := K2.lt
  clear B2 K2 w1
  go_region_held3 (fun x => x.cell? ⟨bb, 0, none⟩ = some (.string s) ∧ x.cell? ⟨bb, 1, none⟩ = some (.int .i64 (st : Int))) (first | exact ⟨p0, p1⟩ | go_keep)
    (first
      | (go_at_call 59; refine (HL.out _).mono ?_; rintro e w2 ⟨rfl, hb⟩
         have HK := Lib.hid (BdBlk.of_block (w' := w2) HK.out (hb.block _ (by first | omega | (simp; omega))))
         have HB := Lib.hid (show Below w.heap.size w w2 by first | exact HB.out.trans (hb.mono HB.out.size) | exact HB.out.drew.trans (hb.mono (by have := HB.out.size; simp; omega)))
         have z0 := HK.out.lt
         have p0 := HK.out.cell0
         have p1 := HK.out.cell1
         clear hb)
      | (go_at_call 58; refine (HM.out _).mono ?_; rintro e w2 ⟨rfl, hb⟩
         have HK := Lib.hid (BdBlk.of_block (w' := w2) HK.out (hb.block _ (by first | omega | (simp; omega))))
         have HB := Lib.hid (show Below w.heap.size w w2 by first | exact HB.out.trans (hb.mono HB.out.size) | exact HB.out.drew.trans (hb.mono (by have := HB.out.size; simp; omega)))
         have z0 := HK.out.lt
         have p0 := HK.out.cell0
         have p1 := HK.out.cell1
         clear hb))
  go_wp2
  go_returns
  exact ⟨rfl, HB.out⟩

set_option maxHeartbeats 1000000 in
theorem cov_i_no (s : ByteArray) (a k c : Int) (w : World) (hs : s.size ≤ 1048576) (hc : codeK s a k = c) (h0 : c ≠ 0) :
    Calls Try.prog 20 #[.string s, .int .i64 a, .int .i64 k] w (NumsCode w 2 [] c) := by
  have HO := Lib.hid (fun W => with_i_no s a k c W hs hc h0)
  have hd1 : (c != 0) = true := by simp [h0]
  have hd2 : (c == 0) = false := by simp [h0]
  clear hc h0
  go_enter Try.func20, Try.ntmps20
  go_wp2_with fail
  refine (HO.out _).mono ?_
  rintro e w1 ⟨rfl, hb1⟩
  have g1 : Below w.heap.size w w1 := Below.trans (by go_grown) (hb1.mono (by first | (simp; done) | (simp; omega)))
  have z1 := g1.size
  clear hb1
  go_wp2
  go_returns
  exact ⟨none, 0, rfl, Nat.le_refl _, by unfold maxLen; omega, Row.none_, by first | exact g1 | exact g1.alloc z1 _⟩

set_option maxHeartbeats 1000000 in
theorem cov_i (s : ByteArray) (st k : Nat) (w : World) (hs : bendB s = true) (hk : k < st) (hst : st ≤ 40) (h2 : s.size + 2 ≤ st) :
    Calls Try.prog 20 #[.string s, .int .i64 (st : Int), .int .i64 (k : Int)] w (NumsCode w 2 (ovL s st k s.size) 0) := by
  have h8 := (bend_of hs).2.1
  have HO := Lib.hid (fun W => with_i s (st : Int) (k : Int) W (codeK_0.2 ⟨codeW_yes hs (inB_yes (by omega) (by omega)), inB_yes (by omega) (by omega)⟩))
  go_enter Try.func20, Try.ntmps20
  go_wp2_with fail
  refine (HO.out _).mono ?_
  rintro e w1 ⟨rfl, hb1⟩
  have g1 : Below w.heap.size w w1 := Below.trans (by go_grown) (hb1.mono (by first | (simp; done) | (simp; omega)))
  have z1 := g1.size
  clear hb1
  clear HO
  have HV := Lib.hid (fun W => over_i s st k W hs (by omega) hst h2)
  clear hs
  go_wp2_with fail
  refine (HV.out _).mono ?_
  rintro e w2 ⟨A, c, rfl, k1, k2, hrow, hb2⟩
  have HR := Lib.hid (hrow.wide (lo' := w.heap.size) (by simp; omega) (Nat.le_refl _))
  have g2 : Below w.heap.size w w2 := (g1.alloc z1 _).trans (hb2.mono (by simp; omega))
  clear hrow hb2 g1
  go_wp2
  go_returns
  exact ⟨A, c, rfl, k1, k2, HR.out, g2⟩

set_option maxHeartbeats 1000000 in
theorem lock_i_no (s : ByteArray) (a c : Int) (w : World) (hs : s.size ≤ 1048576) (hc : codeW s a = c) (h0 : c ≠ 0) :
    Calls Try.prog 25 #[.string s, .int .i64 a] w fun e w' => e = .returned (.tuple #[.bool false, .int .i64 c]) ∧ Below w.heap.size w w' := by
  have HO := Lib.hid (fun W => newBorder_i_no s a c W hs hc h0)
  have hd1 : (c != 0) = true := by simp [h0]
  have hd2 : (c == 0) = false := by simp [h0]
  clear hc h0
  go_enter Try.func25, Try.ntmps25
  go_wp2_with fail
  refine (HO.out _).mono ?_
  rintro e w1 ⟨rfl, hb1⟩
  have g1 : Below w.heap.size w w1 := Below.trans (by go_grown) (hb1.mono (by first | (simp; done) | (simp; omega)))
  have z1 := g1.size
  clear hb1
  go_wp2
  go_returns
  exact ⟨rfl, by first | exact g1 | exact g1.alloc z1 _⟩

set_option maxHeartbeats 1000000 in
theorem lock_i (s : ByteArray) (st : Nat) (w : World) (hs : bendB s = true) (hst : st ≤ 40) (h2 : s.size + 2 ≤ st) :
    Calls Try.prog 25 #[.string s, .int .i64 (st : Int)] w fun e w' => e = .returned (.tuple #[.bool (decide (0 < cntB s s.size)), .int .i64 0]) ∧ Below w.heap.size w w' := by
  have h8 := (bend_of hs).2.1
  have HO := Lib.hid (fun W => newBorder_i s (st : Int) W (codeW_yes hs (inB_yes (by omega) (by omega))))
  go_enter Try.func25, Try.ntmps25
  go_wp2_with fail
  refine (HO.out _).mono ?_
  rintro e w1 ⟨rfl, hb1⟩
  have g1 : Below w.heap.size w w1 := Below.trans (by go_grown) (hb1.mono (by first | (simp; done) | (simp; omega)))
  have z1 := g1.size
  clear hb1
  clear HO
  have HV := Lib.hid (fun W => over_i s st 0 W hs (by omega) hst h2)
  clear hs
  go_wp2_with fail
  refine (HV.out _).mono ?_
  rintro e w2 ⟨A, c, rfl, k1, k2, hrow, hb2⟩
  have HR := Lib.hid (hrow.wide (lo' := w.heap.size) (by simp; omega) (Nat.le_refl _))
  have g2 : Below w.heap.size w w2 := (g1.alloc z1 _).trans (hb2.mono (by simp; omega))
  clear hrow hb2 g1
  have HQ := Lib.hid (ovL_len s st 0 s.size)
  generalize (ovL s st 0 s.size).length = q at *
  go_wp2
  go_returns
  exact ⟨by rw [← HQ.out]; rfl, g2⟩

set_option maxHeartbeats 1000000 in
theorem lock_s_no (s : ByteArray) (a c : Int) (w : World) (hs : s.size ≤ 1048576) (hc : codeW s a = c) (h0 : c ≠ 0) :
    Calls Try.prog 24 #[.string s, .int .i64 a] w fun e w' => e = .returned (.tuple #[.bool false, .int .i64 c]) ∧ Below w.heap.size w w' := by
  subst hc
  have HO := Lib.hid (fun W => code_s s a W hs)
  have hd1 : (codeW s a != 0) = true := by simp [h0]
  have hd2 : (codeW s a == 0) = false := by simp [h0]
  generalize codeW s a = c at *
  clear h0
  go_enter Try.func24, Try.ntmps24
  go_wp2_with (go_at_call 55; refine (HO.out _).mono ?_; rintro e w' ⟨rfl, rfl⟩)
  go_returns
  exact ⟨rfl, Below.refl _ _⟩

set_option maxHeartbeats 1000000 in
theorem lock_s (s : ByteArray) (st : Nat) (w : World) (hs : bendB s = true) (hst : st ≤ 40) (h2 : s.size + 2 ≤ st) :
    Calls Try.prog 24 #[.string s, .int .i64 (st : Int)] w fun e w' => e = .returned (.tuple #[.bool (decide (0 < cntB s s.size)), .int .i64 0]) ∧ Below w.heap.size w w' := by
  have h8 := (bend_of hs).2.1
  have HO := Lib.hid (fun W => code_s s (st : Int) W (by omega))
  have HB := Lib.hid (fun W => behind_s s W h8)
  rw [codeW_yes hs (inB_yes (by omega) (by omega))] at HO
  clear hs
  generalize cntB s s.size = q at *
  go_enter Try.func24, Try.ntmps24
  go_wp2_with (first | (go_at_call 55; refine (HO.out _).mono ?_; rintro e w' ⟨rfl, rfl⟩) | (go_at_call 62; refine (HB.out _).mono ?_; rintro e w' ⟨rfl, rfl⟩))
  go_returns
  exact ⟨by first | rfl | (simp; done), Below.refl _ _⟩


/-- the code of a word, a rim and a number of stakes -/
def codeR (s : ByteArray) (r a : Int) : Int := if codeW s a = 0 then (if inB r 100 5000 = true then 0 else 2) else codeW s a
/-- the length of rods -/
def rodV (s : ByteArray) (r st : Nat) : Nat := (r * (10 * (s.size + 1) + cntB s s.size) + 10 * st - 1) / (10 * st)
theorem rod_facts {s : ByteArray} {r st : Nat} (h8 : s.size ≤ 8) (r0 : 100 ≤ r) (r1 : r ≤ 5000) (h2 : 3 ≤ st) (hst : st ≤ 40) : ∃ P : Nat, P ≤ 490000 ∧ (r : Int) * (10 * ((s.size : Int) + 1) + (cntB s s.size : Int)) = (P : Int) ∧ rodV s r st = (P + 10 * st - 1) / (10 * st) ∧ (rodV s r st : Int) ≤ 490400 := by
  have hc := cntB_le s s.size
  refine ⟨r * (10 * (s.size + 1) + cntB s s.size), ?_, by push_cast; rfl, rfl, ?_⟩
  · calc r * (10 * (s.size + 1) + cntB s s.size) ≤ 5000 * 98 := Nat.mul_le_mul r1 (by omega)
      _ = 490000 := rfl
  · unfold rodV
    have h1 : r * (10 * (s.size + 1) + cntB s s.size) ≤ 5000 * 98 := Nat.mul_le_mul r1 (by omega)
    have h3 := Nat.div_le_self (r * (10 * (s.size + 1) + cntB s s.size) + 10 * st - 1) (10 * st)
    omega
theorem rod_quo {P st v : Nat} (h2 : 3 ≤ st) (hv : v = (P + 10 * st - 1) / (10 * st)) : ((P : Int) + 10 * (st : Int) - 1).tdiv (10 * (st : Int)) = (v : Int) ∧ ((P : Int) + 10 * (st : Int) - 1) / (10 * (st : Int)) = (v : Int) := by
  have e : ((P : Int) + 10 * (st : Int) - 1) / (10 * (st : Int)) = (v : Int) := by
    rw [hv, show (P : Int) + 10 * (st : Int) - 1 = ((P + 10 * st - 1 : Nat) : Int) by omega, show 10 * (st : Int) = ((10 * st : Nat) : Int) by omega]
    exact (Int.natCast_ediv _ _).symm
  refine ⟨?_, e⟩
  rw [Int.tdiv_eq_ediv_of_nonneg (by omega), e]
set_option maxHeartbeats 1000000 in
theorem rod_s_no (s : ByteArray) (r a c : Int) (w : World) (hs : s.size ≤ 1048576) (hc : codeR s r a = c) (h0 : c ≠ 0) :
    Calls Try.prog 39 #[.string s, .int .i64 r, .int .i64 a] w fun e w' => e = .returned (.tuple #[.int .i64 0, .int .i64 c]) ∧ Below w.heap.size w w' := by
  subst hc
  have HO := Lib.hid (fun W => ok_s s W hs)
  have HS := Lib.hid (fun W => stakes_s s a W hs)
  have HI := Lib.hid (fun W => in_s r 100 5000 W)
  unfold codeR at h0 ⊢
  cases h1 : bendB s
  · rw [h1] at HO
    rw [codeW_no h1, if_neg (by decide)]
    clear h1 h0
    go_enter Try.func39, Try.ntmps39
    go_wp2_with (first | (go_at_call 51; refine (HO.out _).mono ?_; rintro e w' ⟨rfl, rfl⟩) | (go_at_call 56; refine (HI.out _).mono ?_; rintro e w' ⟨rfl, rfl⟩) | (go_at_call 75; refine (HS.out _).mono ?_; rintro e w' ⟨rfl, rfl⟩))
    go_returns
    exact ⟨rfl, Below.refl _ _⟩
  rw [h1] at HO
  cases h3 : inB r 100 5000
  · rw [h3] at HI h0
    have e7 : (if codeW s a = 0 then (if false = true then (0 : Int) else 2) else codeW s a) = 2 := by
      split
      · rfl
      · unfold codeW at *
        rw [h1] at *
        simp at *
        assumption
    rw [e7]
    clear h1 h0 h3 e7
    go_enter Try.func39, Try.ntmps39
    go_wp2_with (first | (go_at_call 51; refine (HO.out _).mono ?_; rintro e w' ⟨rfl, rfl⟩) | (go_at_call 56; refine (HI.out _).mono ?_; rintro e w' ⟨rfl, rfl⟩) | (go_at_call 75; refine (HS.out _).mono ?_; rintro e w' ⟨rfl, rfl⟩))
    go_returns
    exact ⟨rfl, Below.refl _ _⟩
  rw [h3] at HI
  cases h2 : inB a ((s.size : Int) + 2) 40
  · rw [h2] at HS
    rw [codeW_far h1 h2, if_neg (by decide)]
    clear h1 h0 h2 h3
    go_enter Try.func39, Try.ntmps39
    go_wp2_with (first | (go_at_call 51; refine (HO.out _).mono ?_; rintro e w' ⟨rfl, rfl⟩) | (go_at_call 56; refine (HI.out _).mono ?_; rintro e w' ⟨rfl, rfl⟩) | (go_at_call 75; refine (HS.out _).mono ?_; rintro e w' ⟨rfl, rfl⟩))
    go_returns
    exact ⟨rfl, Below.refl _ _⟩
  exact absurd (by rw [codeW_yes h1 h2, if_pos rfl, h3]; rfl) h0

set_option maxHeartbeats 1000000 in
theorem rod_s (s : ByteArray) (r st : Nat) (w : World) (hs : bendB s = true) (r0 : 100 ≤ r) (r1 : r ≤ 5000) (hst : st ≤ 40) (h2 : s.size + 2 ≤ st) :
    Calls Try.prog 39 #[.string s, .int .i64 (r : Int), .int .i64 (st : Int)] w fun e w' => e = .returned (.tuple #[.int .i64 (rodV s r st : Int), .int .i64 0]) ∧ Below w.heap.size w w' := by
  obtain ⟨hz, h8, _⟩ := bend_of hs
  have HO := Lib.hid (fun W => ok_s s W (by omega))
  have HS := Lib.hid (fun W => stakes_s s (st : Int) W (by omega))
  have HI := Lib.hid (fun W => in_s (r : Int) 100 5000 W)
  have HB := Lib.hid (fun W => behind_s s W h8)
  rw [hs] at HO
  rw [inB_yes (by omega) (by omega)] at HS HI
  obtain ⟨P, hP, hm, hv, hv2⟩ := rod_facts (s := s) (r := r) (st := st) h8 r0 r1 (by omega) hst
  obtain ⟨q1, q2⟩ := rod_quo (st := st) (by omega) hv
  have hcb := cntB_le s s.size
  generalize rodV s r st = V at *
  generalize cntB s s.size = C at *
  have hst0 : (10 * (st : Int) == 0) = false := beq_false_of_ne (by omega)
  have hst1 : ¬ 10 * (st : Int) = 0 := by omega
  clear hs hv
  go_enter Try.func39, Try.ntmps39
  go_wp2_with (first | (go_at_call 51; refine (HO.out _).mono ?_; rintro e w' ⟨rfl, rfl⟩) | (go_at_call 56; refine (HI.out _).mono ?_; rintro e w' ⟨rfl, rfl⟩) | (go_at_call 75; refine (HS.out _).mono ?_; rintro e w' ⟨rfl, rfl⟩) | (go_at_call 62; refine (HB.out _).mono ?_; rintro e w' ⟨rfl, rfl⟩))
  go_returns
  exact ⟨rfl, Below.refl _ _⟩

set_option maxHeartbeats 1000000 in
theorem quoUp_i (P st v : Nat) (w : World) (hP : P ≤ 490000) (h2 : 3 ≤ st) (hst : st ≤ 40) (hv : v = (P + 10 * st - 1) / (10 * st)) (hv2 : (v : Int) ≤ 490400) :
    Calls Try.prog 76 #[.int .i64 (P : Int), .int .i64 (10 * (st : Int))] w fun e w' => e = .returned (.int .i64 (v : Int)) ∧ w = w' := by
  obtain ⟨q1, q2⟩ := rod_quo (st := st) h2 hv
  have hst0 : (10 * (st : Int) == 0) = false := beq_false_of_ne (by omega)
  have hst1 : ¬ 10 * (st : Int) = 0 := by omega
  clear hv
  go_enter Try.func76, Try.ntmps76
  go_wp2
  go_ret
  exact ⟨rfl, rfl⟩

set_option maxHeartbeats 1000000 in
theorem rod_i_no (s : ByteArray) (r a c : Int) (w : World) (hs : s.size ≤ 1048576) (hc : codeR s r a = c) (h0 : c ≠ 0) :
    Calls Try.prog 40 #[.string s, .int .i64 r, .int .i64 a] w fun e w' => e = .returned (.tuple #[.int .i64 0, .int .i64 c]) ∧ Below w.heap.size w w' := by
  subst hc
  unfold codeR at h0 ⊢
  by_cases h1 : codeW s a = 0
  · have HO := Lib.hid (fun W => newBorder_i s a W h1)
    have HI := Lib.hid (fun W => in_i r 100 5000 W)
    rw [if_pos h1] at h0 ⊢
    cases h3 : inB r 100 5000
    · rw [h3] at HI
      rw [if_neg (by decide)]
      clear h1 h0 h3
      go_enter Try.func40, Try.ntmps40
      go_wp2_with fail
      refine (HO.out _).mono ?_
      rintro e w1 ⟨rfl, hb1⟩
      have g1 : Below w.heap.size w w1 := Below.trans (by go_grown) (hb1.mono (by first | (simp; done) | (simp; omega)))
      have z1 := hb1.size
      try simp at z1
      clear hb1
      go_wp2_with (go_at_call 52; refine (HI.out _).mono ?_; rintro e w' ⟨rfl, rfl⟩)
      go_returns
      exact ⟨rfl, by first | exact g1 | exact g1.alloc z1 _ | exact g1.alloc (by omega) _⟩
    · exact absurd (by rw [h3]; rfl) h0
  · rw [if_neg h1]
    have HO := Lib.hid (fun W => newBorder_i_no s a _ W hs rfl h1)
    have hd1 : (codeW s a != 0) = true := by simp [h1]
    have hd2 : (codeW s a == 0) = false := by simp [h1]
    generalize codeW s a = c at *
    clear h0
    go_enter Try.func40, Try.ntmps40
    go_wp2_with fail
    refine (HO.out _).mono ?_
    rintro e w1 ⟨rfl, hb1⟩
    have g1 : Below w.heap.size w w1 := Below.trans (by go_grown) (hb1.mono (by first | (simp; done) | (simp; omega)))
    have z1 := hb1.size
    try simp at z1
    clear hb1
    go_wp2
    go_returns
    exact ⟨rfl, by first | exact g1 | exact g1.alloc z1 _ | exact g1.alloc (by omega) _⟩

set_option maxHeartbeats 4000000 in
theorem rod_i (s : ByteArray) (r st : Nat) (w : World) (hs : bendB s = true) (r0 : 100 ≤ r) (r1 : r ≤ 5000) (hst : st ≤ 40) (h2 : s.size + 2 ≤ st) :
    Calls Try.prog 40 #[.string s, .int .i64 (r : Int), .int .i64 (st : Int)] w fun e w' => e = .returned (.tuple #[.int .i64 (rodV s r st : Int), .int .i64 0]) ∧ Below w.heap.size w w' := by
  obtain ⟨hz, h8, _⟩ := bend_of hs
  have HO := Lib.hid (fun W => newBorder_i s (st : Int) W (codeW_yes hs (inB_yes (by omega) (by omega))))
  have HI := Lib.hid (fun W => in_i (r : Int) 100 5000 W)
  rw [inB_yes (by omega) (by omega)] at HI
  obtain ⟨P, hP, hm, hv, hv2⟩ := rod_facts (s := s) (r := r) (st := st) h8 r0 r1 (by omega) hst
  have HQ := Lib.hid (fun W => quoUp_i P st _ W hP (by omega) hst hv hv2)
  have HV := Lib.hid (fun W => over_i s st 0 W hs (by omega) hst h2)
  have HL := Lib.hid (fun W => letters_i s (st : Int) W h8)
  have hcb := cntB_le s s.size
  have hw1 : IntKind.i64.wrap ((s.size : Int) + 1) = (s.size : Int) + 1 := by rw [IntKind.wrap_i64]; omega
  have hw2 : IntKind.i64.wrap (10 * ((s.size : Int) + 1)) = 10 * ((s.size : Int) + 1) := by rw [IntKind.wrap_i64]; omega
  have hw3 : IntKind.i64.wrap (10 * ((s.size : Int) + 1) + (cntB s s.size : Int)) = 10 * ((s.size : Int) + 1) + (cntB s s.size : Int) := by rw [IntKind.wrap_i64]; omega
  have HN := Lib.hid (ovL_len s st 0 s.size)
  generalize rodV s r st = V at *
  generalize cntB s s.size = C at *
  go_enter Try.func40, Try.ntmps40
  go_wp2_with fail
  refine (HO.out _).mono ?_
  rintro e w1 ⟨rfl, hb1⟩
  have g1 : Below w.heap.size w w1 := Below.trans (by go_grown) (hb1.mono (by first | (simp; done) | (simp; omega)))
  have z1 := g1.size
  clear hb1 hv
  have B2 : Below w.heap.size w (w1.alloc (Obj.cells #[Value.string s, Value.int IntKind.i64 (st : Int)] 62)) := g1.alloc z1 _
  have K2 : BdBlk (w1.alloc (Obj.cells #[Value.string s, Value.int IntKind.i64 (st : Int)] 62)) w1.heap.size s (st : Int) := Go.Deep.blk_alloc_new _ _
  go_wp2_with (go_at_call 52; refine (HI.out _).mono ?_; rintro e w' ⟨rfl, rfl⟩)
  generalize w1.alloc (Obj.cells #[Value.string s, Value.int IntKind.i64 (st : Int)] 62) = wq at *
  clear g1 z1 HO hs
  generalize w1.heap.size = bb at *
  have p0 := K2.cell0
  have p1 := K2.cell1
  have HB := Lib.hid B2
  have HK := Lib.hid K2
  have z0 := K2.lt
  clear B2 K2 w1
  go_region_held3 (fun x => x.cell? ⟨bb, 0, none⟩ = some (.string s) ∧ x.cell? ⟨bb, 1, none⟩ = some (.int .i64 (st : Int))) (first | exact ⟨p0, p1⟩ | go_keep)
    (first
      | (go_at_call 59; refine (HL.out _).mono ?_; rintro e w2 ⟨rfl, hb⟩
         have HK := Lib.hid (BdBlk.of_block (w' := w2) HK.out (hb.block _ (by first | omega | (simp; omega))))
         have HB := Lib.hid (show Below w.heap.size w w2 by first | exact HB.out.trans (hb.mono HB.out.size) | exact HB.out.drew.trans (hb.mono (by have := HB.out.size; simp; omega)))
         have z0 := HK.out.lt
         have p0 := HK.out.cell0
         have p1 := HK.out.cell1
         clear hb)
      | (go_at_call 61; refine (HV.out _).mono ?_; rintro e w2 ⟨A, c, rfl, k1, k2, hrow, hb⟩
         rw [HN.out] at k1 ⊢
         clear hrow
         have HK := Lib.hid (BdBlk.of_block (w' := w2) HK.out (hb.block _ (by first | omega | (simp; omega))))
         have HB := Lib.hid (show Below w.heap.size w w2 by first | exact HB.out.trans (hb.mono HB.out.size) | exact HB.out.drew.trans (hb.mono (by have := HB.out.size; simp; omega)))
         have z0 := HK.out.lt
         have p0 := HK.out.cell0
         have p1 := HK.out.cell1
         clear hb))
  go_wp2_with (go_at_call 76; refine (HQ.out _).mono ?_; rintro e w' ⟨rfl, rfl⟩)
  go_returns
  exact ⟨rfl, HB.out⟩


theorem rod_nat {s : ByteArray} {r a : Int} (h : codeR s r a = 0) : bendB s = true ∧ ∃ st rr : Nat, a = (st : Int) ∧ r = (rr : Int) ∧ 100 ≤ rr ∧ rr ≤ 5000 ∧ st ≤ 40 ∧ s.size + 2 ≤ st := by
  unfold codeR at h
  by_cases h1 : codeW s a = 0
  · rw [if_pos h1] at h
    obtain ⟨h3, st, rfl, h4, h5⟩ := stakesW_nat h1
    cases h2 : inB r 100 5000
    · rw [h2] at h; simp at h
    · have g := inB_of h2
      exact ⟨h3, st, r.toNat, rfl, by omega, by omega, by omega, h4, h5⟩
  · rw [if_neg h1] at h
    exact absurd h h1
end Go.Proofs.Ytgfnagkelhbplaa.brd
