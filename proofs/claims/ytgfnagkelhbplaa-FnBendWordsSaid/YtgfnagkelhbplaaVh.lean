/-
  ListWords of the model. No condition of a statement lies here.
-/
import Derived.Test.YtgfnagkelhbplaaVg
import Derived.Test.YtgfnagkelhbplaaVc
import Derived.Test.YtgfnagkelhbplaaBits
import Derived.Test.YtgfnagkelhbplaaTexts
import Derived.Test.YtgfnagkelhbplaaAppend
import Derived.OwnWalk
import Derived.Deep.RegionHeld3
import Derived.Laws.BytesString
namespace Go.Proofs.Ytgfnagkelhbplaa.brd
open Go.ChangeShapes Go.WideShapes Go.ChangeAt Go.RowKit Go.Proofs.Ytgfnagkelhbplaa.mem Go.Proofs.Ytgfnagkelhbplaa.rod Go.Proofs.Ytgfnagkelhbplaa.nums
set_option linter.unusedVariables false
set_option linter.unusedSimpArgs false
set_option maxRecDepth 100000

/-! ### rows of texts, rows of letters -/
def txtV (l : List Bool) : Value := .string (toB l)
def txtsV (W : List (List Bool)) : List Value := W.map txtV
def bitV (b : Bool) : Value := .int .u8 (if b then 102 else 98)
theorem bitV_eq (b : Bool) : bitV b = split.bv (ltr b) := by cases b <;> rfl
theorem info_text : (Try.prog.info? 9).map (fun i => (i.zero, i.size, i.bytes)) = some (some (.string ByteArray.empty), 1, 16) := by kernel_rfl
theorem info_u8 : (Try.prog.info? 5).map (fun i => (i.zero, i.size, i.bytes)) = some (some (.int .u8 0), 1, 1) := by kernel_rfl
theorem ownsT_empty (w : World) (B : Nat) (E : TypeId) (hB : B ≤ w.heap.size) : (w.alloc (Obj.cells #[] E)).ownsRow B E 1 (.slice (some ⟨w.heap.size, 0, none⟩) 0 0) 0 [] :=
  ⟨rfl, .inr ⟨w.heap.size, 0, #[], rfl, hB, Go.Deep.blk_alloc_new _ _, Nat.le_refl _, by unfold maxLen; omega, rfl, rfl⟩⟩
theorem ownsT_snoc {w : World} {B : Nat} {E : TypeId} {v : Value} {W : List (List Bool)} {l : List Bool} (h : w.ownsRow B E 1 v (W.length + 1) (txtsV W ++ [txtV l])) : w.ownsRow B E 1 v (W ++ [l]).length (txtsV (W ++ [l])) := by
  unfold txtsV at *
  simpa using h
theorem ownsC_snoc {w : World} {B : Nat} {E : TypeId} {v : Value} {l : List Bool} {b : Bool} (h : w.ownsRow B E 1 v (l.length + 1) (l.map bitV ++ [bitV b])) : w.ownsRow B E 1 v (l ++ [b]).length ((l ++ [b]).map bitV) := by
  simpa using h
theorem row_text {w : World} {B : Nat} {v : Value} {l : List Bool} (h : w.ownsRow B 5 1 v l.length (l.map bitV)) : (convert 47 9 v).run Try.prog w = .ok (.string (toB l)) w := by
  have hm : l.map bitV = (l.map ltr).map split.bv := by rw [List.map_map]; exact List.map_congr_left fun b _ => bitV_eq b
  rw [hm] at h
  obtain ⟨hl, h0⟩ := h
  rcases h0 with ⟨rfl, h1⟩ | ⟨g, cap, cur, rfl, hB, hh, hc, hm, hsz, ht⟩
  · have : l = [] := List.length_eq_zero_iff.1 h1
    subst this
    rw [run_convert_bytes_string w _ _ 5 _ _ _ Try.underlying47 Try.underlying5 Try.underlying9]
    rfl
  · refine split.run_str_row w _ _ 5 Try.underlying47 Try.underlying5 Try.underlying9 ⟨g, 0, none⟩ l.length cap (l.map ltr) (by simp) fun j u hj => ?_
    have := World.ownsRow.cells (w := w) (base := B) (e := 5) (size := 1) (v := .slice (some ⟨g, 0, none⟩) l.length cap) (n := l.length) (xs := (l.map ltr).map split.bv) ⟨hl, .inr ⟨g, cap, cur, rfl, hB, hh, hc, hm, hsz, ht⟩⟩ (g := g) rfl j u hj
    exact this
theorem ownsT_block {w : World} {B n size : Nat} {E : TypeId} {v : Value} {xs : List Value} (h : w.ownsRow B E size v n xs) : ∀ g, v.ownBlock = some g → g < w.heap.size ∧ ∃ c, w.heap[g]? = some (.cells c E (0, 0)) := by
  intro j e
  rcases h.2 with ⟨rfl, _⟩ | ⟨g, cap, cur, rfl, hB, hh, _⟩
  · simp [Value.ownBlock] at e
  · simp [Value.ownBlock] at e
    subst e
    exact ⟨(Array.getElem?_eq_some_iff.1 hh).1, cur, hh⟩

theorem owns_drewN {w : World} {B n size : Nat} {E : TypeId} {v : Value} {xs : List Value} (h : w.ownsRow B E size v n xs) (m : Nat) : (w.drewN m).ownsRow B E size v n xs := h
/-! ### the m-th word of a length -/
def wrd (n m : Nat) : List Bool := (List.range n).map fun j => m.testBit (n - 1 - j)
def firstOnes (n : Nat) : List (List Bool) := ((List.range (2 ^ n)).map (wrd n)).filter (fun l => first l == l)
def sel (n m : Nat) : List (List Bool) := ((List.range m).map (wrd n)).filter (fun l => first l == l)
theorem sel_yes {n m : Nat} (h : (first (wrd n m) == wrd n m) = true) : sel n (m + 1) = sel n m ++ [wrd n m] := by
  unfold sel; rw [List.range_succ, List.map_append, List.filter_append]
  congr 1
  show List.filter _ [wrd n m] = _
  rw [List.filter_cons, if_pos h]; rfl
theorem sel_no {n m : Nat} (h : (first (wrd n m) == wrd n m) = false) : sel n (m + 1) = sel n m := by
  unfold sel; rw [List.range_succ, List.map_append, List.filter_append]
  show _ ++ List.filter _ [wrd n m] = _
  rw [List.filter_cons, if_neg (by rw [h]; decide)]; simp
theorem sel_len (n m : Nat) : (sel n m).length ≤ m := by
  unfold sel
  have := List.length_filter_le (fun l => first l == l) ((List.range m).map (wrd n))
  simpa using this
theorem wrd_len (n m : Nat) : (wrd n m).length = n := by unfold wrd; simp
/-- the first letters of a word -/
def pre (n m j : Nat) : List Bool := (List.range j).map fun i => m.testBit (n - 1 - i)
theorem pre_succ (n m j : Nat) : pre n m (j + 1) = pre n m j ++ [m.testBit (n - 1 - j)] := by unfold pre; rw [List.range_succ, List.map_append]; rfl
theorem pre_all (n m : Nat) : pre n m n = wrd n m := rfl
theorem pre_len (n m j : Nat) : (pre n m j).length = j := by unfold pre; simp

set_option maxHeartbeats 4000000 in
theorem list_s (n : Nat) (w : World) (n1 : 1 ≤ n) (n8 : n ≤ 8) :
    Calls Try.prog 69 #[.int .i64 (n : Int)] w fun e w' => ∃ v, e = .returned v ∧ w'.ownsRow w.heap.size 9 1 v (sel n (2 ^ n)).length (txtsV (sel n (2 ^ n))) ∧ Below w.heap.size w w' := by
  obtain ⟨i0, hi0, hz0, hz1, hz2⟩ := info_parts info_text
  obtain ⟨u0, hu0, hy0, hy1, hy2⟩ := info_parts info_u8
  have hp1 : 2 ^ n ≤ 256 := by
    calc 2 ^ n ≤ 2 ^ 8 := Nat.pow_le_pow_right (by decide) n8
      _ = 256 := rfl
  have hp3 : (2 : Int) ^ n = ((2 ^ n : Nat) : Int) := by push_cast; rfl
  go_enter Try.func69, Try.ntmps69
  go_wp2_with fail
  go_loopw [4, 3] (fun t v wr => ∃ m : Nat, m ≤ 2 ^ n ∧ t = .int .i64 (m : Int) ∧ Hid (wr.ownsRow w.heap.size 9 1 v (sel n m).length (txtsV (sel n m))) ∧ Below w.heap.size w wr) (fun t _ _ => 2 ^ n - (intOf t).toNat)
  case atStart => exact ⟨0, Nat.zero_le _, rfl, Lib.hid (ownsT_empty w w.heap.size 9 (Nat.le_refl _)), by go_grown⟩
  case round =>
    obtain ⟨m, hm, rfl, HO, hbl⟩ := hrel
    have HB := Lib.hid hbl
    have hzz := hbl.size
    clear hbl
    generalize hP : 2 ^ n = P at *
    by_cases hlt : m < P
    · have hlt' : (m : Int) < (P : Int) := by omega
      have HP := Lib.hid hP
      have hm256 : m < 2 ^ 62 := by omega
      clear hP
      go_wp2_with fail
      rename World => wo
      go_loopw [6, 5] (fun t v wi => ∃ j : Nat, j ≤ n ∧ t = .int .i64 ((n : Int) - 1 - (j : Int)) ∧ Hid (wi.ownsRow wo.heap.size 5 1 v (pre n m j).length ((pre n m j).map bitV)) ∧ Hid (Below wo.heap.size wo wi)) (fun t _ _ => (intOf t + 1).toNat)
      case atStart => exact ⟨0, by omega, by first | rfl | (simp; done), Lib.hid (ownsT_empty wo wo.heap.size 5 (Nat.le_refl _)), Lib.hid (by go_grown)⟩
      case round =>
        obtain ⟨j, hj, rfl, HW, HBI⟩ := hrel
        have zi := HBI.out.size
        by_cases hjn : j < n
        · obtain ⟨q, hq⟩ : ∃ q : Nat, (n : Int) - 1 - (j : Int) = (q : Int) := ⟨n - 1 - j, by omega⟩
          have hqn : n - 1 - j = q := by omega
          have hq0 : (0 : Int) ≤ (q : Int) := by omega
          have hq8 : q < 8 := by omega
          have hbit := i64_bit m q hm256
          have HS := Lib.hid (pre_succ n m j)
          rw [hqn] at HS
          have hlen := Nat.le_of_eq (pre_len n m j)
          have hl1 : (pre n m j).length + 1 ≤ maxLen := by unfold maxLen; omega
          have hl2 : ((pre n m j).length + 1) * 1 ≤ 140737488355328 := by omega
          have HQ := Lib.hid hq
          rw [hq]
          have hqj : (q : Int) - 1 = (n : Int) - 1 - ((j + 1 : Nat) : Int) := by omega
          have HQJ := Lib.hid hqj
          clear hq hqn hqj
          generalize pre n m j = l at *
          cases hb : m.testBit q
          · rw [hb] at hbit HS
            clear hb
            go_wp2_with (at_builtin; refine wpList_append_own _ rfl _ _ 47 rfl wo.heap.size 5 u0 (.int .u8 0) 1 1 Try.underlying47 hu0 hy0 hy1 hy2 rfl (by decide) _ _ _ rfl (HW.out.alloc _) ⟨wr.heap.size, 0, none⟩ 1 1 [bitV false] rfl rfl ?c1 ?c2 hl1 hl2 ?c5 ?_)
            case c1 =>
              intro i u hi
              rcases i with _ | i
              · obtain rfl : bitV false = u := by simpa using hi
                unfold bitV
                go_simp
              · simp at hi
            case c2 =>
              intro u hu
              obtain rfl : u = bitV false := by simpa using hu
              rfl
            case c5 => simp <;> omega
            intro v' w5 hown5 hgrow5 _
            have HB5 := Lib.hid (Below.grown (HBI.out.alloc zi _) hgrow5 (by simp; omega) (owns_block HW.out))
            have HO5 := Lib.hid (ownsC_snoc hown5)
            clear hown5 hgrow5
            go_wp2
            go_roundw
            case rel => exact ⟨j + 1, by omega, by rw [← HQJ.out], by rw [HS.out]; exact HO5, HB5⟩
            case measure => first | (simp [intOf]; done) | (simp [intOf]; omega)
          · rw [hb] at hbit HS
            clear hb
            go_wp2_with (at_builtin; refine wpList_append_own _ rfl _ _ 47 rfl wo.heap.size 5 u0 (.int .u8 0) 1 1 Try.underlying47 hu0 hy0 hy1 hy2 rfl (by decide) _ _ _ rfl (HW.out.alloc _) ⟨wr.heap.size, 0, none⟩ 1 1 [bitV true] rfl rfl ?c1 ?c2 hl1 hl2 ?c5 ?_)
            case c1 =>
              intro i u hi
              rcases i with _ | i
              · obtain rfl : bitV true = u := by simpa using hi
                unfold bitV
                go_simp
              · simp at hi
            case c2 =>
              intro u hu
              obtain rfl : u = bitV true := by simpa using hu
              rfl
            case c5 => simp <;> omega
            intro v' w5 hown5 hgrow5 _
            have HB5 := Lib.hid (Below.grown (HBI.out.alloc zi _) hgrow5 (by simp; omega) (owns_block HW.out))
            have HO5 := Lib.hid (ownsC_snoc hown5)
            clear hown5 hgrow5
            go_wp2
            go_roundw
            case rel => exact ⟨j + 1, by omega, by rw [← HQJ.out], by rw [HS.out]; exact HO5, HB5⟩
            case measure => first | (simp [intOf]; done) | (simp [intOf]; omega)
        · obtain rfl : n = j := by omega
          have hneg : ¬ (0 : Int) ≤ (n : Int) - 1 - (n : Int) := by omega
          have hcv := fun k => row_text (owns_drewN HW.out k)
          rw [pre_all] at hcv
          have hcv0 : (convert 47 9 u5).run Try.prog wr = .ok (.string (toB (wrd n m))) wr := hcv 0
          have hlw := wrd_len n m
          have HF := Lib.hid (fun W => firstW_s (wrd n m) W (by omega) (by omega))
          have he := toB_eq (first (wrd n m)) (wrd n m)
          have HSY := Lib.hid (fun h => sel_yes (n := n) (m := m) h)
          have HSN := Lib.hid (fun h => sel_no (n := n) (m := m) h)
          have hsl := sel_len n m
          have hl1 : (sel n m).length + 1 ≤ maxLen := by unfold maxLen; omega
          have hl2 : ((sel n m).length + 1) * 16 ≤ 140737488355328 := by omega
          have HOI := Lib.hid (owns_belowL HO.out HBI.out (Nat.le_refl _))
          have HBW := Lib.hid (HB.out.trans (HBI.out.mono hzz))
          have hzw := HBW.out.size
          cases hq : first (wrd n m) == wrd n m
          · rw [hq] at he
            have HN := Lib.hid (HSN.out hq)
            clear hq hlw HSY HSN hsl HW HO HB
            generalize toB (wrd n m) = x at *
            generalize toB (first (wrd n m)) = y at *
            go_wp2_with fail
            go_quiet ((go_at_call 66; exact Calls.quiet_of (HF.out _)))
            go_wp2
            go_roundw
            case rel => exact ⟨m + 1, by omega, by go_num, by rw [HN.out]; exact owns_drewN HOI.out _, drewN_below HBW.out _⟩
            case measure => simp [intOf]; omega
          · rw [hq] at he
            have HN := Lib.hid (HSY.out hq)
            have HTX := Lib.hid (show Value.string (toB (wrd n m)) = txtV (wrd n m) from rfl)
            clear hq hlw HSY HSN hsl HW HO HB
            generalize toB (wrd n m) = x at *
            generalize toB (first (wrd n m)) = y at *
            generalize sel n m = S at *
            go_wp2_with fail
            go_quiet ((go_at_call 66; exact Calls.quiet_of (HF.out _)))
            have hcq := hcv nq
            have HOQ := Lib.hid (owns_drewN HOI.out nq)
            have HBQ := Lib.hid (drewN_below HBW.out nq)
            clear hcv hcv0 HOI HBW hzw
            generalize wr.drewN nq = wq at *
            have hzq := HBQ.out.size
            go_wp2_with (at_builtin; refine wpList_append_own _ rfl _ _ 39 rfl w.heap.size 9 i0 (.string ByteArray.empty) 1 16 Try.underlying39 hi0 hz0 hz1 hz2 rfl (by decide) _ _ _ rfl (HOQ.out.alloc _) ⟨wq.heap.size, 0, none⟩ 1 1 [Value.string x] rfl rfl ?c1 ?c2 hl1 hl2 ?c5 ?_)
            case c1 =>
              intro i u hi
              rcases i with _ | i
              · obtain rfl : Value.string x = u := by simpa using hi
                go_simp
              · simp at hi
            case c2 =>
              intro u hu
              obtain rfl : u = Value.string x := by simpa using hu
              rfl
            case c5 => simp <;> omega
            intro v' w5 hown5 hgrow5 _
            have HB5 := Lib.hid (Below.grown (HBQ.out.alloc hzq _) hgrow5 (by simp; omega) (owns_block HOQ.out))
            rw [HTX.out] at hown5
            have HO5 := Lib.hid (ownsT_snoc hown5)
            clear hown5 hgrow5
            go_wp2
            go_roundw
            case rel => exact ⟨m + 1, by omega, by go_num, by rw [HN.out]; exact HO5, HB5.out⟩
            case measure => simp [intOf]; omega
    · obtain rfl : m = P := by omega
      have HP := Lib.hid hP
      clear hP
      go_wp2
      go_ret
      exact ⟨_, rfl, by rw [HP.out]; exact HO.out, HB.out⟩

/-- all words of a length, in ascending order -/
theorem goodR_1 : words 1 = (List.range 2).map (wrd 1) := by kernel_rfl
theorem goodR_2 : words 2 = (List.range 4).map (wrd 2) := by kernel_rfl
theorem goodR_3 : words 3 = (List.range 8).map (wrd 3) := by kernel_rfl
theorem goodR_4 : words 4 = (List.range 16).map (wrd 4) := by kernel_rfl
theorem goodR_5 : words 5 = (List.range 32).map (wrd 5) := by kernel_rfl
theorem goodR_6 : words 6 = (List.range 64).map (wrd 6) := by kernel_rfl
theorem goodR_7 : words 7 = (List.range 128).map (wrd 7) := by kernel_rfl
theorem goodR_8 : words 8 = (List.range 256).map (wrd 8) := by kernel_rfl
theorem sel_all {n : Nat} (h1 : 1 ≤ n) (h8 : n ≤ 8) : sel n (2 ^ n) = listW n := by
  rw [listW_eq h1 h8]
  unfold sel
  obtain rfl | rfl | rfl | rfl | rfl | rfl | rfl | rfl : n = 1 ∨ n = 2 ∨ n = 3 ∨ n = 4 ∨ n = 5 ∨ n = 6 ∨ n = 7 ∨ n = 8 := by omega
  · rw [goodR_1]
  · rw [goodR_2]
  · rw [goodR_3]
  · rw [goodR_4]
  · rw [goodR_5]
  · rw [goodR_6]
  · rw [goodR_7]
  · rw [goodR_8]
/-- a list of words as an answer: a row of texts of the call's own, and a code -/
def TextsC (w : World) (W : List (List Bool)) (code : Int) (e : Ending) (w' : World) : Prop :=
  ∃ A c, e = .returned (.tuple #[.slice A W.length c, .int .i64 code]) ∧ W.length ≤ c ∧ c ≤ maxLen ∧ split.RowT w' w.heap.size w'.heap.size A W.length (fun j => toB (W.getD j [])) ∧ Below w.heap.size w w'
theorem textsC_no {w w' : World} {code : Int} (hb : Below w.heap.size w w') : TextsC w [] code (.returned (.tuple #[.slice none 0 0, .int .i64 code])) w' :=
  ⟨none, 0, rfl, Nat.le_refl _, by unfold maxLen; omega, fun h => absurd h (by simp), hb⟩
theorem rowT_owns {w : World} {B : Nat} {v : Value} {W : List (List Bool)} (h : w.ownsRow B 9 1 v W.length (txtsV W)) :
    ∃ A c, v = .slice A W.length c ∧ W.length ≤ c ∧ c ≤ maxLen ∧ split.RowT w B w.heap.size A W.length (fun j => toB (W.getD j [])) := by
  have e : txtsV W = (List.range (W.length * 1)).map (fun j => Value.string (toB (W.getD j []))) := by
    unfold txtsV
    apply List.ext_getElem?
    intro i
    rw [Nat.mul_one, List.getElem?_map, List.getElem?_map]
    by_cases hi : i < W.length
    · rw [List.getElem?_range hi, List.getElem?_eq_getElem hi]
      simp [List.getD_eq_getElem?_getD, List.getElem?_eq_getElem hi, txtV]
    · rw [List.getElem?_eq_none (by omega), List.getElem?_eq_none (by simp; omega)]
      rfl
  rw [e] at h
  obtain ⟨A, c, e1, h1, h2, h3⟩ := ownV_of_owns h
  refine ⟨A, c, e1, h1, h2, fun hn => ?_⟩
  obtain ⟨g, e2, a, b, ho⟩ := h3 hn
  exact ⟨g, e2, a, b, by rwa [Nat.mul_one] at ho⟩

set_option maxHeartbeats 1000000 in
theorem words_s_no (a : Int) (w : World) (ha : inB a 1 8 = false) :
    Calls Try.prog 32 #[.int .i64 a] w (TextsC w [] 2) := by
  have HI := Lib.hid (fun W => in_s a 1 8 W)
  rw [ha] at HI
  clear ha
  go_enter Try.func32, Try.ntmps32
  go_wp2_with (go_at_call 56; refine (HI.out _).mono ?_; rintro e w' ⟨rfl, rfl⟩)
  go_returns
  exact textsC_no (Below.refl _ _)

set_option maxHeartbeats 1000000 in
theorem words_s (n : Nat) (w : World) (n1 : 1 ≤ n) (n8 : n ≤ 8) :
    Calls Try.prog 32 #[.int .i64 (n : Int)] w (TextsC w (listW n) 0) := by
  have HI := Lib.hid (fun W => in_s (n : Int) 1 8 W)
  rw [inB_yes (by omega) (by omega)] at HI
  have HL := Lib.hid (fun W => list_s n W n1 n8)
  rw [sel_all n1 n8] at HL
  generalize listW n = L at *
  go_enter Try.func32, Try.ntmps32
  go_wp2_with (go_at_call 56; refine (HI.out _).mono ?_; rintro e w' ⟨rfl, rfl⟩)
  refine (HL.out _).mono ?_
  rintro e w1 ⟨v, rfl, ho, hb1⟩
  obtain ⟨A, c, rfl, k1, k2, hrow⟩ := rowT_owns ho
  have HR := Lib.hid (hrow.wide (lo' := w.heap.size) (by simp) (Nat.le_refl _))
  have g1 : Below w.heap.size w w1 := Below.trans (by go_grown) (hb1.mono (by first | (simp; done) | (simp; omega)))
  clear hrow hb1 ho
  go_wp2
  go_returns
  exact ⟨A, c, rfl, k1, k2, HR.out, g1⟩

end Go.Proofs.Ytgfnagkelhbplaa.brd
