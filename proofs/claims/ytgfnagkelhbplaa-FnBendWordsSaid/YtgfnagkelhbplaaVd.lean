/-
  Rods that come out, and DrawnOut, of the model. No condition of a statement lies here.
-/
import Derived.Test.YtgfnagkelhbplaaVc
namespace Go.Proofs.Ytgfnagkelhbplaa.brd
open Go.ChangeShapes Go.WideShapes Go.ChangeAt Go.RowKit Go.Proofs.Ytgfnagkelhbplaa.mem Go.Proofs.Ytgfnagkelhbplaa.rod Go.Proofs.Ytgfnagkelhbplaa.nums
set_option linter.unusedVariables false
set_option linter.unusedSimpArgs false
set_option maxRecDepth 100000

/-- how long a slice is; whether a number is in a list -/
def sliceLen : Value → Nat
  | .slice _ n _ => n
  | _ => 0
def hasB (L : List Int) (x : Int) : Bool := decide (x ∈ L)
theorem getD_mem {L : List Int} {j : Nat} (h : j < L.length) : L.getD j 0 ∈ L := by
  rw [List.getD_eq_getElem?_getD, List.getElem?_eq_getElem h]; exact List.getElem_mem h
set_option maxHeartbeats 2000000 in
theorem has_s (L : List Int) (A : Option Addr) (c : Nat) (x : Int) (w : World) (hn : L.length ≤ 1048576) (h : Sl w A L.length 1 (fun j => L.getD j 0)) :
    Calls Try.prog 89 #[.slice A L.length c, .int .i64 x] w fun e w' => e = .returned (.bool (hasB L x)) ∧ Drew w w' := by
  have HS := Lib.hid h
  clear h
  go_enter Try.func89, Try.ntmps89
  go_wp2_with fail
  go_loopw [5] (fun t wr => ∃ k : Nat, k ≤ L.length ∧ t = .int .i64 (k : Int) ∧ Hid (∀ j, j < k → L.getD j 0 ≠ x) ∧ Drew w wr) (fun t _ => L.length - (intOf t).toNat)
  case atStart => exact ⟨0, by omega, rfl, Lib.hid (fun j hj => absurd hj (by omega)), Drew.refl _⟩
  case round =>
    obtain ⟨k, hk, rfl, HA, hd⟩ := hrel
    have HD := Lib.hid hd
    clear hd
    by_cases hlt : k < L.length
    · have hlt' : (k : Int) < (L.length : Int) := by omega
      have hk0 : (0 : Int) ≤ (k : Int) := by omega
      obtain ⟨b, o, rfl, hb, hX⟩ := HS.out (by omega)
      have c0 : wr.cell? ⟨b, o + k, none⟩ = some (.int .i64 (L.getD k 0)) := HD.out.cell (hX k (by omega))
      clear hX
      by_cases e : L.getD k 0 = x
      · have HF := Lib.hid (show hasB L x = true by unfold hasB; rw [← e]; exact decide_eq_true (getD_mem hlt))
        have e1 : (L.getD k 0 == x) = true := by rw [e]; simp
        clear e
        generalize L.getD k 0 = y at *
        generalize L.length = n at *
        go_wp2
        go_ret
        exact ⟨by rw [HF.out]; rfl, HD.out⟩
      · have HN := Lib.hid (show ∀ j, j < k + 1 → L.getD j 0 ≠ x from fun j hj => by
          by_cases e2 : j = k
          · rw [e2]; exact e
          · exact HA.out j (by omega))
        have e1 : (L.getD k 0 == x) = false := by simpa using e
        clear e
        generalize hy : L.getD k 0 = y at *
        have HY := Lib.hid hy
        clear hy
        go_wp2
        go_roundw
        case rel => exact ⟨k + 1, by omega, by go_num, HN, HD.out⟩
        case measure => simp [intOf]; omega
    · obtain rfl : k = L.length := by omega
      have HF := Lib.hid (show hasB L x = false from decide_eq_false (fun hm => by
        obtain ⟨j, hj, e⟩ := List.getElem_of_mem hm
        exact HA.out j hj (by rw [List.getD_eq_getElem?_getD, List.getElem?_eq_getElem hj]; exact e)))
      generalize L.length = n at *
      go_wp2
      go_ret
      exact ⟨by rw [HF.out]; rfl, HD.out⟩

set_option maxHeartbeats 2000000 in
theorem own0_s (g : Nat) (w : World) (hg : g < w.heap.size) (h : w.cell? ⟨g, 0, none⟩ = some (.int .i64 0)) :
    Calls Try.prog 88 #[.slice (some ⟨g, 0, none⟩) 1 1] w fun e w' => ∃ v, e = .returned v ∧ Hid (w'.ownsRow w.heap.size 2 1 v ([0] : List Int).length (([0] : List Int).map (Value.int .i64))) ∧ Below w.heap.size w w' := by
  obtain ⟨i0, hi0, hz0, hz1, hz2⟩ := info_parts info_num
  go_enter Try.func88, Try.ntmps88
  go_wp2_with (at_builtin; refine wpList_append_own _ rfl _ _ 26 rfl w.heap.size 2 i0 (.int .i64 0) 1 8 Try.underlying26 hi0 hz0 hz1 hz2 rfl (by decide) _ _ _ rfl (owns_empty w w.heap.size 2 (Nat.le_refl _)) ⟨g, 0, none⟩ 1 1 [.int .i64 0] rfl rfl ?c1 ?c2 ?c3 ?c4 ?c5 ?_)
  case c1 =>
    intro j u hj
    rcases j with _ | j <;> simp at hj
    subst hj
    exact (Below.cell (B := w.heap.size) (p := ⟨g, 0, none⟩) (by go_grown) hg).trans h
  case c2 => intro u hu; simp at hu; subst hu; rfl
  case c3 => simp [maxLen]
  case c4 => simp
  case c5 => simp
  intro v' w1 hown1 hgrow1 _
  have g1 : Below w.heap.size w w1 := Below.grown (by go_grown) hgrow1 (by simp) (fun g hg => by simp [Value.ownBlock] at hg; omega)
  have HO := Lib.hid (show w1.ownsRow w.heap.size 2 1 v' ([0] : List Int).length (([0] : List Int).map (Value.int .i64)) from hown1)
  clear hown1 hgrow1
  go_wp2
  go_ret
  exact ⟨_, rfl, HO, g1⟩


/-- the numbers of a list, as a set of stakes -/
def inL (L : List Int) : Nat → Bool := fun k => decide ((k : Int) ∈ L)
/-- a list of rods that come out, each once -/
structure OutL (s : ByteArray) (st : Nat) (L : List Int) : Prop where
  mem : ∀ k : Nat, (k : Int) ∈ L → k < st ∧ Out s st k
  zero : (0 : Int) ∈ L
  cnt : L.length = cntS (inL L) st
theorem OutL.start {s : ByteArray} {st : Nat} (h : 0 < st) : OutL s st [0] := by
  refine ⟨fun k hk => ?_, List.mem_cons_self, ?_⟩
  · have : k = 0 := by simpa using hk
    subst this
    exact ⟨h, .cut⟩
  · have h0 : cntS (fun _ => false) st = 0 := by
      clear h
      induction st with
      | zero => rfl
      | succ n ih => unfold cntS; rw [ih]; rfl
    have e := cntS_put (S := fun _ => false) (m := 0) rfl st
    rw [h0, if_pos h] at e
    show 1 = _
    rw [← show 0 + 1 = 1 from rfl, ← e]
    refine cntS_congr fun k _ => ?_
    unfold inL
    by_cases hk : k = 0
    · subst hk; simp
    · simp [hk]
/-- do only told rods lie over the rod? -/
def freeB (s : ByteArray) (st : Nat) (L : List Int) (k : Nat) : Bool := decide (∀ x ∈ ovL s st k s.size, x ∈ L)
theorem OutL.add {s : ByteArray} {st k : Nat} {L : List Int} (h : OutL s st L) (hk : k < st) (hn : hasB L (k : Int) = false) (hf : freeB s st L k = true) : OutL s st (L ++ [(k : Int)]) := by
  have hf' := of_decide_eq_true hf
  have hn' : ¬ (k : Int) ∈ L := of_decide_eq_false hn
  refine ⟨fun j hj => ?_, List.mem_append_left _ h.zero, ?_⟩
  · rw [List.mem_append] at hj
    rcases hj with hj | hj
    · exact h.mem j hj
    · have e : (j : Int) = (k : Int) := by simpa using hj
      have e2 : j = k := by omega
      subst e2
      exact ⟨hk, .free hk fun i hi hb => (h.mem _ (hf' _ (mem_ovL.2 ⟨i, hi, hb, rfl⟩))).2⟩
  · have hS : inL L k = false := decide_eq_false hn'
    have e := cntS_put hS st
    rw [if_pos hk] at e
    rw [List.length_append, List.length_singleton, h.cnt, ← e]
    refine cntS_congr fun j _ => ?_
    unfold inL
    by_cases hj : j = k
    · subst hj; simp
    · have hj' : ¬ (j : Int) = (k : Int) := by omega
      simp [hj, hj']
theorem OutL.le {s : ByteArray} {st : Nat} {L : List Int} (h : OutL s st L) : L.length ≤ st := by rw [h.cnt]; exact cntS_le _ _
/-- a list that no rod joins has all that come out -/
theorem OutL.all {s : ByteArray} {st : Nat} {L : List Int} (h : OutL s st L) (hc : ∀ k, k < st → hasB L (k : Int) = true ∨ freeB s st L k = false) : L.length = outN s st := by
  rw [h.cnt]
  refine outN_of ⟨decide_eq_true h.zero, fun k hk hall => ?_⟩ fun k hk hs => (h.mem k (of_decide_eq_true hs)).2
  rcases hc k hk with e | e
  · exact e
  · exfalso
    have hf := of_decide_eq_false e
    apply hf
    intro x hx
    obtain ⟨i, hi, hb, rfl⟩ := mem_ovL.1 hx
    exact of_decide_eq_true (hall i hi hb)
/-- are the first n rods of a list in another one? -/
def allIn (L C : List Int) : Nat → Bool
  | 0 => true
  | n + 1 => allIn L C n && hasB L (C.getD n 0)
theorem allIn_iff {L C : List Int} : ∀ {n : Nat}, allIn L C n = true ↔ ∀ j, j < n → C.getD j 0 ∈ L
  | 0 => ⟨fun _ j h => absurd h (by omega), fun _ => rfl⟩
  | n + 1 => by
    unfold allIn
    rw [Bool.and_eq_true, allIn_iff]
    unfold hasB
    rw [decide_eq_true_iff]
    constructor
    · rintro ⟨h1, h2⟩ j hj
      by_cases e : j = n
      · rw [e]; exact h2
      · exact h1 j (by omega)
    · exact fun h => ⟨fun j hj => h j (by omega), h n (by omega)⟩
theorem free_all {s : ByteArray} {st k : Nat} {L : List Int} : freeB s st L k = allIn L (ovL s st k s.size) (ovL s st k s.size).length := by
  rw [Bool.eq_iff_iff, allIn_iff]
  unfold freeB
  rw [decide_eq_true_iff]
  constructor
  · exact fun h j hj => h _ (getD_mem hj)
  · intro h x hx
    obtain ⟨j, hj, e⟩ := List.getElem_of_mem hx
    have := h j hj
    rw [List.getD_eq_getElem?_getD, List.getElem?_eq_getElem hj] at this
    rw [← e]
    exact this

set_option maxHeartbeats 4000000 in
theorem outL_s (s : ByteArray) (st g : Nat) (w : World) (h8 : s.size ≤ 8) (h0 : 0 < st) (hst : st ≤ 40) (hg : g < w.heap.size) (hc : w.cell? ⟨g, 0, none⟩ = some (.int .i64 0)) :
    Calls Try.prog 64 #[.string s, .int .i64 (st : Int), .slice (some ⟨g, 0, none⟩) 1 1] w fun e w' => ∃ A c, e = .returned (.slice A (outN s st) c) ∧ outN s st ≤ c ∧ c ≤ maxLen ∧ Below w.heap.size w w' := by
  obtain ⟨i0, hi0, hz0, hz1, hz2⟩ := info_parts info_num
  have HW := Lib.hid (own0_s g w hg hc)
  clear hc
  go_enter Try.func64, Try.ntmps64
  go_wp2_with fail
  refine HW.out.mono ?_
  rintro e w1 ⟨v1, rfl, HO1, hb1⟩
  have HB1 := Lib.hid hb1
  have HL1 := Lib.hid (OutL.start (s := s) h0)
  clear hb1 HW
  go_wp2_with fail
  go_loopw [7] (fun v wr => ∃ L : List Int, L.length ≤ st ∧ Hid (OutL s st L) ∧ Hid (wr.ownsRow w.heap.size 2 1 v (L).length ((L).map (Value.int .i64))) ∧ Hid (Below w.heap.size w wr)) (fun v _ => st - sliceLen v)
  case atStart => exact ⟨[0], by simp; omega, HL1, HO1, HB1⟩
  case round =>
    clear HO1 HB1 HL1
    obtain ⟨L0, hL0, HL, HO, HB⟩ := hrel
    have z0 := HB.out.size
    obtain ⟨A0, c0, rfl, _, _, _⟩ := row_of_owns HO.out
    go_wp2_with fail
    go_loopw [9, 7, 8] (fun t v m wk => ∃ (k : Nat) (L : List Int), k ≤ st ∧ t = .int .i64 (k : Int) ∧ m = .bool (decide (L0.length < L.length)) ∧ L.length ≤ st ∧ L0.length ≤ L.length ∧ Hid (OutL s st L) ∧ Hid (L.length = L0.length → ∀ j, j < k → hasB L (j : Int) = true ∨ freeB s st L j = false) ∧ Hid (wk.ownsRow w.heap.size 2 1 v (L).length ((L).map (Value.int .i64))) ∧ Hid (Below w.heap.size w wk)) (fun t _ _ _ => st - (intOf t).toNat)
    case atStart => exact ⟨0, L0, by omega, rfl, by simp, hL0, Nat.le_refl _, HL, Lib.hid (fun _ j hj => absurd hj (by omega)), HO, HB⟩
    case round =>
      clear HL HO HB
      obtain ⟨k, L, hk, rfl, rfl, hLs, hLL, HL, HC, HO, HB⟩ := hrel
      have zk := HB.out.size
      by_cases hlt : k < st
      · have hlt' : (k : Int) < (st : Int) := by omega
        have hk0 : (0 : Int) ≤ (k : Int) := by omega
        obtain ⟨A, c, rfl, hc1, hc2, hrow⟩ := row_of_owns HO.out
        have HS := Lib.hid hrow.sl
        clear hrow
        have hn1 : L.length ≤ 1048576 := by omega
        have HH := Lib.hid (fun W (hd : Drew wr W) x => has_s L A c x W hn1 (hd.sl HS.out))
        cases hq : hasB L (k : Int)
        · have HQ := Lib.hid (HH.out _ (Drew.refl _) (k : Int))
          rw [hq] at HQ
          have HNQ := Lib.hid hq
          clear hq
          go_wp2_with fail
          refine HQ.out.mono ?_
          rintro e w2 ⟨rfl, hd⟩
          have HD2 := Lib.hid hd
          have HO2 := Lib.hid (show w2.ownsRow w.heap.size 2 1 (.slice A L.length c) (L).length ((L).map (Value.int .i64)) by obtain ⟨m, rfl⟩ := hd; exact HO.out)
          have HB2 := Lib.hid (show Below w.heap.size w w2 by obtain ⟨m, rfl⟩ := hd; exact drewN_below HB.out m)
          have HS2 := Lib.hid (hd.sl HS.out)
          clear hd HO HB HQ HH HS
          go_wp2_with fail
          refine (covers_s s st k _ h8 hlt hst).mono ?_
          rintro e w3 ⟨A3, c3, rfl, k1, k2, hrow, hb3⟩
          have HR3 := Lib.hid hrow.sl
          have HS3 := Lib.hid (HS2.out.below hb3 (Nat.le_refl _))
          have HO3 := Lib.hid (owns_belowL HO2.out hb3 (Nat.le_refl _))
          have HB3 := Lib.hid (HB2.out.trans (hb3.mono HB2.out.size))
          have HFA := Lib.hid (free_all (s := s) (st := st) (k := k) (L := L))
          have hcl : (ovL s st k s.size).length ≤ 8 := by rw [ovL_len]; have := cntB_le s s.size; omega
          clear hrow hb3 HO2 HB2 HS2 HD2
          generalize ovL s st k s.size = C at *
          go_wp2_with fail
          go_loopw [12, 10] (fun i f wx => ∃ ii : Nat, ii ≤ C.length ∧ i = .int .i64 (ii : Int) ∧ f = .bool (allIn L C ii) ∧ Hid (Drew w3 wx)) (fun i _ _ => C.length - (intOf i).toNat)
          case atStart => exact ⟨0, by omega, rfl, rfl, Lib.hid (Drew.refl _)⟩
          case round =>
            obtain ⟨ii, hii, rfl, rfl, hd⟩ := hrel
            by_cases hlc : ii < C.length
            · have hlc' : (ii : Int) < (C.length : Int) := by omega
              have hi0 : (0 : Int) ≤ (ii : Int) := by omega
              cases hf : allIn L C ii
              · have HN := Lib.hid (show allIn L C (ii + 1) = false by unfold allIn; rw [hf]; rfl)
                clear hf
                go_wp2
                go_roundw
                case rel => exact ⟨ii + 1, by omega, by go_num, by rw [HN.out], hd⟩
                case measure => simp [intOf]; omega
              · have HN := Lib.hid (show allIn L C (ii + 1) = hasB L (C.getD ii 0) by unfold allIn; rw [hf]; rfl)
                obtain ⟨b, o, rfl, hb, hX⟩ := HR3.out (by omega)
                have q0 : wr.cell? ⟨b, o + ii, none⟩ = some (.int .i64 (C.getD ii 0)) := hd.out.cell (hX ii (by omega))
                have HQ := Lib.hid (fun W (hdW : Drew w3 W) => has_s L A c (C.getD ii 0) W hn1 (hdW.sl HS3.out))
                clear hf hX
                generalize C.getD ii 0 = y at *
                go_wp2_with fail
                refine (HQ.out _ (by first | exact hd.out | exact hd.out.drewN _)).mono ?_
                rintro e w4 ⟨rfl, hd4⟩
                have HD4 := Lib.hid (show Drew w3 w4 by obtain ⟨m1, e1⟩ := hd.out; obtain ⟨m2, e2⟩ := hd4; exact ⟨m1 + m2, by rw [e2, e1]; simp⟩)
                clear hd4
                go_wp2
                go_roundw
                case rel => exact ⟨ii + 1, by omega, by go_num, by rw [HN.out], HD4⟩
                case measure => simp [intOf]; omega
            · obtain rfl : ii = C.length := by omega
              have HO4 := Lib.hid (show wr.ownsRow w.heap.size 2 1 (.slice A L.length c) (L).length ((L).map (Value.int .i64)) by obtain ⟨m, e⟩ := hd.out; rw [e]; exact HO3.out)
              have HB4 := Lib.hid (show Below w.heap.size w wr by obtain ⟨m, e⟩ := hd.out; rw [e]; exact drewN_below HB3.out m)
              rw [← HFA.out]
              clear hd HO3 HB3 HS3 HR3
              have zz := HB4.out.size
              cases hf : freeB s st L k
              · have HN := Lib.hid (show L.length = L0.length → ∀ j, j < k + 1 → hasB L (j : Int) = true ∨ freeB s st L j = false from fun e j hj => by
                  by_cases e2 : j = k
                  · rw [e2]; exact .inr hf
                  · exact HC.out e j (by omega))
                clear hf
                go_wp2
                go_roundw
                case rel => exact ⟨k + 1, L, by omega, by go_num, rfl, hLs, hLL, HL, HN, HO4, HB4⟩
                case measure => simp [intOf]; omega
              · have HL5 := Lib.hid (HL.out.add hlt HNQ.out hf)
                have hl5 := HL5.out.le
                have hl6 : (L ++ [(k : Int)]).length = L.length + 1 := by simp
                have hl1 : L.length + 1 ≤ maxLen := by unfold maxLen; omega
                have hl2 : (L.length + 1) * 8 ≤ 140737488355328 := by omega
                clear hf HFA
                go_wp2_with (at_builtin; refine wpList_append_own _ rfl _ _ 26 rfl w.heap.size 2 i0 (.int .i64 0) 1 8 Try.underlying26 hi0 hz0 hz1 hz2 rfl (by decide) _ _ _ rfl (HO4.out.alloc _) ⟨wr.heap.size, 0, none⟩ 1 1 [.int .i64 (k : Int)] rfl rfl ?c1 ?c2 hl1 hl2 ?c5 ?_)
                case c1 => intro j u hj; rcases j with _ | j <;> simp at hj; subst hj; go_simp
                case c2 => intro u hu; simp at hu; subst hu; rfl
                case c5 => simp <;> omega
                intro v' w5 hown5 hgrow5 _
                have HB5 := Lib.hid (Below.grown (HB4.out.alloc zz _) hgrow5 (by simp; omega) (owns_block HO4.out))
                have HO5 := Lib.hid (owns_snoc hown5)
                clear hown5 hgrow5
                go_wp2
                go_roundw
                case rel => exact ⟨k + 1, L ++ [(k : Int)], by omega, by go_num, by rw [hl6, decide_eq_true (by omega)], hl5, by omega, HL5, Lib.hid (fun e => absurd e (by omega)), HO5, HB5⟩
                case measure => simp [intOf]; omega
        · have HN := Lib.hid (show L.length = L0.length → ∀ j, j < k + 1 → hasB L (j : Int) = true ∨ freeB s st L j = false from fun e j hj => by
            by_cases e2 : j = k
            · rw [e2]; exact .inl hq
            · exact HC.out e j (by omega))
          have HQ := Lib.hid (HH.out _ (Drew.refl _) (k : Int))
          rw [hq] at HQ
          clear hq
          go_wp2_with fail
          refine HQ.out.mono ?_
          rintro e w2 ⟨rfl, hd⟩
          have HO2 := Lib.hid (show w2.ownsRow w.heap.size 2 1 (.slice A L.length c) (L).length ((L).map (Value.int .i64)) by obtain ⟨m, rfl⟩ := hd; exact HO.out)
          have HB2 := Lib.hid (show Below w.heap.size w w2 by obtain ⟨m, rfl⟩ := hd; exact drewN_below HB.out m)
          clear hd
          go_wp2
          go_roundw
          case rel => exact ⟨k + 1, L, by omega, by go_num, rfl, hLs, hLL, HL, HN, HO2, HB2⟩
          case measure => simp [intOf]; omega
      · obtain rfl : st = k := by omega
        by_cases hgrew : L0.length < L.length
        · rw [decide_eq_true hgrew]
          go_wp2
          go_roundw
          case rel => exact ⟨L, hLs, HL, HO, HB⟩
          case measure => obtain ⟨A, c, e1, _⟩ := row_of_owns HO.out; rw [e1]; show st - L.length < st - L0.length; omega
        · rw [decide_eq_false hgrew]
          have HF := Lib.hid (HL.out.all (HC.out (by omega)))
          obtain ⟨A, c, rfl, hc1, hc2, hrow⟩ := row_of_owns HO.out
          rw [HF.out] at hc1 ⊢
          clear hrow
          go_wp2
          go_ret
          exact ⟨A, c, rfl, hc1, hc2, HB.out⟩

set_option maxHeartbeats 1000000 in
theorem out_s_no (s : ByteArray) (a c : Int) (w : World) (hs : s.size ≤ 1048576) (hc : codeW s a = c) (h0 : c ≠ 0) :
    Calls Try.prog 26 #[.string s, .int .i64 a] w fun e w' => e = .returned (.tuple #[.int .i64 0, .int .i64 c]) ∧ Below w.heap.size w w' := by
  subst hc
  have HO := Lib.hid (fun W => code_s s a W hs)
  have hd1 : (codeW s a != 0) = true := by simp [h0]
  have hd2 : (codeW s a == 0) = false := by simp [h0]
  generalize codeW s a = c at *
  clear h0
  go_enter Try.func26, Try.ntmps26
  go_wp2_with (go_at_call 55; refine (HO.out _).mono ?_; rintro e w' ⟨rfl, rfl⟩)
  go_returns
  exact ⟨rfl, Below.refl _ _⟩

set_option maxHeartbeats 1000000 in
theorem out_s (s : ByteArray) (st : Nat) (w : World) (hs : bendB s = true) (hst : st ≤ 40) (h2 : s.size + 2 ≤ st) :
    Calls Try.prog 26 #[.string s, .int .i64 (st : Int)] w fun e w' => e = .returned (.tuple #[.int .i64 (outN s st : Nat), .int .i64 0]) ∧ Below w.heap.size w w' := by
  have h8 := (bend_of hs).2.1
  have HO := Lib.hid (fun W => code_s s (st : Int) W (by omega))
  rw [codeW_yes hs (inB_yes (by omega) (by omega))] at HO
  have HL := Lib.hid (fun g W hg hc => outL_s s st g W h8 (by omega) hst hg hc)
  generalize outN s st = q at *
  clear hs
  go_enter Try.func26, Try.ntmps26
  go_wp2_with (go_at_call 55; refine (HO.out _).mono ?_; rintro e w' ⟨rfl, rfl⟩)
  refine (HL.out _ _ (by simp) (by go_simp)).mono ?_
  rintro e w1 ⟨A, c, rfl, k1, k2, hb1⟩
  have g1 : Below w.heap.size w w1 := Below.trans (by go_grown) (hb1.mono (by first | (simp; done) | (simp; omega)))
  clear hb1
  go_wp2
  go_returns
  exact ⟨rfl, g1⟩

end Go.Proofs.Ytgfnagkelhbplaa.brd
