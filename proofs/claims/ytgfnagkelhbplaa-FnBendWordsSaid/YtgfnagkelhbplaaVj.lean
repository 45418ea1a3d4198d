/-
  LockedWords, of the model and of the program. No condition of a statement lies here.
-/
import Derived.Test.YtgfnagkelhbplaaVi
import Derived.Test.YtgfnagkelhbplaaVe
import Derived.Lib.SliceRun
import Derived.Lib.Slices
import Derived.Laws.IdiomCopy
namespace Go.Proofs.Ytgfnagkelhbplaa.brd
open Go.ChangeShapes Go.WideShapes Go.ChangeAt Go.RowKit Go.Proofs.Ytgfnagkelhbplaa.mem Go.Proofs.Ytgfnagkelhbplaa.rod Go.Proofs.Ytgfnagkelhbplaa.nums
set_option linter.unusedVariables false
set_option linter.unusedSimpArgs false
set_option maxRecDepth 100000

open Classical in
/-- only the cut rod comes out -/
noncomputable def okL (st : Nat) (l : List Bool) : Bool := decide (outN (toB l) st = 1)
/-- those of the first i words -/
noncomputable def lckTo (st : Nat) (W : List (List Bool)) (i : Nat) : List (List Bool) := (W.take i).filter (okL st)
noncomputable def lckL (st : Nat) (W : List (List Bool)) : List (List Bool) := W.filter (okL st)
theorem take_succ' {W : List (List Bool)} {i : Nat} (h : i < W.length) : W.take (i + 1) = W.take i ++ [W.getD i []] := by
  rw [List.take_add_one, List.getElem?_eq_getElem h, List.getD_eq_getElem?_getD, List.getElem?_eq_getElem h]; rfl
theorem lck_yes {st : Nat} {W : List (List Bool)} {i : Nat} (h : i < W.length) (hq : okL st (W.getD i []) = true) : lckTo st W (i + 1) = lckTo st W i ++ [W.getD i []] := by
  unfold lckTo
  rw [take_succ' h, List.filter_append]
  congr 1
  rw [List.filter_cons, if_pos hq]; rfl
theorem lck_no {st : Nat} {W : List (List Bool)} {i : Nat} (h : i < W.length) (hq : okL st (W.getD i []) = false) : lckTo st W (i + 1) = lckTo st W i := by
  unfold lckTo
  rw [take_succ' h, List.filter_append, List.filter_cons, if_neg (by rw [hq]; decide)]; simp
theorem lck_len (st : Nat) (W : List (List Bool)) (i : Nat) : (lckTo st W i).length ≤ i := by
  unfold lckTo
  have h1 := List.length_filter_le (okL st) (W.take i)
  have h2 := List.length_take_le i W
  omega
theorem lck_all (st : Nat) (W : List (List Bool)) : lckTo st W W.length = lckL st W := by unfold lckTo lckL; rw [List.take_length]
theorem listW_mem {n : Nat} (h1 : 1 ≤ n) (h8 : n ≤ 8) {l : List Bool} (h : l ∈ listW n) : l.length = n ∧ first l = l := by
  rw [listW_eq h1 h8, List.mem_filter] at h
  exact ⟨words_len h.1, by simpa using h.2⟩
theorem listW_at {n j : Nat} (h1 : 1 ≤ n) (h8 : n ≤ 8) (hj : j < (listW n).length) : ((listW n).getD j []).length = n := by
  have : (listW n).getD j [] ∈ listW n := by rw [List.getD_eq_getElem?_getD, List.getElem?_eq_getElem hj]; exact List.getElem_mem hj
  exact (listW_mem h1 h8 this).1
def lkB (a b : Int) : Bool := inB a 1 8 && inB b (a + 2) 40
set_option maxHeartbeats 1000000 in
theorem locked_s_no (a b : Int) (w : World) (hw : (Lit.int .i64 a).wf = true) (hv : lkB a b = false) :
    Calls Try.prog 37 #[.int .i64 a, .int .i64 b] w (TextsC w [] 2) := by
  have H1 := Lib.hid (fun W => in_s a 1 8 W)
  have H2 := Lib.hid (fun W => in_s b (a + 2) 40 W)
  unfold lkB at hv
  cases h1 : inB a 1 8
  all_goals
    rw [h1] at H1 hv
  · clear hv h1
    go_enter Try.func37, Try.ntmps37
    go_wp2_with (go_at_call 56; refine (H1.out _).mono ?_; rintro e w' ⟨rfl, rfl⟩)
    go_returns
    exact textsC_no (Below.refl _ _)
  · have h2 : inB b (a + 2) 40 = false := by simpa using hv
    have g := inB_of h1
    rw [h2] at H2
    clear hv h1 h2
    go_enter Try.func37, Try.ntmps37
    go_wp2_with (first | (go_at_call_of 56 (Value.int IntKind.i64 a); refine (H1.out _).mono ?_; rintro e w' ⟨rfl, rfl⟩) | (go_at_call_of 56 (Value.int IntKind.i64 b); refine (H2.out _).mono ?_; rintro e w' ⟨rfl, rfl⟩))
    go_returns
    exact textsC_no (Below.refl _ _)

set_option maxHeartbeats 8000000 in
theorem locked_s (n st : Nat) (w : World) (n1 : 1 ≤ n) (n8 : n ≤ 8) (h2 : n + 2 ≤ st) (hst : st ≤ 40) :
    Calls Try.prog 37 #[.int .i64 (n : Int), .int .i64 (st : Int)] w (TextsC w (lckL st (listW n)) 0) := by
  obtain ⟨i0, hi0, hz0, hz1, hz2⟩ := info_parts info_text
  have H1 := Lib.hid (fun W => in_s (n : Int) 1 8 W)
  have H2 := Lib.hid (fun W => in_s (st : Int) ((n : Int) + 2) 40 W)
  rw [inB_yes (by omega) (by omega)] at H1 H2
  have HL := Lib.hid (fun W => list_s n W n1 n8)
  rw [sel_all n1 n8] at HL
  have hfew := listW_few n8
  have HAT := Lib.hid (fun j hj => listW_at (j := j) n1 n8 hj)
  have HALL := Lib.hid (lck_all st (listW n))
  generalize listW n = L at *
  go_enter Try.func37, Try.ntmps37
  go_wp2_with (first | (go_at_call_of 56 (Value.int IntKind.i64 (n : Int)); refine (H1.out _).mono ?_; rintro e w' ⟨rfl, rfl⟩) | (go_at_call_of 56 (Value.int IntKind.i64 (st : Int)); refine (H2.out _).mono ?_; rintro e w' ⟨rfl, rfl⟩))
  refine (HL.out _).mono ?_
  rintro e w1 ⟨v, rfl, ho, hb1⟩
  obtain ⟨A, c, rfl, k1, k2, hrow⟩ := rowT_owns ho
  have HR := Lib.hid hrow
  have g1 : Below w.heap.size w w1 := Below.trans (by go_grown) (hb1.mono (by first | (simp; done) | (simp; omega)))
  have HB1 := Lib.hid g1
  have z1 := g1.size
  clear hrow hb1 ho g1 HL H1 H2
  go_wp2_with fail
  go_loopw [8, 7] (fun t v wr => ∃ i : Nat, i ≤ L.length ∧ t = .int .i64 (i : Int) ∧ Hid (wr.ownsRow w1.heap.size 9 1 v (lckTo st L i).length (txtsV (lckTo st L i))) ∧ Hid (Below w1.heap.size w1 wr)) (fun t _ _ => L.length - (intOf t).toNat)
  case atStart => exact ⟨0, by omega, rfl, Lib.hid (ownsT_empty w1 w1.heap.size 9 (Nat.le_refl _)), Lib.hid (by go_grown)⟩
  case round =>
    obtain ⟨i, hi, rfl, HO, HB⟩ := hrel
    have zz := HB.out.size
    by_cases hlt : i < L.length
    · have hlt' : (i : Int) < (L.length : Int) := by omega
      have hip : (0 : Int) ≤ (i : Int) := by omega
      obtain ⟨gb, rfl, gb1, gb2, hrow⟩ := HR.out (by omega)
      have c0 : wr.cell? ⟨gb, i, none⟩ = some (.string (toB (L.getD i []))) := (HB.out.cell (p := ⟨gb, i, none⟩) gb2).trans (hrow.cell hlt)
      have hln := HAT.out i hlt
      have HU := Lib.hid (fun g W hg hc => outL_s (toB (L.getD i [])) st g W (by rw [toB_size]; omega) (by omega) hst hg hc)
      have HY := Lib.hid (fun h => lck_yes (st := st) hlt h)
      have HN := Lib.hid (fun h => lck_no (st := st) hlt h)
      have hq : okL st (L.getD i []) = decide (outN (toB (L.getD i [])) st = 1) := rfl
      have HTX := Lib.hid (show Value.string (toB (L.getD i [])) = txtV (L.getD i []) from rfl)
      have hlk := lck_len st L i
      generalize outN (toB (L.getD i [])) st = q at *
      generalize hx : L.getD i [] = x at *
      generalize toB x = s at *
      clear hx hrow hln
      by_cases h1 : q = 1
      · have e1 : ((q : Int) == 1) = true := by rw [h1]; rfl
        have hy := Lib.hid (HY.out (by rw [hq]; exact decide_eq_true h1))
        have hl1 : (lckTo st L i).length + 1 ≤ maxLen := by unfold maxLen; omega
        have hl2 : ((lckTo st L i).length + 1) * 16 ≤ 140737488355328 := by omega
        clear hq HY HN h1 hlk
        generalize lckTo st L i = S at *
        go_wp2_with fail
        refine (HU.out _ _ (by simp) (by go_simp)).mono ?_
        rintro e w3 ⟨A3, c3, rfl, kc1, kc2, hb3⟩
        have HB3 := Lib.hid (show Below w1.heap.size w1 w3 from (HB.out.alloc zz _).trans (hb3.mono (by simp; omega)))
        have HO3 := Lib.hid (owns_belowL HO.out (Below.trans (by go_grown) (hb3.mono (by first | (simp; done) | (simp; omega)))) (Nat.le_refl _))
        have c3' : w3.cell? ⟨gb, i, none⟩ = some (.string s) := ((bcell hb3).1 _ _ (by simp; omega)).trans ((((Below.refl wr.heap.size wr).alloc (Nat.le_refl _) _).cell (p := ⟨gb, i, none⟩) (show gb < wr.heap.size by omega)).trans c0)
        have z3 := HB3.out.size
        clear hb3 c0
        go_wp2_with (at_builtin; refine wpList_append_own _ rfl _ _ 39 rfl w1.heap.size 9 i0 (.string ByteArray.empty) 1 16 Try.underlying39 hi0 hz0 hz1 hz2 rfl (by decide) _ _ _ rfl (HO3.out.alloc _) ⟨w3.heap.size, 0, none⟩ 1 1 [Value.string s] rfl rfl ?c1 ?c2 hl1 hl2 ?c5 ?_)
        case c1 =>
          intro t u ht
          rcases t with _ | t
          · obtain rfl : Value.string s = u := by simpa using ht
            go_simp
          · simp at ht
        case c2 =>
          intro u hu
          obtain rfl : u = Value.string s := by simpa using hu
          rfl
        case c5 => simp <;> omega
        intro v' w5 hown5 hgrow5 _
        have HB5 := Lib.hid (Below.grown (HB3.out.alloc z3 _) hgrow5 (by simp; omega) (owns_block HO3.out))
        rw [HTX.out] at hown5
        have HO5 := Lib.hid (ownsT_snoc hown5)
        clear hown5 hgrow5
        go_wp2
        go_roundw
        case rel => exact ⟨i + 1, by omega, by go_num, by rw [hy.out]; exact HO5, HB5⟩
        case measure => simp [intOf]; omega
      · have e1 : ((q : Int) == 1) = false := beq_false_of_ne (by omega)
        have hy := Lib.hid (HN.out (by rw [hq]; exact decide_eq_false h1))
        clear hq HY HN h1 hlk
        generalize lckTo st L i = S at *
        go_wp2_with fail
        refine (HU.out _ _ (by simp) (by go_simp)).mono ?_
        rintro e w3 ⟨A3, c3, rfl, kc1, kc2, hb3⟩
        have HB3 := Lib.hid (show Below w1.heap.size w1 w3 from (HB.out.alloc zz _).trans (hb3.mono (by simp; omega)))
        have HO3 := Lib.hid (owns_belowL HO.out (Below.trans (by go_grown) (hb3.mono (by first | (simp; done) | (simp; omega)))) (Nat.le_refl _))
        clear hb3 c0
        go_wp2
        go_roundw
        case rel => exact ⟨i + 1, by omega, by go_num, by rw [hy.out]; exact HO3, HB3⟩
        case measure => simp [intOf]; omega
    · obtain rfl : i = L.length := by omega
      rw [HALL.out] at HO
      obtain ⟨A2, c2, rfl, kk1, kk2, hrow2⟩ := rowT_owns HO.out
      have HR2 := Lib.hid (hrow2.wide (lo' := w.heap.size) z1 (Nat.le_refl _))
      have HBE := Lib.hid (HB1.out.trans (HB.out.mono z1))
      clear hrow2
      go_wp2
      go_returns
      exact ⟨A2, c2, rfl, kk1, kk2, HR2.out, HBE.out⟩

set_option maxHeartbeats 1000000 in
theorem frees_i (l : List Bool) (st sb : Nat) (w : World) (l1 : 1 ≤ l.length) (l8 : l.length ≤ 8) (h2 : l.length + 2 ≤ st) (hst : st ≤ 40) (hc : w.cell? ⟨sb, 0, none⟩ = some (.int .i64 (st : Int))) :
    Calls Try.prog 73 #[.string (toB l), .pointer (some ⟨sb, 0, none⟩)] w fun e w' => e = .returned (.bool (!okL st l)) ∧ Below w.heap.size w w' := by
  have hpos := outN_pos (s := toB l) (st := st) (by omega)
  have hW := Lib.hid (fun W => outW_i (toB l) st W (bend_toB l1 l8) hst (by rw [toB_size]; exact h2))
  have hq : okL st l = decide (outN (toB l) st = 1) := rfl
  have HE := Lib.hid (show decide ((1 : Int) < ((outN (toB l) st : Nat) : Int)) = !okL st l by
    rw [hq]
    by_cases h : outN (toB l) st = 1
    · rw [h]; rfl
    · rw [decide_eq_false h, decide_eq_true (by omega)]; rfl)
  clear hq
  generalize okL st l = ok at *
  generalize outN (toB l) st = q at *
  generalize toB l = s at *
  go_enter Try.func73, Try.ntmps73
  go_wp2_with fail
  refine (hW.out _).mono ?_
  rintro e w1 ⟨rfl, hb1⟩
  go_wp2
  go_ret
  exact ⟨by rw [← HE.out]; first | rfl | (simp; done), hb1⟩

/-- a row of words in a block of the call's own -/
def TxAt (w : World) (g n : Nat) (X : Nat → List Bool) : Prop := OwnV w g 9 n (fun j => .string (toB (X j)))
/-- the words of a length that all stand for the same numbers of stakes -/
def LenAt (W : List (List Bool)) (st : Nat) : Prop := st ≤ 40 ∧ ∀ j, j < W.length → 1 ≤ (W.getD j []).length ∧ (W.getD j []).length ≤ 8 ∧ (W.getD j []).length + 2 ≤ st
set_option maxHeartbeats 2000000 in
theorem indexT_i (W : List (List Bool)) (g c sb st : Nat) (w : World) (hn : W.length ≤ 256) (hnc : W.length ≤ c) (hL : LenAt W st) (hT : TxAt w g W.length (fun j => W.getD j [])) (hc : w.cell? ⟨sb, 0, none⟩ = some (.int .i64 (st : Int))) (hsb : sb < w.heap.size) :
    Calls Try.prog 94 #[.slice (some ⟨g, 0, none⟩) W.length c, (.func (.func 73) #[] #[.pointer (some ⟨sb, 0, none⟩)])] w fun e w' => ((e = .returned (.int .i64 (-1)) ∧ ∀ j, j < W.length → okL st (W.getD j []) = true) ∨ ∃ i : Nat, i < W.length ∧ e = .returned (.int .i64 (i : Int)) ∧ okL st (W.getD i []) = false ∧ ∀ j, j < i → okL st (W.getD j []) = true) ∧ Below w.heap.size w w' := by
  have HL := Lib.hid hL
  have HT := Lib.hid hT
  have HCC := Lib.hid hc
  have hg := hT.lt
  clear hL hT hc
  go_enter Try.func94, Try.ntmps94
  go_wp2_with fail
  go_loopw [8] (fun t wr => ∃ k : Nat, k ≤ W.length ∧ t = .int .i64 (k : Int) ∧ Hid (∀ j, j < k → okL st (W.getD j []) = true) ∧ Hid (Below w.heap.size w wr)) (fun t _ => W.length - (intOf t).toNat)
  case atStart => exact ⟨0, by omega, rfl, Lib.hid (fun j hj => absurd hj (by omega)), Lib.hid (Below.refl _ _)⟩
  case round =>
    obtain ⟨k, hk, rfl, HA, HB⟩ := hrel
    have zz := HB.out.size
    by_cases hlt : k < W.length
    · have hlt' : (k : Int) < (W.length : Int) := by omega
      have hk0 : (0 : Int) ≤ (k : Int) := by omega
      have c0 : wr.cell? ⟨g, k, none⟩ = some (.string (toB (W.getD k []))) := (HB.out.cell (p := ⟨g, k, none⟩) hg).trans (HT.out.cell hlt)
      obtain ⟨d1, d2, d3⟩ := HL.out.2 k hlt
      have HF := Lib.hid (fun V hV => frees_i (W.getD k []) st sb V d1 d2 d3 HL.out.1 hV)
      have cs := (HB.out.cell (p := ⟨sb, 0, none⟩) hsb).trans HCC.out
      have HX := Lib.hid (show ∀ b, okL st (W.getD k []) = b → okL st (W.getD k []) = b from fun _ h => h)
      cases hq : okL st (W.getD k [])
      · rw [hq] at HF
        have HQ := Lib.hid hq
        clear hq HX d1 d2 d3
        generalize toB (W.getD k []) = s at *
        go_wp2_with fail
        refine (HF.out _ cs).mono ?_
        rintro e w2 ⟨rfl, hb2⟩
        have HB2 := Lib.hid (HB.out.trans (hb2.mono zz))
        clear hb2
        go_wp2
        go_ret
        exact ⟨.inr ⟨k, hlt, rfl, HQ.out, HA.out⟩, HB2.out⟩
      · rw [hq] at HF
        have HQ := Lib.hid (show ∀ j, j < k + 1 → okL st (W.getD j []) = true from fun j hj => by
          by_cases e : j = k
          · rw [e]; exact hq
          · exact HA.out j (by omega))
        clear hq HX d1 d2 d3
        generalize toB (W.getD k []) = s at *
        go_wp2_with fail
        refine (HF.out _ cs).mono ?_
        rintro e w2 ⟨rfl, hb2⟩
        have HB2 := Lib.hid (HB.out.trans (hb2.mono zz))
        clear hb2
        go_wp2
        go_roundw
        case rel => exact ⟨k + 1, by omega, by go_num, HQ, HB2⟩
        case measure => simp [intOf]; omega
    · obtain rfl : k = W.length := by omega
      go_wp2
      go_ret
      exact ⟨.inl ⟨rfl, HA.out⟩, HB.out⟩

theorem OwnV.past {w : World} {g n i : Nat} {E : TypeId} {V : Nat → Value} (h : OwnV w g E n V) (hi : n ≤ i) (v : Value) : OwnV (w.setCell ⟨g, i, none⟩ v) g E n V := by
  obtain ⟨c, hb, hn, hc⟩ := h
  refine ⟨c.setIfInBounds i v, ?_, by simpa using hn, fun j hj => ?_⟩
  · simp [World.setCell, Array.getElem?_modify, hb]
  · rw [Array.getElem?_setIfInBounds, if_neg (by omega)]
    exact hc j hj
theorem OwnV.pasts {g n : Nat} {E : TypeId} {V : Nat → Value} : ∀ (vs : List Value) {w : World} {i : Nat}, OwnV w g E n V → n ≤ i → OwnV (w.setCells g i vs) g E n V
  | [], _, _, h, _ => h
  | v :: vs, _, _, h, hi => OwnV.pasts vs (OwnV.past h hi v) (by omega)
theorem OwnV.le_ {w : World} {g n m : Nat} {E : TypeId} {V : Nat → Value} (h : OwnV w g E n V) (hm : m ≤ n) : OwnV w g E m V := by
  obtain ⟨c, hb, hn, hc⟩ := h
  exact ⟨c, hb, by omega, fun i hi => hc i (by omega)⟩
/-- the first one that goes -/
theorem lck_first {st i : Nat} {W : List (List Bool)} (hi : i < W.length) (ho : okL st (W.getD i []) = false) (ha : ∀ j, j < i → okL st (W.getD j []) = true) : (lckTo st W (i + 1)).length = i ∧ ∀ t, t < i → (lckTo st W (i + 1)).getD t [] = W.getD t [] := by
  have key : ∀ k, k ≤ i → lckTo st W k = W.take k := by
    intro k
    induction k with
    | zero => intro _; rfl
    | succ k ih => intro hk; rw [lck_yes (by omega) (ha k (by omega)), ih (by omega), take_succ' (by omega)]
  rw [lck_no hi ho, key i (Nat.le_refl _)]
  refine ⟨by rw [List.length_take]; omega, fun t ht => ?_⟩
  rw [List.getD_eq_getElem?_getD, List.getElem?_take_of_lt ht, ← List.getD_eq_getElem?_getD]
theorem lck_same {st : Nat} {W : List (List Bool)} (ha : ∀ j, j < W.length → okL st (W.getD j []) = true) : lckL st W = W := by
  unfold lckL
  rw [List.filter_eq_self]
  intro l hl
  obtain ⟨j, hj, e⟩ := List.getElem_of_mem hl
  have := ha j hj
  rw [List.getD_eq_getElem?_getD, List.getElem?_eq_getElem hj] at this
  simp only [Option.getD_some] at this
  rw [← e]; exact this
theorem getDT_snoc {l : List (List Bool)} {x : List Bool} {t : Nat} (h : t ≤ l.length) : (l ++ [x]).getD t [] = if t = l.length then x else l.getD t [] := by
  by_cases e : t = l.length
  · rw [if_pos e, e, List.getD_eq_getElem?_getD, List.getElem?_append_right (Nat.le_refl _)]; simp
  · rw [if_neg e, List.getD_eq_getElem?_getD, List.getElem?_append_left (by omega), ← List.getD_eq_getElem?_getD]

set_option maxHeartbeats 8000000 in
theorem deleteT_i (W : List (List Bool)) (g c sb st : Nat) (w : World) (hn : W.length ≤ 256) (hnc : W.length ≤ c) (hL : LenAt W st) (hT : TxAt w g W.length (fun j => W.getD j [])) (hc : w.cell? ⟨sb, 0, none⟩ = some (.int .i64 (st : Int))) (hsb : sb < g) (hcm : c ≤ maxLen) :
    Calls Try.prog 74 #[.slice (some ⟨g, 0, none⟩) W.length c, (.func (.func 73) #[] #[.pointer (some ⟨sb, 0, none⟩)])] w fun e w' => e = .returned (.slice (some ⟨g, 0, none⟩) (lckL st W).length c) ∧ (lckL st W).length ≤ c ∧ TxAt w' g (lckL st W).length (fun j => (lckL st W).getD j []) ∧ Below g w w' := by
  have hg := hT.lt
  have HIX := Lib.hid (indexT_i W g c sb st w hn hnc hL hT hc (by omega))
  have HL := Lib.hid hL
  have HT := Lib.hid hT
  have HCC := Lib.hid hc
  have HALL := Lib.hid (lck_all st W)
  clear hL hT hc
  go_enter Try.func74, Try.ntmps74
  go_wp2_with fail
  refine (HIX.out).mono ?_
  rintro e w1 ⟨hcase, hb1⟩
  have HB1 := Lib.hid (hb1.mono (Nat.le_of_lt hg))
  have HT1 := Lib.hid (show TxAt w1 g W.length (fun j => W.getD j []) from HT.out.below hb1 hg)
  have z1 := hb1.size
  clear hb1 HIX HT
  rcases hcase with ⟨rfl, hall⟩ | ⟨i, hi, rfl, hqi, hall⟩
  · have HS := Lib.hid (lck_same hall)
    clear hall
    go_wp2
    go_ret
    refine ⟨by rw [HS.out]; rfl, by rw [HS.out]; exact hnc, ?_, HB1.out⟩
    rw [HS.out]
    exact HT1.out
  · have hne1 : ((i : Int) == -1) = false := beq_false_of_ne (by omega)
    obtain ⟨f1, f2⟩ := lck_first hi hqi hall
    have F1 := Lib.hid f1
    have F2 := Lib.hid f2
    clear hall hqi f1 f2
    go_wp2_with fail
    go_loopw [5, 6] (fun a d wr => ∃ (j : Nat) (X : Nat → List Bool), j ≤ W.length ∧ i < j ∧ d = .int .i64 (j : Int) ∧ a = .int .i64 (((lckTo st W j).length : Nat) : Int) ∧ (lckTo st W j).length < j ∧ Hid (TxAt wr g W.length X) ∧ Hid (∀ t, t < (lckTo st W j).length → X t = (lckTo st W j).getD t []) ∧ Hid (∀ t, j ≤ t → X t = W.getD t []) ∧ Hid (Below g w wr)) (fun _ d _ => W.length - (intOf d).toNat)
    case atStart => exact ⟨i + 1, fun j => W.getD j [], by omega, by omega, by go_num, by rw [F1.out], by rw [F1.out]; omega, HT1, Lib.hid (fun t ht => by rw [F1.out] at ht; exact (F2.out t ht).symm), Lib.hid (fun t _ => rfl), HB1⟩
    case round =>
      clear HT1 HB1 F1 F2
      obtain ⟨j, X, hj, hij, rfl, rfl, hlj, hown, hX1, hX2, HB⟩ := hrel
      have zz := HB.out.size
      by_cases hlt : j < W.length
      · have hlt' : (j : Int) < (W.length : Int) := by omega
        have hj0 : (0 : Int) ≤ (j : Int) := by omega
        have cj : wr.cell? ⟨g, j, none⟩ = some (.string (toB (X j))) := hown.out.cell hlt
        rw [hX2.out j (Nat.le_refl _)] at cj
        have cs := (HB.out.cell (p := ⟨sb, 0, none⟩) hsb).trans HCC.out
        obtain ⟨d1, d2, d3⟩ := HL.out.2 j hlt
        have HF := Lib.hid (frees_i (W.getD j []) st sb wr d1 d2 d3 HL.out.1 cs)
        have hgw := OwnV.lt hown.out
        clear cs d1 d2 d3
        cases hqj : okL st (W.getD j [])
        · rw [hqj] at HF
          have HN := Lib.hid (lck_no hlt hqj)
          clear hqj
          generalize toB (W.getD j []) = s at *
          go_wp2_with fail
          refine (HF.out).mono ?_
          rintro e w2 ⟨rfl, hb2⟩
          have HT2 := Lib.hid (show TxAt w2 g W.length X from OwnV.below hown.out hb2 hgw)
          have HB2 := Lib.hid (HB.out.trans (hb2.mono (Nat.le_of_lt hgw)))
          clear hb2
          go_wp2
          go_roundw
          case rel => exact ⟨j + 1, X, by omega, by omega, by go_num, by rw [HN.out], by rw [HN.out]; omega, HT2, Lib.hid (fun t ht => by rw [HN.out] at ht ⊢; exact hX1.out t ht), Lib.hid (fun t ht => hX2.out t (by omega)), HB2⟩
          case measure => simp [intOf]; omega
        · rw [hqj] at HF
          have HN := Lib.hid (lck_yes hlt hqj)
          clear hqj
          obtain ⟨N, hN⟩ : ∃ N, N = (lckTo st W j).length := ⟨_, rfl⟩
          have HLL := Lib.hid hN
          rw [← hN] at hlj ⊢
          clear hN
          have hLn : N < W.length := by omega
          have hL' : (N : Int) < (W.length : Int) := by omega
          have hL0 : (0 : Int) ≤ (N : Int) := by omega
          have HTXJ := Lib.hid (show ∀ w5, TxAt w5 g W.length X → TxAt (w5.setCell ⟨g, N, none⟩ (.string (toB (W.getD j [])))) g W.length (fun t => if t = N then W.getD j [] else X t) from fun w5 h5 => (OwnV.set h5 N (.string (toB (W.getD j [])))).congr fun t _ => by
            show (if t = N then Value.string (toB (W.getD j [])) else Value.string (toB (X t))) = Value.string (toB (if t = N then W.getD j [] else X t))
            split <;> rfl)
          generalize hx : toB (W.getD j []) = s at *
          clear hx
          go_wp2_with fail
          refine (HF.out).mono ?_
          rintro e w2 ⟨rfl, hb2⟩
          have HT2 := Lib.hid (show TxAt w2 g W.length X from OwnV.below hown.out hb2 hgw)
          have HB2 := Lib.hid (HB.out.trans (hb2.mono (Nat.le_of_lt hgw)))
          have cN : w2.cell? ⟨g, N, none⟩ = some (.string (toB (X N))) := HT2.out.cell hLn
          have fN := OwnV.frozen HT2.out N
          generalize toB (X N) = xN at *
          clear hb2 cj
          go_wp2
          go_roundw
          case rel =>
            have hl2 : (lckTo st W (j + 1)).length = N + 1 := by rw [HN.out, List.length_append, ← HLL.out]; rfl
            refine ⟨j + 1, fun t => if t = N then W.getD j [] else X t, by omega, by omega, by go_num, by rw [hl2]; go_num, by rw [hl2]; omega, Lib.hid (HTXJ.out _ HT2.out), Lib.hid (fun t ht => ?_), Lib.hid (fun t ht => ?_), Lib.hid (HB2.out.setCell (Nat.le_refl g) _)⟩
            · rw [hl2] at ht
              rw [HN.out, getDT_snoc (by rw [← HLL.out]; omega), ← HLL.out]
              show (if t = N then W.getD j [] else X t) = _
              by_cases e0 : t = N
              · rw [if_pos e0, if_pos e0]
              · rw [if_neg e0, if_neg e0]
                exact hX1.out t (by rw [← HLL.out]; omega)
            · show (if t = N then W.getD j [] else X t) = _
              rw [if_neg (by omega)]
              exact hX2.out t (by omega)
          case measure => simp [intOf]; omega
      · obtain rfl : j = W.length := by omega
        have HKE := Lib.hid (show lckTo st W W.length = lckL st W from HALL.out)
        rw [HKE.out] at hX1 hlj ⊢
        obtain ⟨N, hN⟩ : ∃ N, N = (lckL st W).length := ⟨_, rfl⟩
        have HLL := Lib.hid hN
        rw [← hN] at hlj ⊢
        clear hN
        have hL' : (N : Int) < (W.length : Int) := by omega
        have hLj : ¬ (W.length : Int) < (N : Int) := by omega
        have hL0 : (0 : Int) ≤ (N : Int) := by omega
        have hLc : (N : Int) ≤ (c : Int) := by omega
        have hLe : ¬ c = N := by omega
        have hLe2 : ¬ N = c := by omega
        have hcl : ∀ ty, (Builtin.clear_ #[39] ty #[.slice (some ⟨g, N, none⟩) (W.length - N) (c - N)]).run Try.prog wr = .ok (.tuple #[]) (wr.setCells g N (List.replicate (W.length - N) (.string ByteArray.empty))) := fun ty =>
          Lib.run_clear_slice wr 39 9 ty (.string ByteArray.empty) Try.underlying39 Try.zeroValue9 rfl rfl g N (W.length - N) (c - N) (by omega) (fun t ht => by rw [OwnV.cell hown.out (j := N + t) (by omega)]; rfl) (fun t ht => OwnV.frozen hown.out _)
        have HOL := Lib.hid (show TxAt (wr.setCells g N (List.replicate (W.length - N) (.string ByteArray.empty))) g N (fun j => (lckL st W).getD j []) from (OwnV.pasts (List.replicate (W.length - N) (.string ByteArray.empty)) (i := N) (OwnV.le_ hown.out (m := N) (by omega)) (Nat.le_refl _)).congr fun t ht => by rw [hX1.out t (by rw [← HLL.out]; exact ht)])
        have HWL := Lib.hid (below_cells (i := N) (Nat.le_refl g) (List.replicate (W.length - N) (.string ByteArray.empty)) HB.out)
        go_wp2
        go_ret
        exact ⟨by rw [← HLL.out]; rfl, by rw [← HLL.out]; omega, by rw [← HLL.out]; exact HOL.out, HWL.out⟩

theorem listW_pos {n : Nat} (h1 : 1 ≤ n) (h8 : n ≤ 8) : 0 < (listW n).length := by
  obtain rfl | rfl | rfl | rfl | rfl | rfl | rfl | rfl : n = 1 ∨ n = 2 ∨ n = 3 ∨ n = 4 ∨ n = 5 ∨ n = 6 ∨ n = 7 ∨ n = 8 := by omega
  all_goals decide +kernel
set_option maxHeartbeats 2000000 in
theorem locked_i_no (a b : Int) (w : World) (hv : lkB a b = false) :
    Calls Try.prog 38 #[.int .i64 a, .int .i64 b] w (TextsC w [] 2) := by
  unfold lkB at hv
  cases h1 : inB a 1 8
  · have HW := Lib.hid (fun W => words_i_no a W h1)
    clear hv h1
    go_enter Try.func38, Try.ntmps38
    go_wp2_with fail
    refine (HW.out _).mono ?_
    rintro e w1 ⟨A, c, rfl, k1, k2, hrow, hb1⟩
    have g1 : Below w.heap.size w w1 := Below.trans (by go_grown) (hb1.mono (by first | (simp; done) | (simp; omega)))
    clear hb1 hrow
    simp only [List.length_nil]
    go_wp2
    go_returns
    exact textsC_no g1
  · rw [h1] at hv
    have hb : inB b (a + 2) 40 = false := by simpa using hv
    have ga := inB_of h1
    obtain ⟨n, rfl⟩ : ∃ n : Nat, a = (n : Int) := ⟨a.toNat, by omega⟩
    have HW := Lib.hid (fun W => words_i n W (by omega) (by omega))
    have HE := Lib.hid (fun W => enough_i b (n : Int) W (by omega) (by omega))
    rw [hb] at HE
    clear hv h1 hb
    go_enter Try.func38, Try.ntmps38
    go_wp2_with fail
    refine (HW.out _).mono ?_
    rintro e w1 ⟨A, c, rfl, k1, k2, hrow, hb1⟩
    have g1 : Below w.heap.size w w1 := Below.trans (by go_grown) (hb1.mono (by first | (simp; done) | (simp; omega)))
    have cb : w1.cell? ⟨w.heap.size, 0, none⟩ = some (.int .i64 b) := ((bcell hb1).1 _ _ (by simp)).trans (by go_simp)
    clear hb1 hrow
    go_wp2_with (go_at_call 72; refine (HE.out _).mono ?_; rintro e w' ⟨rfl, rfl⟩)
    go_returns
    exact textsC_no g1

set_option maxHeartbeats 2000000 in
theorem locked_i (n st : Nat) (w : World) (n1 : 1 ≤ n) (n8 : n ≤ 8) (h2 : n + 2 ≤ st) (hst : st ≤ 40) :
    Calls Try.prog 38 #[.int .i64 (n : Int), .int .i64 (st : Int)] w (TextsC w (lckL st (listW n)) 0) := by
  have HW := Lib.hid (fun W => words_i n W n1 n8)
  have HE := Lib.hid (fun W => enough_i (st : Int) (n : Int) W (by omega) (by omega))
  rw [inB_yes (by omega) (by omega)] at HE
  have hfew := listW_few n8
  have hpos := listW_pos n1 n8
  have HLA := Lib.hid (show LenAt (listW n) st from ⟨hst, fun j hj => by have := listW_at n1 n8 hj; omega⟩)
  generalize listW n = L at *
  go_enter Try.func38, Try.ntmps38
  go_wp2_with fail
  refine (HW.out _).mono ?_
  rintro e w1 ⟨A, c, rfl, k1, k2, hrow, hb1⟩
  have g1 : Below w.heap.size w w1 := Below.trans (by go_grown) (hb1.mono (by first | (simp; done) | (simp; omega)))
  have cb : w1.cell? ⟨w.heap.size, 0, none⟩ = some (.int .i64 (st : Int)) := ((bcell hb1).1 _ _ (by simp)).trans (by go_simp)
  obtain ⟨g, rfl, gl, gh, ho⟩ := hrow hpos
  have hsg : w.heap.size < g := by simp at gl; omega
  have HD := Lib.hid (deleteT_i L g c w.heap.size st w1 hfew k1 HLA.out ho cb hsg k2)
  have z1 := g1.size
  clear hb1 hrow ho gl
  go_wp2_with (go_at_call 72; refine (HE.out _).mono ?_; rintro e w' ⟨rfl, rfl⟩)
  refine (HD.out).mono ?_
  rintro e w2 ⟨rfl, kk1, hT, hb2⟩
  have HB2 := Lib.hid (g1.trans (hb2.mono (by omega)))
  have HT2 := Lib.hid hT
  have hlt2 := hT.lt
  clear hb2 hT
  go_wp2
  go_returns
  exact ⟨_, c, rfl, kk1, k2, fun _ => ⟨g, rfl, by omega, hlt2, HT2.out⟩, HB2.out⟩

end Go.Proofs.Ytgfnagkelhbplaa.brd
