/-
  ListWords of the program. No condition of a statement lies here.
-/
import Derived.Test.YtgfnagkelhbplaaVh
import Derived.OwnWalk
namespace Go.Proofs.Ytgfnagkelhbplaa.brd
open Go.ChangeShapes Go.WideShapes Go.ChangeAt Go.RowKit Go.Proofs.Ytgfnagkelhbplaa.mem Go.Proofs.Ytgfnagkelhbplaa.rod Go.Proofs.Ytgfnagkelhbplaa.nums
set_option linter.unusedVariables false
set_option linter.unusedSimpArgs false
set_option maxRecDepth 100000

/-- append of a row of the call's own, nil or not, to another one -/
theorem wpList_append_rows {P : Program} (w : World) {ops : Array Oper} {rest : List Oper} {o : Oper} {a : Act} {Q : Exit → Act → World → Prop} (hgd : o.guard = none) (s x : Operand) (t : TypeId)
    (ho : o.op = .call { callee := .builtin .append, args := #[s, x], argTypes := #[t, t] }) (B : Nat) (E : TypeId) (i : TypeInfo) (z : Value) (bytes : Nat) (ht : P.underlying t = some (.slice E)) (hi : P.info? E = some i) (hz : i.zero = some z)
    (hsize : i.size = 1) (hby : i.bytes = bytes) (hzs : z.cells.size = 1) (v : Value) (n : Nat) (xs : List Value) (hs : a.eval s = v) (hown : w.ownsRow B E 1 v n xs)
    (B2 : Nat) (u : Value) (m : Nat) (ys : List Value) (hx : a.eval x = u) (hown2 : w.ownsRow B2 E 1 u m ys) (h1 : ∀ y ∈ ys, y.oneCell' = true)
    (h63 : n + m ≤ maxLen) (hbytes : (n + m) * bytes ≤ 140737488355328) (hbase : B ≤ w.heap.size)
    (h : ∀ v' w', w'.ownsRow B E 1 v' (n + m) (xs ++ ys) → Below B w w' → wpList P ops Q rest (a.put o.dst v') w') : wpList P ops Q (o :: rest) a w := by
  have h2 := hown2
  obtain ⟨hl, hcase⟩ := hown2
  rcases hcase with ⟨rfl, rfl⟩ | ⟨g, cap, cur, rfl, hB, hh, hc, hm, hsz, htk⟩
  · have hys : ys = [] := List.length_eq_zero_iff.1 (by omega)
    subst hys
    have hrun : (Builtin.append_ #[t, t] o.type #[v, .slice none 0 0]).run P w = .ok v w := by
      rcases hown.2 with ⟨rfl, rfl⟩ | ⟨g, cap, cur, rfl, _, _, hnc, _⟩
      · simp [Builtin.append_, run_underlying ht, sizeOf, typeInfo, hi, Builtin.lenOf, Builtin.firstCells]
      · simp [Builtin.append_, run_underlying ht, sizeOf, typeInfo, hi, Builtin.lenOf, Builtin.firstCells, hnc, storeCells]
    refine wpList_plain hgd fun K hK => ?_
    unfold Oper.wp
    simp [execOp, ho, resolve, invoke, builtin, hs, hx, hrun, Result.andThen]
    exact hK _ _ (h v w (by simpa using hown) (Below.refl _ _))
  · refine wpList_append_own _ hgd s x t ho B E i z 1 bytes ht hi hz hsize hby hzs (by decide) v n xs hs hown ⟨g, 0, none⟩ m cap ys hx hl (fun j y hj => World.ownsRow.cells h2 rfl j y hj) h1 h63 hbytes hbase ?_
    intro v' w' hown' hgrow _
    exact h v' w' hown' (Below.grown (Below.refl _ _) hgrow hbase (owns_block hown))

theorem txt_one (W : List (List Bool)) : ∀ y ∈ txtsV W, y.oneCell' = true := fun y hy => by
  unfold txtsV at hy
  obtain ⟨l, _, rfl⟩ := List.mem_map.1 hy
  rfl
theorem txts_len (W : List (List Bool)) : (txtsV W).length = W.length := by unfold txtsV; simp
theorem txts_app (W V : List (List Bool)) : txtsV W ++ txtsV V = txtsV (W ++ V) := by unfold txtsV; simp
theorem fw_zero (l : List Bool) (p : Nat) : fw 0 l p = if l.length % p = 0 then [l] else [] := rfl
theorem fw_f {l : List Bool} {p f : Nat} (h : l.getD (l.length - p) false = false) : fw (f + 1) l p = fw f (l ++ [false]) p ++ fw f (l ++ [true]) (l.length + 1) := by
  rw [fw]; simp only [h]; rfl
theorem fw_t {l : List Bool} {p f : Nat} (h : l.getD (l.length - p) false = true) : fw (f + 1) l p = fw f (l ++ [true]) p := by
  rw [fw]; simp only [h]; rfl
/-- there are few of them -/
theorem fw_len : ∀ (f : Nat) (l : List Bool) (p : Nat), (fw f l p).length ≤ 2 ^ f
  | 0, l, p => by rw [fw_zero]; split <;> simp
  | f + 1, l, p => by
    have h1 := fw_len f (l ++ [false]) p
    have h2 := fw_len f (l ++ [true]) (l.length + 1)
    have h3 := fw_len f (l ++ [true]) p
    have e : 2 ^ (f + 1) = 2 ^ f + 2 ^ f := by rw [Nat.pow_succ]; omega
    cases h : l.getD (l.length - p) false
    · rw [fw_f h, List.length_append, e]; omega
    · rw [fw_t h, e]; omega
theorem owns_one {w : World} {E : TypeId} (v : Value) : (w.alloc (Obj.cells #[v] E)).ownsRow w.heap.size E 1 (.slice (some ⟨w.heap.size, 0, none⟩) 1 1) 1 [v] :=
  ⟨rfl, .inr ⟨w.heap.size, 1, #[v], rfl, Nat.le_refl _, Go.Deep.blk_alloc_new _ _, Nat.le_refl _, by unfold maxLen; omega, rfl, rfl⟩⟩

/-- the answer is a row of texts of the call's own -/
def TextsA (w : World) (W : List (List Bool)) (e : Ending) (w' : World) : Prop := ∃ v, e = .returned v ∧ w'.ownsRow w.heap.size 9 1 v W.length (txtsV W) ∧ Below w.heap.size w w'
set_option maxHeartbeats 1000000 in
theorem fw_i_done (l : List Bool) (p : Nat) (w : World) (l1 : 1 ≤ p) (l2 : p ≤ l.length) (l8 : l.length ≤ 8) :
    Calls Try.prog 70 #[.agg #[.string (toB l), .int .i64 (p : Int)], .int .i64 (l.length : Int)] w (TextsA w (fw 0 l p)) := by
  have hsz := toB_size l
  rw [fw_zero]
  obtain ⟨hm1, hm2⟩ := mod_at (a := l.length) (st := p) (x := (l.length : Int)) rfl
  have hp0 : ((p : Int) == 0) = false := beq_false_of_ne (by omega)
  have HTX := Lib.hid (show Value.string (toB l) = txtV l from rfl)
  by_cases hz : l.length % p = 0
  · rw [if_pos hz]
    rw [hz] at hm1 hm2
    generalize toB l = s at *
    generalize l.length = n at *
    clear hz
    go_enter Try.func70, Try.ntmps70
    go_wp2
    go_ret
    have h1 := owns_one (w := w.alloc (Obj.cells #[Value.string s, Value.int IntKind.i64 (p : Int)] 77)) (E := 9) (Value.string s)
    have e1 : (w.alloc (Obj.cells #[Value.string s, Value.int IntKind.i64 (p : Int)] 77)).heap.size = w.heap.size + 1 := by simp
    rw [e1] at h1
    refine ⟨.slice (some ⟨w.heap.size + 1, 0, none⟩) 1 1, rfl, ?_, by go_grown⟩
    have h2 := owns_lower (B' := w.heap.size) h1 (by omega)
    show World.ownsRow _ _ _ _ _ 1 [txtV l]
    rw [← HTX.out]
    exact h2
  · rw [if_neg hz]
    have hq : (((l.length % p : Nat) : Int) != 0) = true := by simp only [bne_iff_ne]; omega
    have hq2 : (((l.length % p : Nat) : Int) == 0) = false := beq_false_of_ne (by omega)
    have hb := Nat.mod_lt l.length (show 0 < p by omega)
    clear hz
    generalize l.length % p = q at *
    generalize toB l = s at *
    generalize l.length = n at *
    go_enter Try.func70, Try.ntmps70
    go_wp2
    go_ret
    exact ⟨_, rfl, ⟨rfl, .inl ⟨rfl, rfl⟩⟩, by go_grown⟩

/-- an opening in a block of the call's own -/
def OpBlk (w : World) (b : Nat) (s : ByteArray) (p : Int) : Prop := w.heap[b]? = some (Obj.cells #[.string s, .int .i64 p] 77 (0, 0))
theorem OpBlk.cell0 {w : World} {b : Nat} {s : ByteArray} {p : Int} (h : OpBlk w b s p) : w.cell? ⟨b, 0, none⟩ = some (.string s) := by unfold OpBlk at h; simp [World.cell?, h]
theorem OpBlk.cell1 {w : World} {b : Nat} {s : ByteArray} {p : Int} (h : OpBlk w b s p) : w.cell? ⟨b, 1, none⟩ = some (.int .i64 p) := by unfold OpBlk at h; simp [World.cell?, h]
theorem OpBlk.lt {w : World} {b : Nat} {s : ByteArray} {p : Int} (h : OpBlk w b s p) : b < w.heap.size := (Array.getElem?_eq_some_iff.1 h).1
theorem OpBlk.below {w w' : World} {b K : Nat} {s : ByteArray} {p : Int} (h : OpBlk w b s p) (hb : Below K w w') (hK : b < K) : OpBlk w' b s p := (hb.block b hK).trans h
theorem OpBlk.iterAt {w : World} {b c q : Nat} {s t : ByteArray} {p : Int} (h : OpBlk w b s p) (hne : b ≠ c) : OpBlk (w.iterAt c t q) b s p := (Lib.iterAt_other w c b t q hne).trans h
def SBF : ByteArray := ⟨#[98, 102]⟩
theorem enc_b : Utf8.encode 98 = ⟨#[98]⟩ := by kernel_rfl
theorem enc_f : Utf8.encode 102 = ⟨#[102]⟩ := by kernel_rfl
theorem conv_b (W : World) : (convert 21 9 (.int .i32 98)).run Try.prog W = .ok (.string ⟨#[98]⟩) W := by rw [run_convert_int_string W _ _ _ _ (by rw [Try.underlying21]; rfl) Try.underlying9, enc_b]
theorem conv_f (W : World) : (convert 21 9 (.int .i32 102)).run Try.prog W = .ok (.string ⟨#[102]⟩) W := by rw [run_convert_int_string W _ _ _ _ (by rw [Try.underlying21]; rfl) Try.underlying9, enc_f]
theorem next_b {w : World} {b : Nat} (h : w.heap[b]? = some (.stringIter SBF 0)) (ty : TypeId) : (Instr.next (.pointer (some ⟨b, 0, none⟩)) true ty).run Try.prog w = .ok (.tuple #[.bool true, .int .i64 0, .int .i32 98]) (w.iterAt b SBF 1) := Lib.run_next_ascii_at w b SBF 0 ty h (by decide) (by decide)
theorem next_f {w : World} {b : Nat} (h : w.heap[b]? = some (.stringIter SBF 1)) (ty : TypeId) : (Instr.next (.pointer (some ⟨b, 0, none⟩)) true ty).run Try.prog w = .ok (.tuple #[.bool true, .int .i64 1, .int .i32 102]) (w.iterAt b SBF 2) := Lib.run_next_ascii_at w b SBF 1 ty h (by decide) (by decide)
theorem next_e {w : World} {b : Nat} (h : w.heap[b]? = some (.stringIter SBF 2)) (ty : TypeId) : (Instr.next (.pointer (some ⟨b, 0, none⟩)) true ty).run Try.prog w = .ok (.tuple #[.bool false]) w := Lib.run_next_end_at w b SBF 2 ty h (by decide)
/-- what the rounds have listed -/
def fwTo (f : Nat) (l : List Bool) (p : Nat) : Nat → List (List Bool)
  | 0 => []
  | 1 => if l.getD (l.length - p) false then [] else fw f (l ++ [false]) p
  | _ => fw (f + 1) l p
set_option maxHeartbeats 8000000 in
theorem fw_i_step (n f : Nat) (n8 : n ≤ 8) (ih : ∀ (l : List Bool) (p : Nat) (w : World), 1 ≤ p → p ≤ l.length → l.length + f = n → Calls Try.prog 70 #[.agg #[.string (toB l), .int .i64 (p : Int)], .int .i64 (n : Int)] w (TextsA w (fw f l p))) (l : List Bool) (p : Nat) (w : World) (l1 : 1 ≤ p) (l2 : p ≤ l.length) (ln : l.length + (f + 1) = n) :
    Calls Try.prog 70 #[.agg #[.string (toB l), .int .i64 (p : Int)], .int .i64 (n : Int)] w (TextsA w (fw (f + 1) l p)) := by
  obtain ⟨i0, hi0, hz0, hz1, hz2⟩ := info_parts info_text
  have hsz := toB_size l
  have h0 := fun W => ih (l ++ [false]) p W l1 (by simp; omega) (by simp; omega)
  have h1 := fun W => ih (l ++ [true]) p W l1 (by simp; omega) (by simp; omega)
  have h2 := fun W => ih (l ++ [true]) (l.length + 1) W (by omega) (by simp) (by simp; omega)
  rw [← toB_snoc] at h0 h1 h2
  have H0 := Lib.hid h0
  have H1 := Lib.hid h1
  have H2 := Lib.hid h2
  have F0 := Lib.hid (fw_len f (l ++ [false]) p)
  have F1 := Lib.hid (fw_len f (l ++ [true]) p)
  have F2 := Lib.hid (fw_len f (l ++ [true]) (l.length + 1))
  have hpw : 2 ^ f ≤ 256 := by
    calc 2 ^ f ≤ 2 ^ 8 := Nat.pow_le_pow_right (by decide) (by omega)
      _ = 256 := rfl
  have HPW := Lib.hid hpw
  have hlt : l.length - p < (toB l).size := by omega
  have hag := toB_at hlt
  have hln : ¬ (l.length : Int) = (n : Int) := by omega
  have hln2 : ((l.length : Int) == (n : Int)) = false := beq_false_of_ne hln
  have hsub : (l.length : Int) - (p : Int) = ((l.length - p : Nat) : Int) := by omega
  have hidx : ((l.length - p : Nat) : Int) < ((toB l).size : Int) := by omega
  have h97 : (((toB l).size : Nat) : Int) = (l.length : Int) := by omega
  clear h0 h1 h2 ih hpw
  cases hq : l.getD (l.length - p) false
  · rw [hq] at hag
    have FW := Lib.hid (fw_f (f := f) hq)
    have T1 := Lib.hid (show fwTo f l p 1 = fw f (l ++ [false]) p by unfold fwTo; rw [hq]; rfl)
    have FW2 := Lib.hid (show fwTo f l p 2 = fwTo f l p 1 ++ fw f (l ++ [true]) (l.length + 1) by rw [T1.out]; exact fw_f (f := f) hq)
    have L1 := Lib.hid (show (fwTo f l p 1).length ≤ 256 by rw [T1.out]; have := F0.out; have := HPW.out; omega)
    clear hq
    generalize toB l = s at *
    generalize l.length = u at *
    generalize u - p = ix at *
    go_enter Try.func70, Try.ntmps70
    go_wp2_with fail
    try rw [show ((s[ix]'hlt).toNat : Int) = 98 from by rw [hag]; rfl]
    clear hag hidx hlt hsub h97 hln hln2
    go_loopw [6] (fun v wr => ∃ k : Nat, k ≤ 2 ∧ Hid (ItAt w wr (w.heap.size + 1) SBF k) ∧ Hid (OpBlk wr w.heap.size s (p : Int)) ∧ Hid (wr.ownsRow (w.heap.size + 2) 9 1 v (fwTo f l p k).length (txtsV (fwTo f l p k)))) (fun _ wr => 2 - itPos wr (w.heap.size + 1))
    case atStart => exact ⟨0, by omega, Lib.hid (by have := ItAt.start w (w.alloc (Obj.cells #[Value.string s, Value.int IntKind.i64 (p : Int)] 77)) SBF (by go_grown); rw [show (w.alloc (Obj.cells #[Value.string s, Value.int IntKind.i64 (p : Int)] 77)).heap.size = w.heap.size + 1 by simp] at this; exact this), Lib.hid (OpBlk.below (w := w.alloc (Obj.cells #[Value.string s, Value.int IntKind.i64 (p : Int)] 77)) (K := w.heap.size + 1) (Go.Deep.blk_alloc_new _ _) (by unfold World.iter; exact (Below.refl _ _).alloc (by simp) _) (by omega)), Lib.hid ⟨rfl, .inl ⟨rfl, rfl⟩⟩⟩
    case round =>
      obtain ⟨k, hk, HI, HK, HW⟩ := hrel
      obtain rfl | rfl | rfl : k = 0 ∨ k = 1 ∨ k = 2 := by omega
      · have hnx : ∀ ty, (Instr.next (.pointer (some ⟨w.heap.size + 1, 0, none⟩)) true ty).run Try.prog wr = _ := fun ty => next_b HI.out.at_ ty
        have HI2 := Lib.hid (HI.out.next (pos' := 1) (by decide))
        have HW2 := Lib.hid (owns_iterAt HW.out HI.out.at_ 1)
        have HK2 := Lib.hid (HK.out.iterAt (c := w.heap.size + 1) (t := SBF) (q := 1) (by omega))
        have HP := Lib.hid HI.out.pos
        clear HI HW HK
        generalize wr.iterAt (w.heap.size + 1) SBF 1 = W at *
        have p0 := HK2.out.cell0
        have p1 := HK2.out.cell1
        have hcv := conv_b
        have zW := HI2.out.lt
        go_wp2_with fail
        refine (H0.out _).mono ?_
        rintro e w3 ⟨v3, rfl, ho3, hb3⟩
        have zlt : W.heap.size ≤ w3.heap.size := by have := hb3.size; simp at this; omega
        have hb3' : Below W.heap.size W w3 := Below.trans (by go_grown) (hb3.mono (by first | (simp; done) | (simp; omega)))
        have HI3 := Lib.hid (HI2.out.later hb3')
        have HW3 := Lib.hid (owns_belowL HW2.out hb3' (Nat.le_refl _))
        have HK3 := Lib.hid (HK2.out.below hb3' HK2.out.lt)
        have HO3 := Lib.hid ho3
        have zb : w.heap.size + 2 ≤ w3.heap.size := by omega
        clear ho3 hb3 hb3' HI2 HW2 HK2 p0 p1 hcv
        go_wp2_with (at_builtin; refine wpList_append_rows _ rfl _ _ 39 rfl (w.heap.size + 2) 9 i0 (.string ByteArray.empty) 16 Try.underlying39 hi0 hz0 hz1 hz2 rfl _ _ _ rfl HW3.out _ v3 _ _ rfl HO3.out (txt_one _) ?c1 ?c2 zb ?_)
        case c1 => have := F0.out; have := HPW.out; have := L1.out; unfold maxLen; show 0 + _ ≤ _; omega
        case c2 => have := F0.out; have := HPW.out; have := L1.out; show (0 + _) * 16 ≤ _; omega
        intro v5 w5 hown5 hb5
        have HO5 := Lib.hid hown5
        rw [txts_app, ← List.length_append] at HO5
        have HI5 := Lib.hid (HI3.out.later2 hb5 (by omega))
        have HK5 := Lib.hid (HK3.out.below hb5 (by omega))
        clear hown5 hb5 HI3 HW3 HK3
        go_wp2
        go_roundw
        case rel => exact ⟨1, by omega, HI5, HK5, by rw [T1.out]; exact HO5⟩
        case measure => rw [HI5.out.pos, HP.out]; decide
      · have hnx : ∀ ty, (Instr.next (.pointer (some ⟨w.heap.size + 1, 0, none⟩)) true ty).run Try.prog wr = _ := fun ty => next_f HI.out.at_ ty
        have HI2 := Lib.hid (HI.out.next (pos' := 2) (by decide))
        have HW2 := Lib.hid (owns_iterAt HW.out HI.out.at_ 2)
        have HK2 := Lib.hid (HK.out.iterAt (c := w.heap.size + 1) (t := SBF) (q := 2) (by omega))
        have HP := Lib.hid HI.out.pos
        clear HI HW HK
        generalize wr.iterAt (w.heap.size + 1) SBF 2 = W at *
        have p0 := HK2.out.cell0
        have p1 := HK2.out.cell1
        have hcv := conv_f
        have zW := HI2.out.lt
        go_wp2_with fail
        refine (H2.out _).mono ?_
        rintro e w3 ⟨v3, rfl, ho3, hb3⟩
        have zlt : W.heap.size ≤ w3.heap.size := by have := hb3.size; simp at this; omega
        have hb3' : Below W.heap.size W w3 := Below.trans (by go_grown) (hb3.mono (by first | (simp; done) | (simp; omega)))
        have HI3 := Lib.hid (HI2.out.later hb3')
        have HW3 := Lib.hid (owns_belowL HW2.out hb3' (Nat.le_refl _))
        have HK3 := Lib.hid (HK2.out.below hb3' HK2.out.lt)
        have HO3 := Lib.hid ho3
        have zb : w.heap.size + 2 ≤ w3.heap.size := by omega
        clear ho3 hb3 hb3' HI2 HW2 HK2 p0 p1 hcv
        go_wp2_with (at_builtin; refine wpList_append_rows _ rfl _ _ 39 rfl (w.heap.size + 2) 9 i0 (.string ByteArray.empty) 16 Try.underlying39 hi0 hz0 hz1 hz2 rfl _ _ _ rfl HW3.out _ v3 _ _ rfl HO3.out (txt_one _) ?c1 ?c2 zb ?_)
        case c1 => have := F2.out; have := HPW.out; have := L1.out; unfold maxLen; omega
        case c2 => have := F2.out; have := HPW.out; have := L1.out; omega
        intro v5 w5 hown5 hb5
        have HO5 := Lib.hid hown5
        rw [txts_app, ← List.length_append] at HO5
        have HI5 := Lib.hid (HI3.out.later2 hb5 (by omega))
        have HK5 := Lib.hid (HK3.out.below hb5 (by omega))
        clear hown5 hb5 HI3 HW3 HK3
        go_wp2
        go_roundw
        case rel => exact ⟨2, by omega, HI5, HK5, by rw [FW2.out]; exact HO5⟩
        case measure => rw [HI5.out.pos, HP.out]; decide
      · have hnx : ∀ ty, (Instr.next (.pointer (some ⟨w.heap.size + 1, 0, none⟩)) true ty).run Try.prog wr = _ := fun ty => next_e HI.out.at_ ty
        have HB := Lib.hid HI.out.below
        have HW2 := Lib.hid (owns_lower HW.out (show w.heap.size ≤ w.heap.size + 2 by omega))
        clear HI HK HW
        go_wp2
        go_ret
        exact ⟨_, rfl, HW2.out, HB.out⟩
  · rw [hq] at hag
    have FW := Lib.hid (fw_t (f := f) hq)
    have T1 := Lib.hid (show fwTo f l p 1 = [] by unfold fwTo; rw [hq]; rfl)
    have FW2 := Lib.hid (show fwTo f l p 2 = fwTo f l p 1 ++ fw f (l ++ [true]) p by rw [T1.out]; exact fw_t (f := f) hq)
    have L1 := Lib.hid (show (fwTo f l p 1).length ≤ 256 by rw [T1.out]; simp)
    clear hq
    generalize toB l = s at *
    generalize l.length = u at *
    generalize u - p = ix at *
    go_enter Try.func70, Try.ntmps70
    go_wp2_with fail
    try rw [show ((s[ix]'hlt).toNat : Int) = 102 from by rw [hag]; rfl]
    clear hag hidx hlt hsub h97 hln hln2
    go_loopw [6] (fun v wr => ∃ k : Nat, k ≤ 2 ∧ Hid (ItAt w wr (w.heap.size + 1) SBF k) ∧ Hid (OpBlk wr w.heap.size s (p : Int)) ∧ Hid (wr.ownsRow (w.heap.size + 2) 9 1 v (fwTo f l p k).length (txtsV (fwTo f l p k)))) (fun _ wr => 2 - itPos wr (w.heap.size + 1))
    case atStart => exact ⟨0, by omega, Lib.hid (by have := ItAt.start w (w.alloc (Obj.cells #[Value.string s, Value.int IntKind.i64 (p : Int)] 77)) SBF (by go_grown); rw [show (w.alloc (Obj.cells #[Value.string s, Value.int IntKind.i64 (p : Int)] 77)).heap.size = w.heap.size + 1 by simp] at this; exact this), Lib.hid (OpBlk.below (w := w.alloc (Obj.cells #[Value.string s, Value.int IntKind.i64 (p : Int)] 77)) (K := w.heap.size + 1) (Go.Deep.blk_alloc_new _ _) (by unfold World.iter; exact (Below.refl _ _).alloc (by simp) _) (by omega)), Lib.hid ⟨rfl, .inl ⟨rfl, rfl⟩⟩⟩
    case round =>
      obtain ⟨k, hk, HI, HK, HW⟩ := hrel
      obtain rfl | rfl | rfl : k = 0 ∨ k = 1 ∨ k = 2 := by omega
      · have hnx : ∀ ty, (Instr.next (.pointer (some ⟨w.heap.size + 1, 0, none⟩)) true ty).run Try.prog wr = _ := fun ty => next_b HI.out.at_ ty
        have HI2 := Lib.hid (HI.out.next (pos' := 1) (by decide))
        have HW2 := Lib.hid (owns_iterAt HW.out HI.out.at_ 1)
        have HK2 := Lib.hid (HK.out.iterAt (c := w.heap.size + 1) (t := SBF) (q := 1) (by omega))
        have HP := Lib.hid HI.out.pos
        clear HI HW HK
        generalize wr.iterAt (w.heap.size + 1) SBF 1 = W at *
        have p0 := HK2.out.cell0
        have p1 := HK2.out.cell1
        have hcv := conv_b
        have zW := HI2.out.lt
        clear hcv
        go_wp2
        go_roundw
        case rel => exact ⟨1, by omega, HI2, HK2, by rw [T1.out]; exact HW2⟩
        case measure => rw [HI2.out.pos, HP.out]; decide
      · have hnx : ∀ ty, (Instr.next (.pointer (some ⟨w.heap.size + 1, 0, none⟩)) true ty).run Try.prog wr = _ := fun ty => next_f HI.out.at_ ty
        have HI2 := Lib.hid (HI.out.next (pos' := 2) (by decide))
        have HW2 := Lib.hid (owns_iterAt HW.out HI.out.at_ 2)
        have HK2 := Lib.hid (HK.out.iterAt (c := w.heap.size + 1) (t := SBF) (q := 2) (by omega))
        have HP := Lib.hid HI.out.pos
        clear HI HW HK
        generalize wr.iterAt (w.heap.size + 1) SBF 2 = W at *
        have p0 := HK2.out.cell0
        have p1 := HK2.out.cell1
        have hcv := conv_f
        have zW := HI2.out.lt
        go_wp2_with fail
        refine (H1.out _).mono ?_
        rintro e w3 ⟨v3, rfl, ho3, hb3⟩
        have zlt : W.heap.size ≤ w3.heap.size := by have := hb3.size; simp at this; omega
        have hb3' : Below W.heap.size W w3 := Below.trans (by go_grown) (hb3.mono (by first | (simp; done) | (simp; omega)))
        have HI3 := Lib.hid (HI2.out.later hb3')
        have HW3 := Lib.hid (owns_belowL HW2.out hb3' (Nat.le_refl _))
        have HK3 := Lib.hid (HK2.out.below hb3' HK2.out.lt)
        have HO3 := Lib.hid ho3
        have zb : w.heap.size + 2 ≤ w3.heap.size := by omega
        clear ho3 hb3 hb3' HI2 HW2 HK2 p0 p1 hcv
        go_wp2_with (at_builtin; refine wpList_append_rows _ rfl _ _ 39 rfl (w.heap.size + 2) 9 i0 (.string ByteArray.empty) 16 Try.underlying39 hi0 hz0 hz1 hz2 rfl _ _ _ rfl HW3.out _ v3 _ _ rfl HO3.out (txt_one _) ?c1 ?c2 zb ?_)
        case c1 => have := F1.out; have := HPW.out; have := L1.out; unfold maxLen; omega
        case c2 => have := F1.out; have := HPW.out; have := L1.out; omega
        intro v5 w5 hown5 hb5
        have HO5 := Lib.hid hown5
        rw [txts_app, ← List.length_append] at HO5
        have HI5 := Lib.hid (HI3.out.later2 hb5 (by omega))
        have HK5 := Lib.hid (HK3.out.below hb5 (by omega))
        clear hown5 hb5 HI3 HW3 HK3
        go_wp2
        go_roundw
        case rel => exact ⟨2, by omega, HI5, HK5, by rw [FW2.out]; exact HO5⟩
        case measure => rw [HI5.out.pos, HP.out]; decide
      · have hnx : ∀ ty, (Instr.next (.pointer (some ⟨w.heap.size + 1, 0, none⟩)) true ty).run Try.prog wr = _ := fun ty => next_e HI.out.at_ ty
        have HB := Lib.hid HI.out.below
        have HW2 := Lib.hid (owns_lower HW.out (show w.heap.size ≤ w.heap.size + 2 by omega))
        clear HI HK HW
        go_wp2
        go_ret
        exact ⟨_, rfl, HW2.out, HB.out⟩

theorem fw_i (n : Nat) (n8 : n ≤ 8) : ∀ (f : Nat) (l : List Bool) (p : Nat) (w : World), 1 ≤ p → p ≤ l.length → l.length + f = n → Calls Try.prog 70 #[.agg #[.string (toB l), .int .i64 (p : Int)], .int .i64 (n : Int)] w (TextsA w (fw f l p))
  | 0, l, p, w, h1, h2, h3 => by
    obtain rfl : l.length = n := by omega
    exact fw_i_done l p w h1 h2 n8
  | f + 1, l, p, w, h1, h2, h3 => fw_i_step n f n8 (fun l p w => fw_i n n8 f l p w) l p w h1 h2 h3

def lwTo (n : Nat) : Nat → List (List Bool)
  | 0 => []
  | 1 => fw (n - 1) [false] 1
  | _ => listW n
theorem listW_len (n : Nat) : (listW n).length ≤ 2 ^ (n - 1) + 2 ^ (n - 1) := by
  unfold listW
  rw [List.length_append]
  have := fw_len (n - 1) [false] 1
  have := fw_len (n - 1) [true] 1
  omega
theorem listW_few {n : Nat} (h : n ≤ 8) : (listW n).length ≤ 256 := by
  have h1 := listW_len n
  have h2 : 2 ^ (n - 1) ≤ 2 ^ 7 := Nat.pow_le_pow_right (by decide) (by omega)
  have h3 : (2 : Nat) ^ 7 = 128 := rfl
  omega
set_option maxHeartbeats 1000000 in
theorem words_i_no (a : Int) (w : World) (ha : inB a 1 8 = false) :
    Calls Try.prog 33 #[.int .i64 a] w (TextsC w [] 2) := by
  have HI := Lib.hid (fun W => in_i a 1 8 W)
  rw [ha] at HI
  clear ha
  go_enter Try.func33, Try.ntmps33
  go_wp2_with (go_at_call 52; refine (HI.out _).mono ?_; rintro e w' ⟨rfl, rfl⟩)
  go_returns
  exact textsC_no (Below.refl _ _)

set_option maxHeartbeats 4000000 in
theorem words_i (n : Nat) (w : World) (n1 : 1 ≤ n) (n8 : n ≤ 8) :
    Calls Try.prog 33 #[.int .i64 (n : Int)] w (TextsC w (listW n) 0) := by
  obtain ⟨i0, hi0, hz0, hz1, hz2⟩ := info_parts info_text
  have HI9 := Lib.hid (fun W => in_i (n : Int) 1 8 W)
  rw [inB_yes (by omega) (by omega)] at HI9
  have H0 := Lib.hid (fun W => show Calls Try.prog 70 #[.agg #[.string ⟨#[98]⟩, .int .i64 1], .int .i64 (n : Int)] W (TextsA W (fw (n - 1) [false] 1)) from fw_i n n8 (n - 1) [false] 1 W (by omega) (by simp) (by simp; omega))
  have H1 := Lib.hid (fun W => show Calls Try.prog 70 #[.agg #[.string ⟨#[102]⟩, .int .i64 1], .int .i64 (n : Int)] W (TextsA W (fw (n - 1) [true] 1)) from fw_i n n8 (n - 1) [true] 1 W (by omega) (by simp) (by simp; omega))
  have hpw : 2 ^ (n - 1) ≤ 256 := by
    calc 2 ^ (n - 1) ≤ 2 ^ 8 := Nat.pow_le_pow_right (by decide) (by omega)
      _ = 256 := rfl
  have F0 := Lib.hid (Nat.le_trans (fw_len (n - 1) [false] 1) hpw)
  have F1 := Lib.hid (Nat.le_trans (fw_len (n - 1) [true] 1) hpw)
  have T0 := Lib.hid (show lwTo n 1 = lwTo n 0 ++ fw (n - 1) [false] 1 from rfl)
  have T1 := Lib.hid (show lwTo n 2 = lwTo n 1 ++ fw (n - 1) [true] 1 from rfl)
  have L0 := Lib.hid (show (lwTo n 0).length ≤ 256 from by show 0 ≤ 256; omega)
  have L1 := Lib.hid (show (lwTo n 1).length ≤ 256 from F0.out)
  clear hpw
  go_enter Try.func33, Try.ntmps33
  go_wp2_with (go_at_call 52; refine (HI9.out _).mono ?_; rintro e w' ⟨rfl, rfl⟩)
  go_loopw [4] (fun v wr => ∃ k : Nat, k ≤ 2 ∧ Hid (ItAt w wr w.heap.size SBF k) ∧ Hid (wr.ownsRow (w.heap.size + 1) 9 1 v (lwTo n k).length (txtsV (lwTo n k)))) (fun _ wr => 2 - itPos wr w.heap.size)
  case atStart => exact ⟨0, by omega, Lib.hid (ItAt.start w w SBF (Below.refl _ _)), Lib.hid ⟨rfl, .inl ⟨rfl, rfl⟩⟩⟩
  case round =>
    obtain ⟨k, hk, HI, HW⟩ := hrel
    obtain rfl | rfl | rfl : k = 0 ∨ k = 1 ∨ k = 2 := by omega
    · have hnx : ∀ ty, (Instr.next (.pointer (some ⟨w.heap.size, 0, none⟩)) true ty).run Try.prog wr = _ := fun ty => next_b HI.out.at_ ty
      have HI2 := Lib.hid (HI.out.next (pos' := 1) (by decide))
      have HW2 := Lib.hid (owns_iterAt HW.out HI.out.at_ 1)
      have HP := Lib.hid HI.out.pos
      clear HI HW
      generalize wr.iterAt w.heap.size SBF 1 = W at *
      have hcv := conv_b
      have zW := HI2.out.lt
      go_wp2_with fail
      refine (H0.out _).mono ?_
      rintro e w3 ⟨v3, rfl, ho3, hb3⟩
      have HI3 := Lib.hid (HI2.out.later hb3)
      have HW3 := Lib.hid (owns_belowL HW2.out hb3 (Nat.le_refl _))
      have HO3 := Lib.hid ho3
      have zb : w.heap.size + 1 ≤ w3.heap.size := by have := hb3.size; omega
      clear ho3 hb3 HI2 HW2 hcv
      go_wp2_with (at_builtin; refine wpList_append_rows _ rfl _ _ 39 rfl (w.heap.size + 1) 9 i0 (.string ByteArray.empty) 16 Try.underlying39 hi0 hz0 hz1 hz2 rfl _ _ _ rfl HW3.out _ v3 _ _ rfl HO3.out (txt_one _) ?c1 ?c2 zb ?_)
      case c1 => have := F0.out; have := F1.out; have := L0.out; have := L1.out; unfold maxLen; omega
      case c2 => have := F0.out; have := F1.out; have := L0.out; have := L1.out; omega
      intro v5 w5 hown5 hb5
      have HO5 := Lib.hid hown5
      rw [txts_app, ← List.length_append] at HO5
      have HI5 := Lib.hid (HI3.out.later2 hb5 (by omega))
      clear hown5 hb5 HI3 HW3
      go_wp2
      go_roundw
      case rel => exact ⟨1, by omega, HI5, by rw [T0.out]; exact HO5⟩
      case measure => rw [HI5.out.pos, HP.out]; decide
    · have hnx : ∀ ty, (Instr.next (.pointer (some ⟨w.heap.size, 0, none⟩)) true ty).run Try.prog wr = _ := fun ty => next_f HI.out.at_ ty
      have HI2 := Lib.hid (HI.out.next (pos' := 2) (by decide))
      have HW2 := Lib.hid (owns_iterAt HW.out HI.out.at_ 2)
      have HP := Lib.hid HI.out.pos
      clear HI HW
      generalize wr.iterAt w.heap.size SBF 2 = W at *
      have hcv := conv_f
      have zW := HI2.out.lt
      go_wp2_with fail
      refine (H1.out _).mono ?_
      rintro e w3 ⟨v3, rfl, ho3, hb3⟩
      have HI3 := Lib.hid (HI2.out.later hb3)
      have HW3 := Lib.hid (owns_belowL HW2.out hb3 (Nat.le_refl _))
      have HO3 := Lib.hid ho3
      have zb : w.heap.size + 1 ≤ w3.heap.size := by have := hb3.size; omega
      clear ho3 hb3 HI2 HW2 hcv
      go_wp2_with (at_builtin; refine wpList_append_rows _ rfl _ _ 39 rfl (w.heap.size + 1) 9 i0 (.string ByteArray.empty) 16 Try.underlying39 hi0 hz0 hz1 hz2 rfl _ _ _ rfl HW3.out _ v3 _ _ rfl HO3.out (txt_one _) ?c1 ?c2 zb ?_)
      case c1 => have := F0.out; have := F1.out; have := L0.out; have := L1.out; unfold maxLen; omega
      case c2 => have := F0.out; have := F1.out; have := L0.out; have := L1.out; omega
      intro v5 w5 hown5 hb5
      have HO5 := Lib.hid hown5
      rw [txts_app, ← List.length_append] at HO5
      have HI5 := Lib.hid (HI3.out.later2 hb5 (by omega))
      clear hown5 hb5 HI3 HW3
      go_wp2
      go_roundw
      case rel => exact ⟨2, by omega, HI5, by rw [T1.out]; exact HO5⟩
      case measure => rw [HI5.out.pos, HP.out]; decide
    · have hnx : ∀ ty, (Instr.next (.pointer (some ⟨w.heap.size, 0, none⟩)) true ty).run Try.prog wr = _ := fun ty => next_e HI.out.at_ ty
      have HB := Lib.hid HI.out.below
      obtain ⟨A, c, rfl, k1, k2, hrow⟩ := rowT_owns (owns_lower HW.out (show w.heap.size ≤ w.heap.size + 1 by omega))
      have HR := Lib.hid hrow
      clear HI HW hrow
      go_wp2
      go_returns
      exact ⟨A, c, rfl, k1, k2, HR.out, HB.out⟩

end Go.Proofs.Ytgfnagkelhbplaa.brd
