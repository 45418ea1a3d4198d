/-
  Twills: contracts of the period, of RepeatOf and of SameTwill, of the program and of the model. No condition of a statement lies here.
-/
import Derived.Test.YtopiecbldnhihaaDoorQg
import Derived.Test.YtopiecbldnhihaaDoorQc
import Derived.Maps.OwnSet
namespace Go.Proofs.YtopiecbldnhihaaDoor.twl
open Go.ChangeShapes Go.WideShapes Go.ChangeAt Go.RowKit Go.Deep Go.Proofs.YtopiecbldnhihaaDoor.mem Go.Proofs.YtopiecbldnhihaaDoor.rod Go.Proofs.YtopiecbldnhihaaDoor.nums Go.Proofs.YtopiecbldnhihaaDoor.shp Go.Proofs.YtopiecbldnhihaaDoor.wv Go.Proofs.YtopiecbldnhihaaDoor.wk
open Go.MapKept Go.ChangeMaps Go.Maps
set_option linter.unusedVariables false
set_option maxRecDepth 100000

theorem TM.len {w : World} {b : Nat} {L : List ByteArray} (h : TM w b L) (ty : TypeId) : (Builtin.len_ #[76] ty #[.map (some b)]).run Tryd.prog w = .ok (.int .i64 (L.length : Nat)) w := by
  obtain ⟨es, clock, hb, hs⟩ := h.size
  rw [← hs]
  simp [Builtin.len_, run_underlying Tryd.underlying76, MapKept.run_getObj_map hb, goInt, Result.andThen]
theorem wpList_len_tm (w : World) {ops : Array Oper} {rest : List Oper} {o : Oper} {a : Act} {Q : Exit → Act → World → Prop}
    (hg : o.guard = none) (m : Operand) (hop : o.op = Op.call { callee := Callee.builtin Builtin.len, args := #[m], argTypes := #[76] }) (b : Nat) (L : List ByteArray) (n : Nat) (hn : L.length = n)
    (hm : a.eval m = .map (some b)) (hgm : TM w b L) (hK : wpList Tryd.prog ops Q rest (a.put o.dst (.int .i64 (n : Int))) w) :
    wpList Tryd.prog ops Q (o :: rest) a w := by
  subst hn
  refine wpList_plain hg fun K' hK' => ?_
  unfold Oper.wp
  simp [execOp, hop, resolve, invoke, builtin, hm, hgm.len o.type, Result.andThen]
  exact hK' _ _ hK

set_option maxHeartbeats 1000000 in
theorem period_i (s : ByteArray) (P : Nat) (w : World) (h0 : 0 < s.size) (hs : s.size ≤ 12) (hp : Per s P) :
    Calls Tryd.prog 35 #[.string s] w fun e w' => e = .returned (.int .i64 (P : Int)) ∧ Below w.heap.size w w' := by
  have HT := Lib.hid (fun W => turns_i s P W h0 hs hp)
  have hlen : (turnL s P).length = P := by unfold turnL; simp
  clear hp
  go_enter Tryd.func35, Tryd.ntmps35
  go_wp2_with (first
    | (go_at_call 57; refine (HT.out _).mono ?_; rintro e w1 ⟨b, rfl, hbw, htm, hb⟩)
    | (at_len; refine wpList_len_tm _ rfl _ rfl b _ P hlen rfl htm ?_))
  go_ret
  exact ⟨rfl, hb⟩

set_option maxHeartbeats 1000000 in
theorem moves_i (n d : Int) (n0 : 0 ≤ n) (n1 : n ≤ 1000000) (d0 : 1 ≤ d) (d1 : d ≤ 1000000) (w : World) :
    Calls Tryd.prog 37 #[.int .i64 n, .int .i64 d] w fun e w' => e = .returned (.int .i64 (n / gcdI n d)) ∧ Below w.heap.size w w' := by
  have hfd : ∀ w : World, (Instr.field 83 (.agg #[.int .i64 (n / gcdI n d), .int .i64 (d / gcdI n d)]) 0).run Tryd.prog w = .ok (.int .i64 (n / gcdI n d)) w := fun _ => by kernel_rfl
  go_enter Tryd.func37, Tryd.ntmps37
  go_wp2_with (go_at_call 61; refine (lowest_i n d n0 (by omega) d0 (by omega) _).mono ?_; rintro e w1 ⟨rfl, hb⟩)
  go_ret
  exact ⟨rfl, hb⟩

/-! ### RepeatOf -/
set_option maxHeartbeats 1000000 in
theorem repeat_s_no (A : Option Addr) (n c : Nat) (X : Nat → Int) (st : Int) (w : World) (hn : n ≤ maxLen) (hr : Sl w A n 1 X) (hv : twB n X st = false) :
    Calls Tryd.prog 9 #[.agg #[.slice A n c, .int .i64 st]] w fun e w' => e = .returned (.tuple #[.int .i64 0, .int .i64 0, .int .i64 1]) ∧ Below w.heap.size w w' := by
  have HR := Lib.hid hr
  clear hr
  go_enter Tryd.func9, Tryd.ntmps9
  go_wp2_with (go_at_call 31; refine (okT_s A n c w.heap.size X st _ hn (HR.out.below (K := w.heap.size) (by go_grown) (Nat.le_refl _)) (by go_simp) (by go_simp)).mono ?_; rintro e w' ⟨rfl, m, rfl⟩)
  go_returns
  exact ⟨rfl, drewN_below (by go_grown) _⟩

set_option maxHeartbeats 1000000 in
theorem repeat_i_no (A : Option Addr) (n c : Nat) (X : Nat → Int) (st : Int) (w : World) (hn : n ≤ maxLen) (hr : Sl w A n 1 X) (hv : twB n X st = false) :
    Calls Tryd.prog 8 #[.agg #[.slice A n c, .int .i64 st]] w fun e w' => e = .returned (.tuple #[.int .i64 0, .int .i64 0, .int .i64 1]) ∧ Below w.heap.size w w' := by
  have HR := Lib.hid hr
  clear hr
  go_enter Tryd.func8, Tryd.ntmps8
  go_wp2_with (go_at_call 19; refine (twval_i A n c X st _ hn (HR.out.below (K := w.heap.size) (by go_grown) (Nat.le_refl _))).mono ?_; rintro e w' ⟨rfl, hb⟩; have g1 : Below w.heap.size w w' := Below.trans (by go_grown) (hb.mono (by simp)); clear hb)
  go_returns
  exact ⟨rfl, g1⟩

theorem row_size {n : Nat} {X : Nat → Int} {st : Int} (h : Tw n X st) : ((rowB X n).size : Int) = sumN X n := by
  rw [rowB_size, rowL_len h.part]

set_option maxHeartbeats 1000000 in
theorem repeat_s (A : Option Addr) (n c : Nat) (X : Nat → Int) (st : Int) (P : Nat) (w : World) (hr : Sl w A n 1 X) (hv : twB n X st = true) (hp : Per (rowB X n) P) :
    Calls Tryd.prog 9 #[.agg #[.slice A n c, .int .i64 st]] w fun e w' => e = .returned (.tuple #[.int .i64 (P : Int), .int .i64 ((P : Int) / gcdI (P : Int) st), .int .i64 0]) ∧ Below w.heap.size w w' := by
  have T := twB_of hv
  have hz := row_size T
  have h12 := T.n12
  have hw := T.wide
  have s1 := T.st1
  have s2 := T.st2
  have hP := hp.pos
  have hPl := hp.le
  have hn : n ≤ maxLen := by unfold maxLen; omega
  have HR := Lib.hid hr
  have g0 := gcdI_pos (x := (P : Int)) s1
  have g1 := gcdI_le (x := (P : Int)) s1
  have HG := Lib.hid (fun W => gcd_s (P : Int) st (by omega) (by omega) (by omega) (by omega) W)
  generalize gcdI (P : Int) st = G at *
  have d0 : 0 ≤ (P : Int) / G := Int.ediv_nonneg (by omega) (by omega)
  have d1 : (P : Int) / G ≤ (P : Int) := Int.ediv_le_self _ (by omega)
  have hwq := IntWalk.wrap64_in ((P : Int) / G) ⟨by omega, by omega⟩
  have hq : ((G : Int) == 0) = false := beq_false_of_ne (by omega)
  clear hr
  go_enter Tryd.func9, Tryd.ntmps9
  go_wp2_with fail
  refine (okT_s A n c w.heap.size X st _ hn (HR.out.below (K := w.heap.size) (by go_grown) (Nat.le_refl _)) (by go_simp) (by go_simp)).mono ?_
  rintro e w1 ⟨rfl, hd⟩
  have p0 : w1.cell? ⟨w.heap.size, 0, none⟩ = some (.slice A n c) := hd.cell (by go_simp)
  have p1 : w1.cell? ⟨w.heap.size, 1, none⟩ = some (.int .i64 st) := hd.cell (by go_simp)
  have b1 : Below w.heap.size w w1 := by obtain ⟨m, rfl⟩ := hd; exact drewN_below (by go_grown) m
  clear hd
  rw [hv]
  go_wp2_with fail
  refine (row_s A n c w.heap.size X _ h12 T.part (HR.out.below b1 (Nat.le_refl _)) p0).mono ?_
  rintro e w' ⟨rfl, rfl⟩
  go_wp2_with fail
  refine (period_s (rowB X n) P _ (by omega) hp).mono ?_
  rintro e w2 ⟨rfl, hd⟩
  replace p1 := hd.cell p1
  have b2 : Below w.heap.size w w2 := b1.trans ((hd.below).mono b1.size)
  clear hd p0 b1
  go_wp2_with fail
  go_quiet ((go_at_call 39; exact Calls.quiet_of_same ((HG.out _).mono fun _ _ ⟨p, q⟩ => ⟨p, q.symm⟩)))
  go_wp2
  go_returns
  exact ⟨rfl, drewN_below b2 _⟩

set_option maxHeartbeats 1000000 in
theorem repeat_i (A : Option Addr) (n c : Nat) (X : Nat → Int) (st : Int) (P : Nat) (w : World) (hr : Sl w A n 1 X) (hv : twB n X st = true) (hp : Per (rowB X n) P) :
    Calls Tryd.prog 8 #[.agg #[.slice A n c, .int .i64 st]] w fun e w' => e = .returned (.tuple #[.int .i64 (P : Int), .int .i64 ((P : Int) / gcdI (P : Int) st), .int .i64 0]) ∧ Below w.heap.size w w' := by
  have T := twB_of hv
  have hz := row_size T
  have h12 := T.n12
  have hw := T.wide
  have s1 := T.st1
  have s2 := T.st2
  have hP := hp.pos
  have hPl := hp.le
  have hn : n ≤ maxLen := by unfold maxLen; omega
  have HR := Lib.hid hr
  have HG := Lib.hid (fun W => moves_i (P : Int) st (by omega) (by omega) (by omega) (by omega) W)
  generalize (P : Int) / gcdI (P : Int) st = G at *
  clear hr
  go_enter Tryd.func8, Tryd.ntmps8
  go_wp2_with fail
  refine (twval_i A n c X st _ hn (HR.out.below (K := w.heap.size) (by go_grown) (Nat.le_refl _))).mono ?_
  rintro e w1 ⟨rfl, hb⟩
  have z1 := hb.size
  simp at z1
  have p0 : w1.cell? ⟨w.heap.size, 0, none⟩ = some (.slice A n c) := by rw [(bcell hb).1 _ _ (by simp)]; go_simp
  have p1 : w1.cell? ⟨w.heap.size, 1, none⟩ = some (.int .i64 st) := by rw [(bcell hb).1 _ _ (by simp)]; go_simp
  have b1 : Below w.heap.size w w1 := Below.trans (by go_grown) (hb.mono (by simp))
  clear hb
  rw [hv]
  go_wp2_with fail
  refine (row_i A n c X st _ h12 T.part (HR.out.below b1 (Nat.le_refl _))).mono ?_
  rintro e w2 ⟨rfl, hb⟩
  have z2 := hb.size
  replace p1 := (hb.cell (p := ⟨w.heap.size, 1, none⟩) (by show w.heap.size < _; omega)).trans p1
  have b2 : Below w.heap.size w w2 := b1.trans (hb.mono (by omega))
  clear hb b1 p0
  go_wp2_with fail
  refine (period_i (rowB X n) P _ (by omega) (by omega) hp).mono ?_
  rintro e w3 ⟨rfl, hb⟩
  have z3 := hb.size
  replace p1 := (hb.cell (p := ⟨w.heap.size, 1, none⟩) (by show w.heap.size < _; omega)).trans p1
  have b3 : Below w.heap.size w w3 := b2.trans (hb.mono (by omega))
  clear hb b2
  go_wp2_with fail
  refine (HG.out _).mono ?_
  rintro e w4 ⟨rfl, hb⟩
  have b4 : Below w.heap.size w w4 := b3.trans (hb.mono (by omega))
  clear hb b3
  go_wp2
  go_returns
  exact ⟨rfl, b4⟩

/-! ### SameTwill -/
set_option maxHeartbeats 1000000 in
theorem sameTw_s (A1 A2 : Option Addr) (m n c1 c2 : Nat) (Y Z : Nat → Int) (s1 s2 : Int) (w : World) (hm : m ≤ maxLen) (hn : n ≤ maxLen) (h1 : Sl w A1 m 1 Y) (h2 : Sl w A2 n 1 Z) :
    Calls Tryd.prog 17 #[.agg #[.slice A1 m c1, .int .i64 s1], .agg #[.slice A2 n c2, .int .i64 s2]] w fun e w' => e = .returned (.bool (decide (s1 = s2) && sameL m n Y Z)) ∧ Below w.heap.size w w' := by
  have H1 := Lib.hid h1
  have H2 := Lib.hid h2
  clear h1 h2
  by_cases he : s1 = s2
  · have e1 : (s1 == s2) = true := beq_iff_eq.2 he
    rw [decide_eq_true he, Bool.true_and]
    clear he
    go_enter Tryd.func17, Tryd.ntmps17
    go_wp2_with fail
    refine (same_s A1 A2 m n c1 c2 Y Z _ hm hn (H1.out.below (K := w.heap.size) (by go_grown) (Nat.le_refl _)) (H2.out.below (K := w.heap.size) (by go_grown) (Nat.le_refl _))).mono ?_
    rintro e w' ⟨rfl, q, rfl⟩
    go_wp2
    go_ret
    exact ⟨rfl, drewN_below (by go_grown) _⟩
  · have e1 : (s1 == s2) = false := beq_false_of_ne he
    rw [decide_eq_false he, Bool.false_and]
    clear he
    go_enter Tryd.func17, Tryd.ntmps17
    go_wp2
    go_ret
    exact ⟨rfl, by go_grown⟩

set_option maxHeartbeats 1000000 in
theorem sameTw_i (A1 A2 : Option Addr) (m n c1 c2 : Nat) (Y Z : Nat → Int) (s1 s2 : Int) (w : World) (hm : m ≤ maxLen) (hn : n ≤ maxLen) (h1 : Sl w A1 m 1 Y) (h2 : Sl w A2 n 1 Z) :
    Calls Tryd.prog 18 #[.agg #[.slice A1 m c1, .int .i64 s1], .agg #[.slice A2 n c2, .int .i64 s2]] w fun e w' => e = .returned (.bool (decide (s1 = s2) && sameL m n Y Z)) ∧ Below w.heap.size w w' := by
  have H1 := Lib.hid h1
  have H2 := Lib.hid h2
  clear h1 h2
  have hd : (s1 == s2) = decide (s1 = s2) := by rw [Bool.eq_iff_iff, beq_iff_eq, decide_eq_true_eq]
  rw [Bool.and_comm, ← hd]
  clear hd
  have HS := Lib.hid (fun W (hw : Below w.heap.size w W) => same_i A1 A2 m n c1 c2 Y Z W hm hn (H1.out.below hw (Nat.le_refl _)) (H2.out.below hw (Nat.le_refl _)))
  cases hs : sameL m n Y Z
  all_goals
    rw [hs] at HS
    go_enter Tryd.func18, Tryd.ntmps18
    go_wp2_with fail
    refine (HS.out _ (by go_grown)).mono ?_
    rintro e w' ⟨rfl, q, rfl⟩
    go_wp2
    go_ret
    exact ⟨rfl, drewN_below (by go_grown) _⟩

end Go.Proofs.YtopiecbldnhihaaDoor.twl
