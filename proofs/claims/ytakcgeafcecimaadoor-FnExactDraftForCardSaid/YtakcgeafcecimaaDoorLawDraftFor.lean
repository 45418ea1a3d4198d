/-
  For every text and every number, FnExactDraftFor returns true: DraftFor of the program gives the draft and the code of the model, and its answer is memory of its own. The library's variables hold what its text lays there (the card ties them). No other condition.
-/
import Derived.Test.YtakcgeafcecimaaDoorRa
import Derived.Test.YtakcgeafcecimaaDoorQl
import Derived.Test.YtakcgeafcecimaaDoorCloFnExactDraftFor
import Derived.Test.YtakcgeafcecimaaDoorCards
import Derived.Test.YtakcgeafcecimaaDoorTie
import Derived.ShutString
import Derived.ChangeOld
import Derived.Lib.SmallJoins
import Derived.Deep.DeepHandedRow
import Derived.Deep.DeepWitnessRowRef
namespace Go.Proofs.YtakcgeafcecimaaDoor.fnExactDraftFor
open Go.ChangeShapes Go.WideShapes Go.ChangeAt Go.RowKit Go.Joins
open Go.ChangeMaps (open_string shut_string)
open Go.Proofs.YtakcgeafcecimaaDoor.twl Go.Proofs.YtakcgeafcecimaaDoor.wk Go.Proofs.YtakcgeafcecimaaDoor.rod Go.Proofs.YtakcgeafcecimaaDoor.mem Go.Proofs.YtakcgeafcecimaaDoor.nums
set_option linter.unusedVariables false

set_option maxHeartbeats 4000000 in
set_option maxRecDepth 100000 in
theorem core (s : ByteArray) (x : Int) (hs : s.size ≤ 1048576) (l : List Int) (hl : l.length ≤ 1048576) (sr : Int) (code : Int) (w : World) 
    (hspec : Hid (∀  (w : World), Calls Tryd.prog 5 #[.string s, .int .i64 x] w (fun e w' => ∃ A c, e = .returned (.tuple #[.agg #[.slice A l.length c, .int .i64 sr], .int .i64 code]) ∧ l.length ≤ c ∧ c ≤ maxLen ∧ Row w' w.heap.size w'.heap.size A l.length 1 2 (fun j => l.getD j 0) ∧ Below w.heap.size w w')))
    (himpl : Hid (∀ (W : World), Below w.heap.size w W → Calls Tryd.prog 6 #[.string s, .int .i64 x] W (fun e w' => ∃ A c, e = .returned (.tuple #[.agg #[.slice A l.length c, .int .i64 sr], .int .i64 code]) ∧ l.length ≤ c ∧ c ≤ maxLen ∧ Row w' W.heap.size w'.heap.size A l.length 1 2 (fun j => l.getD j 0) ∧ Below W.heap.size W w'))) :
    Calls Tryd.prog 3 #[.string s, .int .i64 x] w fun e w' => e = .returned (.bool true) ∧ Below w.heap.size w w' := by
  have hml : l.length ≤ maxLen := by unfold maxLen; omega
  generalize hL : l.length = L at *
  have HL := Lib.hid hL
  clear hL
  have b0 : Below w.heap.size w w := Below.refl _ _
  have hqs : ¬ (1048576 : Int) < (s.size : Int) := by omega
  go_enter Tryd.func3, Tryd.ntmps3
  go_wp2_with fail
  refine (hspec.out  _ ).mono ?_
  rintro e w1 ⟨Aw1, cw1, he1, kc1, mc1, r1, hb1⟩
  try rw [HL.out] at he1 kc1 r1
  subst he1
  have z1 := hb1.size
  try simp at z1
  have s1 : Below w.heap.size w w1 := Below.trans (by go_grown) (hb1.mono (by first | omega | (simp; done) | (simp; omega)))
  have b1 : Below w.heap.size w w1 := b0.trans (s1.mono (by omega))
  have R1_1 := Lib.hid (r1.wide (lo' := w.heap.size) (by first | omega | (simp; done) | (simp; omega)) (Nat.le_refl _))
  clear r1
  clear hb1 s1
  go_wp2_with fail
  refine (himpl.out _ (b1.trans ((by go_grown : Below w1.heap.size w1 _).mono (by omega)))).mono ?_
  rintro e w2 ⟨Aw2, cw2, he2, kc2, mc2, r2, hb2⟩
  try rw [HL.out] at he2 kc2 r2
  subst he2
  have z2 := hb2.size
  try simp at z2
  have s2 : Below w1.heap.size w1 w2 := Below.trans (by go_grown) (hb2.mono (by first | omega | (simp; done) | (simp; omega)))
  have b2 : Below w.heap.size w w2 := b1.trans (s2.mono (by omega))
  have p1 : w2.cell? ⟨w1.heap.size, 0, none⟩ = some (.slice Aw1 L cw1) := by rw [(bcell hb2).1 _ _ (by first | omega | (simp; done) | (simp; omega))]; go_simp
  have p2 : w2.cell? ⟨w1.heap.size, 1, none⟩ = some (.int .i64 sr) := by rw [(bcell hb2).1 _ _ (by first | omega | (simp; done) | (simp; omega))]; go_simp
  have y_w1 : w1.heap.size < w2.heap.size := by omega
  have R1_2 := Lib.hid (R1_1.out.below s2 (by omega))
  clear R1_1
  have R2_2 := Lib.hid (r2.wide (lo' := w1.heap.size + 1) (by first | omega | (simp; done) | (simp; omega)) (Nat.le_refl _))
  clear r2
  clear hb2 s2
  go_wp2_with fail
  refine (eqTwill_same Aw2 Aw1 L cw2 cw1 (fun j => l.getD j 0) sr _ hml (R2_2.out.sl.below (K := w2.heap.size) (by go_grown) (Nat.le_refl _)) (R1_2.out.sl.below (K := w2.heap.size) (by go_grown) (Nat.le_refl _))).mono ?_
  rintro e w3 ⟨rfl, hb3⟩
  have z3 := hb3.size
  try simp at z3
  have s3 : Below w2.heap.size w2 w3 := Below.trans (by go_grown) (hb3.mono (by first | omega | (simp; done) | (simp; omega)))
  have b3 : Below w.heap.size w w3 := b2.trans (s3.mono (by omega))
  replace p1 : w3.cell? ⟨w1.heap.size, 0, none⟩ = some (.slice Aw1 L cw1) := (s3.cell (p := ⟨w1.heap.size, 0, none⟩) (show w1.heap.size < w2.heap.size by omega)).trans p1
  replace p2 : w3.cell? ⟨w1.heap.size, 1, none⟩ = some (.int .i64 sr) := (s3.cell (p := ⟨w1.heap.size, 1, none⟩) (show w1.heap.size < w2.heap.size by omega)).trans p2
  have p3 : w3.cell? ⟨w2.heap.size, 0, none⟩ = some (.slice Aw2 L cw2) := by rw [(bcell hb3).1 _ _ (by first | omega | (simp; done) | (simp; omega))]; go_simp
  have p4 : w3.cell? ⟨w2.heap.size, 1, none⟩ = some (.int .i64 sr) := by rw [(bcell hb3).1 _ _ (by first | omega | (simp; done) | (simp; omega))]; go_simp
  replace y_w1 : w1.heap.size < w3.heap.size := by omega
  have y_w2 : w2.heap.size < w3.heap.size := by omega
  have R1_3 := Lib.hid (R1_2.out.below s3 (by omega))
  clear R1_2
  have R2_3 := Lib.hid (R2_2.out.below s3 (by omega))
  clear R2_2
  clear hb3 s3
  go_wp2_with fail
  refine (markTwill_c Aw2 L cw2 _ _ 1 _ sr _ hl (by omega) (by omega) R2_3.out).mono ?_
  rintro e w5 ⟨rfl, r5, hw5⟩
  have z5 := hw5.size
  try simp at z5
  have b5 : Below w.heap.size w w5 := b3.trans (hw5.below (by omega) (by omega))
  replace p1 : w5.cell? ⟨w1.heap.size, 0, none⟩ = some (.slice Aw1 L cw1) := (hw5.cell (b := w1.heap.size) (o := 0) (by omega) (by omega)).trans p1
  replace p2 : w5.cell? ⟨w1.heap.size, 1, none⟩ = some (.int .i64 sr) := (hw5.cell (b := w1.heap.size) (o := 1) (by omega) (by omega)).trans p2
  replace p3 : w5.cell? ⟨w2.heap.size, 0, none⟩ = some (.slice Aw2 L cw2) := (hw5.cell (b := w2.heap.size) (o := 0) (by omega) (by omega)).trans p3
  replace p4 : w5.cell? ⟨w2.heap.size, 1, none⟩ = some (.int .i64 sr) := (hw5.cell (b := w2.heap.size) (o := 1) (by omega) (by omega)).trans p4
  replace y_w1 : w1.heap.size < w5.heap.size := by omega
  replace y_w2 : w2.heap.size < w5.heap.size := by omega
  have R1_5 := Lib.hid (R1_3.out.wrote hw5 (by omega))
  clear R1_3
  have R2_5 := Lib.hid r5
  clear r5 hw5 R2_3
  go_wp2_with fail
  refine (heldTwill_c Aw2 L cw2 1 sr _ hl (by omega) (by omega) R2_5.out.sl).mono ?_
  rintro e w6 ⟨rfl, hb6⟩
  have z6 := hb6.size
  try simp at z6
  have s6 : Below w5.heap.size w5 w6 := Below.trans (by go_grown) (hb6.mono (by first | omega | (simp; done) | (simp; omega)))
  have b6 : Below w.heap.size w w6 := b5.trans (s6.mono (by omega))
  replace p1 : w6.cell? ⟨w1.heap.size, 0, none⟩ = some (.slice Aw1 L cw1) := (s6.cell (p := ⟨w1.heap.size, 0, none⟩) (show w1.heap.size < w5.heap.size by omega)).trans p1
  replace p2 : w6.cell? ⟨w1.heap.size, 1, none⟩ = some (.int .i64 sr) := (s6.cell (p := ⟨w1.heap.size, 1, none⟩) (show w1.heap.size < w5.heap.size by omega)).trans p2
  replace p3 : w6.cell? ⟨w2.heap.size, 0, none⟩ = some (.slice Aw2 L cw2) := (s6.cell (p := ⟨w2.heap.size, 0, none⟩) (show w2.heap.size < w5.heap.size by omega)).trans p3
  replace p4 : w6.cell? ⟨w2.heap.size, 1, none⟩ = some (.int .i64 sr) := (s6.cell (p := ⟨w2.heap.size, 1, none⟩) (show w2.heap.size < w5.heap.size by omega)).trans p4
  replace y_w1 : w1.heap.size < w6.heap.size := by omega
  replace y_w2 : w2.heap.size < w6.heap.size := by omega
  have R1_6 := Lib.hid (R1_5.out.below s6 (by omega))
  clear R1_5
  have R2_6 := Lib.hid (R2_5.out.below s6 (by omega))
  clear R2_5
  clear hb6 s6
  go_wp2_with fail
  refine (himpl.out _ (b6.trans ((by go_grown : Below w6.heap.size w6 _).mono (by omega)))).mono ?_
  rintro e w7 ⟨Aw7, cw7, he7, kc7, mc7, r7, hb7⟩
  try rw [HL.out] at he7 kc7 r7
  subst he7
  have z7 := hb7.size
  try simp at z7
  have s7 : Below w6.heap.size w6 w7 := Below.trans (by go_grown) (hb7.mono (by first | omega | (simp; done) | (simp; omega)))
  have b7 : Below w.heap.size w w7 := b6.trans (s7.mono (by omega))
  replace p1 : w7.cell? ⟨w1.heap.size, 0, none⟩ = some (.slice Aw1 L cw1) := (s7.cell (p := ⟨w1.heap.size, 0, none⟩) (show w1.heap.size < w6.heap.size by omega)).trans p1
  replace p2 : w7.cell? ⟨w1.heap.size, 1, none⟩ = some (.int .i64 sr) := (s7.cell (p := ⟨w1.heap.size, 1, none⟩) (show w1.heap.size < w6.heap.size by omega)).trans p2
  replace p3 : w7.cell? ⟨w2.heap.size, 0, none⟩ = some (.slice Aw2 L cw2) := (s7.cell (p := ⟨w2.heap.size, 0, none⟩) (show w2.heap.size < w6.heap.size by omega)).trans p3
  replace p4 : w7.cell? ⟨w2.heap.size, 1, none⟩ = some (.int .i64 sr) := (s7.cell (p := ⟨w2.heap.size, 1, none⟩) (show w2.heap.size < w6.heap.size by omega)).trans p4
  replace y_w1 : w1.heap.size < w7.heap.size := by omega
  replace y_w2 : w2.heap.size < w7.heap.size := by omega
  have R1_7 := Lib.hid (R1_6.out.below s7 (by omega))
  clear R1_6
  have R2_7 := Lib.hid (R2_6.out.below s7 (by omega))
  clear R2_6
  have R3_7 := Lib.hid (r7.wide (lo' := w6.heap.size) (by first | omega | (simp; done) | (simp; omega)) (Nat.le_refl _))
  clear r7
  clear hb7 s7
  go_wp2_with fail
  refine (eqTwill_same Aw7 Aw1 L cw7 cw1 (fun j => l.getD j 0) sr _ hml (R3_7.out.sl.below (K := w7.heap.size) (by go_grown) (Nat.le_refl _)) (R1_7.out.sl.below (K := w7.heap.size) (by go_grown) (Nat.le_refl _))).mono ?_
  rintro e w8 ⟨rfl, hb8⟩
  have z8 := hb8.size
  try simp at z8
  have s8 : Below w7.heap.size w7 w8 := Below.trans (by go_grown) (hb8.mono (by first | omega | (simp; done) | (simp; omega)))
  have b8 : Below w.heap.size w w8 := b7.trans (s8.mono (by omega))
  replace p1 : w8.cell? ⟨w1.heap.size, 0, none⟩ = some (.slice Aw1 L cw1) := (s8.cell (p := ⟨w1.heap.size, 0, none⟩) (show w1.heap.size < w7.heap.size by omega)).trans p1
  replace p2 : w8.cell? ⟨w1.heap.size, 1, none⟩ = some (.int .i64 sr) := (s8.cell (p := ⟨w1.heap.size, 1, none⟩) (show w1.heap.size < w7.heap.size by omega)).trans p2
  replace p3 : w8.cell? ⟨w2.heap.size, 0, none⟩ = some (.slice Aw2 L cw2) := (s8.cell (p := ⟨w2.heap.size, 0, none⟩) (show w2.heap.size < w7.heap.size by omega)).trans p3
  replace p4 : w8.cell? ⟨w2.heap.size, 1, none⟩ = some (.int .i64 sr) := (s8.cell (p := ⟨w2.heap.size, 1, none⟩) (show w2.heap.size < w7.heap.size by omega)).trans p4
  have p5 : w8.cell? ⟨w7.heap.size, 0, none⟩ = some (.slice Aw7 L cw7) := by rw [(bcell hb8).1 _ _ (by first | omega | (simp; done) | (simp; omega))]; go_simp
  have p6 : w8.cell? ⟨w7.heap.size, 1, none⟩ = some (.int .i64 sr) := by rw [(bcell hb8).1 _ _ (by first | omega | (simp; done) | (simp; omega))]; go_simp
  replace y_w1 : w1.heap.size < w8.heap.size := by omega
  replace y_w2 : w2.heap.size < w8.heap.size := by omega
  have y_w7 : w7.heap.size < w8.heap.size := by omega
  have R1_8 := Lib.hid (R1_7.out.below s8 (by omega))
  clear R1_7
  have R2_8 := Lib.hid (R2_7.out.below s8 (by omega))
  clear R2_7
  have R3_8 := Lib.hid (R3_7.out.below s8 (by omega))
  clear R3_7
  clear hb8 s8
  go_wp2_with fail
  refine (heldTwill_c Aw2 L cw2 1 sr _ hl (by omega) (by omega) R2_8.out.sl).mono ?_
  rintro e w9 ⟨rfl, hb9⟩
  have z9 := hb9.size
  try simp at z9
  have s9 : Below w8.heap.size w8 w9 := Below.trans (by go_grown) (hb9.mono (by first | omega | (simp; done) | (simp; omega)))
  have b9 : Below w.heap.size w w9 := b8.trans (s9.mono (by omega))
  replace p1 : w9.cell? ⟨w1.heap.size, 0, none⟩ = some (.slice Aw1 L cw1) := (s9.cell (p := ⟨w1.heap.size, 0, none⟩) (show w1.heap.size < w8.heap.size by omega)).trans p1
  replace p2 : w9.cell? ⟨w1.heap.size, 1, none⟩ = some (.int .i64 sr) := (s9.cell (p := ⟨w1.heap.size, 1, none⟩) (show w1.heap.size < w8.heap.size by omega)).trans p2
  replace p3 : w9.cell? ⟨w2.heap.size, 0, none⟩ = some (.slice Aw2 L cw2) := (s9.cell (p := ⟨w2.heap.size, 0, none⟩) (show w2.heap.size < w8.heap.size by omega)).trans p3
  replace p4 : w9.cell? ⟨w2.heap.size, 1, none⟩ = some (.int .i64 sr) := (s9.cell (p := ⟨w2.heap.size, 1, none⟩) (show w2.heap.size < w8.heap.size by omega)).trans p4
  replace p5 : w9.cell? ⟨w7.heap.size, 0, none⟩ = some (.slice Aw7 L cw7) := (s9.cell (p := ⟨w7.heap.size, 0, none⟩) (show w7.heap.size < w8.heap.size by omega)).trans p5
  replace p6 : w9.cell? ⟨w7.heap.size, 1, none⟩ = some (.int .i64 sr) := (s9.cell (p := ⟨w7.heap.size, 1, none⟩) (show w7.heap.size < w8.heap.size by omega)).trans p6
  replace y_w1 : w1.heap.size < w9.heap.size := by omega
  replace y_w2 : w2.heap.size < w9.heap.size := by omega
  replace y_w7 : w7.heap.size < w9.heap.size := by omega
  have R1_9 := Lib.hid (R1_8.out.below s9 (by omega))
  clear R1_8
  have R2_9 := Lib.hid (R2_8.out.below s9 (by omega))
  clear R2_8
  have R3_9 := Lib.hid (R3_8.out.below s9 (by omega))
  clear R3_8
  clear hb9 s9
  go_wp2
  go_ret
  exact ⟨rfl, b9⟩

set_option maxHeartbeats 1000000 in
theorem big (s : ByteArray) (x : Int) (w : World) (h : 1048576 < s.size) (hm : s.size ≤ maxLen) :
    Calls Tryd.prog 3 #[.string s, .int .i64 x] w fun e w' => e = .returned (.bool true) ∧ Below w.heap.size w w' := by
  unfold maxLen at hm
  have hq : (1048576 : Int) < (s.size : Int) := by omega
  go_enter Tryd.func3, Tryd.ntmps3
  go_wp2
  go_ret
  exact ⟨rfl, Below.refl _ _⟩

theorem walk (s : ByteArray) (x : Int) (w : World) (wf : s.size ≤ maxLen) (x0 : (Lit.int .i64 x).wf = true) (hL : laidMetH Tryd.prog Rows.fnExactDraftForRow.laid w) (hSh : w.ShapedOpen Tryd.prog) :
    Calls Tryd.prog 3 #[.string s, .int .i64 x] w fun e w' => e = .returned (.bool true) ∧ Below w.heap.size w w' := by
  have HM : MaxAt w := Tryd.laysM143.s1_3 w hSh
  clear hL hSh
  by_cases h : s.size ≤ 1048576
  · obtain ⟨l, st, code, hl, h1, h2⟩ := draft_ways s x
    exact core s x h l (by omega) st code w (fun w => h1 w h) (fun W hb => h2 W h (maxAt_below HM hb))
  · exact big s x w (by omega) wf

theorem own : ownKnob Tryd.prog.godebug = none := by kernel_rfl
theorem laidOut : laidOutB Tryd.prog = true := by kernel_rfl

set_option maxRecDepth 100000 in
theorem contract (H : Type) (enc : TypeId × Value → H) (W : World) (base : Nat) (args : Array Value) (ds gs : List (DataW H)) (before : List MemPlace)
    (hval : ∀ (j : Nat) t v, Tryd.f3.params[j]? = some t → args[j]? = some v → Value.okWide Tryd.prog W .any base t v)
    (hW : DataW.Whole enc Tryd.prog Tryd.f3.params.toList Rows.fnExactDraftForSpec.vars false W args.toList ds gs before) (hL : laidMetH Tryd.prog Rows.fnExactDraftForRow.laid W) (hSh : W.ShapedOpen Tryd.prog) :
    Calls Tryd.prog 3 args W fun e W' => ∃ v, e = .returned v ∧ Rows.fnExactDraftForSpec.post enc Tryd.prog Tryd.f3 false true false false W args v W' := by
  have hW' := hW
  obtain ⟨p, q, hA0, hV, rfl, hfz, hnd⟩ := hW
  have hA : DataW.TrodAll enc Tryd.prog W 0 (fun _ => true) true Tryd.f3.params.toList args.toList ds p := hA0
  rw [Tryd.params3] at hA hval
  obtain ⟨v0, vs0, d0, ds0, p0, q0, hargs, rfl, rfl, h0, r0⟩ := trodAll_cons hA
  obtain ⟨v1, vs1, d1, ds1, p1, q1, hargs1, rfl, rfl, h1, r1⟩ := trodAll_cons r0
  obtain ⟨rfl, rfl, rfl⟩ := trodAll_nil r1
  obtain rfl : args = #[v0, v1] := by cases args; simp_all
  obtain ⟨rfl, rfl⟩ := trodVars_none hV
  have k0 := h0
  have lt0 : ∀ x ∈ p0, x.block < W.heap.size := by obtain ⟨m, hm⟩ := k0; exact DataW.trod_lt m _ _ _ hm
  obtain ⟨s0, rfl, rfl, rfl, w0⟩ := open_string Tryd.underlying9 (hval 0 9 v0 rfl rfl) h0
  have k1 := h1
  have lt1 : ∀ x ∈ p1, x.block < W.heap.size := by obtain ⟨m, hm⟩ := k1; exact DataW.trod_lt m _ _ _ hm
  obtain ⟨a1, rfl, rfl, rfl, w1⟩ := open_int Tryd.underlying2 (hval 1 2 v1 rfl rfl) h1
  clear hA0
  refine (walk s0 a1 W w0 w1 hL hSh).mono fun e W' ⟨he, bel⟩ => ?_
  subst he
  exact ⟨_, rfl, _, _, _, [], _, [], hW', trodAll_mk1 (shut_bool Tryd.underlying4 _), (trodAll_cons_mk (Below.trod laidOut (by kernel_rfl) (of_decide_eq_true (by kernel_rfl)) k0 bel lt0) (trodAll_cons_mk (Below.trod laidOut (by kernel_rfl) (of_decide_eq_true (by kernel_rfl)) k1 bel lt1) trodAll_mk0)), rfl, bel.frame _, fun h => by cases h⟩



set_option maxRecDepth 100000 in
noncomputable def laidWorld (os : Os) : World :=
  { World.holding Tryd.prog os ⟨#[], #[], []⟩ with heap := (((World.holding Tryd.prog os ⟨#[], #[], []⟩).heap.modify 3 fun
      | .cells _ t frozen => .cells #[.int .u8 128, .int .u8 191, .int .u8 160, .int .u8 191, .int .u8 128, .int .u8 159, .int .u8 144, .int .u8 191, .int .u8 128, .int .u8 143, .int .u8 0, .int .u8 0, .int .u8 0, .int .u8 0, .int .u8 0, .int .u8 0, .int .u8 0, .int .u8 0, .int .u8 0, .int .u8 0, .int .u8 0, .int .u8 0, .int .u8 0, .int .u8 0, .int .u8 0, .int .u8 0, .int .u8 0, .int .u8 0, .int .u8 0, .int .u8 0, .int .u8 0, .int .u8 0] t frozen
      | o => o).modify 2 fun
      | .cells _ t frozen => .cells (Go.Pinned.utf8FirstZ.map fun (n : Nat) => Value.int .u8 n).toArray t frozen
      | o => o) }
set_option maxRecDepth 100000 in
theorem laid_met (os : Os) : laidMet Tryd.prog Rows.fnExactDraftForRow.laid ((laidWorld os).forCall (fun _ _ => 0) ⟨#[], #[.string ByteArray.empty, .int .i64 0], []⟩).memory :=
  laidMet_of_run' 8 (by kernel_rfl) (by kernel_rfl)
set_option maxRecDepth 100000 in
theorem reads (os : Os) {H : Type} (enc : TypeId × Value → H) : ∃ places, DataW.whole enc Tryd.prog ((laidWorld os).forCall (fun _ _ => 0) ⟨#[], #[.string ByteArray.empty, .int .i64 0], []⟩).memory Tryd.f3.params.toList Rows.fnExactDraftForSpec.vars false #[.string ByteArray.empty, .int .i64 0].toList 8 = some ([.lit (.string []), .lit (.int .i64 0)], [], places) :=
  ⟨[], by kernel_rfl⟩

set_option maxRecDepth 100000 in
theorem lifted (os : Os) (started : os.Started) (H : Type) (enc : TypeId × Value → H) (F : Stop.Interp) :
    ReturnsInHanded {} Tryd.checked os 3 .any ((OpenSpec.ofChange Rows.fnExactDraftForSpec).preRow enc Tryd.prog Tryd.f3 Rows.fnExactDraftForRow.domain false Rows.fnExactDraftForRow.laid) (((OpenSpec.ofChange Rows.fnExactDraftForSpec).at F).post enc Tryd.prog Tryd.f3 false true false false) := by
  obtain ⟨places, hx⟩ := reads os enc
  refine returnsInHanded_of_row (C := Tryd.checked) (s := OpenSpec.ofChange Rows.fnExactDraftForSpec) own started (by kernel_rfl) Tryd.func3
    (witness_row_at (enc := enc) (C := Tryd.checked) false (laidWorld os) #[.string ByteArray.empty, .int .i64 0] rfl (by kernel_rfl) (by kernel_rfl) (by kernel_rfl)
      (OpenSpec.preRow_of_cond 8 hx (by kernel_rfl) (fun k hk => by cases hk) (by kernel_rfl) (laid_met os))) ?_
  intro W base args ds gs before hval hW _ _ _ hL hSh _
  exact contract H enc W base args ds gs before hval hW hL hSh

theorem said : Rows.FnExactDraftForSaid :=
  OpenClaim.holds_of_cond 3 Tryd.f3 rfl rfl rfl rfl rfl rfl rfl ⟨rfl, rfl, rfl, rfl, rfl⟩ rfl rfl rfl rfl rfl (by kernel_rfl) Tryd.func3 clo.facts_FnExactDraftFor
    (of_decide_eq_true (by kernel_rfl)) (by unfold Func.isWrapper; first | (rw [if_pos (by decide +kernel)]; kernel_rfl) | (rw [if_neg (by decide +kernel)]; exact ⟨rfl, rfl⟩))
    (fun os started H enc _ F => by rw [OpenClaim.pre_eq_preRow]; exact lifted os started H enc F)

theorem plain (f : FuncId) (fn : Func) (hf : Tryd.pinned.checked.prog.funcNamed Rows.fnExactDraftForRow.func = some f) (hfn : Tryd.pinned.checked.prog.funcs[f]? = some fn) :
    false = Tryd.pinned.checked.prog.looks [] ∧ ∀ (j : Nat) t, fn.params[j]? = some t → Tryd.pinned.checked.prog.wantsStandIn t = false := by
  obtain rfl : f = 3 := Option.some.inj ((show Tryd.prog.funcNamed Rows.fnExactDraftForRow.func = some 3 by kernel_rfl).symm.trans hf) |>.symm
  obtain rfl : fn = Tryd.f3 := (Option.some.inj (Tryd.func3.symm.trans hfn)).symm
  refine ⟨by kernel_rfl, fun j t ht => ?_⟩
  rw [Tryd.params3] at ht
  have hall : ∀ t ∈ [9, 2], Tryd.prog.wantsStandIn t = false := by
    intro t h
    simp only [List.mem_cons, List.not_mem_nil, or_false] at h
    rcases h with rfl | rfl <;> kernel_rfl
  exact hall t (by simpa using Array.mem_of_getElem? ht)

theorem card : Rows.FnExactDraftForCardSaid :=
  Claim7.holds_tied_plain_at .later [] _ _ _ _ said (fun _ h => by cases h) (by kernel_rfl) (fun _ h => by cases h) fnExactDraftFor_row_tie rfl ⟨rfl, rfl⟩ (by kernel_rfl) rfl plain (by kernel_rfl)

end Go.Proofs.YtakcgeafcecimaaDoor.fnExactDraftFor
