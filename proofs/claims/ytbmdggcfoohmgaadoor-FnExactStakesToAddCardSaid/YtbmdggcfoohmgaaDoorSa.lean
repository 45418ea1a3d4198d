/-
  Contracts of StakesToAdd, of the model and of the program.
-/
import Derived.Test.YtbmdggcfoohmgaaDoorSn
namespace Go.Proofs.YtbmdggcfoohmgaaDoor.sn
open Go.ChangeShapes Go.WideShapes Go.ChangeAt Go.RowKit
open Go.Proofs.YtbmdggcfoohmgaaDoor.mem Go.Proofs.YtbmdggcfoohmgaaDoor.rod Go.Proofs.YtbmdggcfoohmgaaDoor.wv Go.Proofs.YtbmdggcfoohmgaaDoor.wk Go.Proofs.YtbmdggcfoohmgaaDoor.rf Go.Proofs.YtbmdggcfoohmgaaDoor.rk
set_option linter.unusedVariables false
attribute [local go_sem] Oper.semAt_some wide_fn wide_depth wideR_fn wideR_depth

/-- how many stakes are to be added, and the code -/
def AddA (f : Nat → Int) (n fl st : Nat) (v code : Int) : Prop :=
  (∃ y, st ≤ y ∧ y ≤ 60 ∧ soundB f n y fl = true ∧ (∀ z, st ≤ z → z < y → soundB f n z fl = false) ∧ v = (y : Int) - (st : Int) ∧ code = 0) ∨ ((∀ y, st ≤ y → y ≤ 60 → soundB f n y fl = false) ∧ v = 0 ∧ code = 3)
theorem AddA.uniq {f : Nat → Int} {n fl st : Nat} {v c v' c' : Int} (h : AddA f n fl st v c) (k : AddA f n fl st v' c') : v = v' ∧ c = c' := by
  rcases h with ⟨y, a1, a2, a3, a4, rfl, rfl⟩ | ⟨a1, rfl, rfl⟩
  · rcases k with ⟨z, b1, b2, b3, b4, rfl, rfl⟩ | ⟨b1, rfl, rfl⟩
    · rcases Nat.lt_trichotomy y z with h | h | h
      · rw [b4 y a1 h] at a3; cases a3
      · subst h; exact ⟨rfl, rfl⟩
      · rw [a4 z b1 h] at b3; cases b3
    · rw [b1 y a1 a2] at a3; cases a3
  · rcases k with ⟨z, b1, b2, b3, b4, rfl, rfl⟩ | ⟨b1, rfl, rfl⟩
    · rw [a1 z b1 b2] at b3; cases b3
    · exact ⟨rfl, rfl⟩
theorem addA_ex (f : Nat → Int) (n fl st : Nat) : ∃ v c, AddA f n fl st v c := by
  by_cases h : ∃ y, st ≤ y ∧ y ≤ 60 ∧ soundB f n y fl = true
  · have least : ∀ d y, y = st + d → st ≤ y → y ≤ 60 → soundB f n y fl = true → ∃ z, st ≤ z ∧ z ≤ 60 ∧ soundB f n z fl = true ∧ ∀ u, st ≤ u → u < z → soundB f n u fl = false := by
      intro d
      induction d using Nat.strongRecOn with
      | _ d ih =>
        intro y e h1 h2 h3
        by_cases hh : ∃ u, st ≤ u ∧ u < y ∧ soundB f n u fl = true
        · obtain ⟨u, u1, u2, u3⟩ := hh
          exact ih (u - st) (by omega) u (by omega) u1 (by omega) u3
        · refine ⟨y, h1, h2, h3, fun u u1 u2 => ?_⟩
          cases hb : soundB f n u fl
          · rfl
          · exact absurd ⟨u, u1, u2, hb⟩ hh
    obtain ⟨y, h1, h2, h3⟩ := h
    obtain ⟨z, z1, z2, z3, z4⟩ := least (y - st) y (by omega) h1 h2 h3
    exact ⟨_, _, .inl ⟨z, z1, z2, z3, z4, rfl, rfl⟩⟩
  · refine ⟨0, 3, .inr ⟨fun y y1 y2 => ?_, rfl, rfl⟩⟩
    cases hb : soundB f n y fl
    · rfl
    · exact absurd ⟨y, y1, y2, hb⟩ h

theorem cell_put {w : World} {b o : Nat} {v : Option Value} (D : Nat) (x : Obj) (hne : b ≠ D) (h : w.cell? ⟨b, o, none⟩ = v) : (w.putObj D x).cell? ⟨b, o, none⟩ = v := by
  rw [← h]
  unfold World.cell?
  rw [World.putObj_heap_other (show b ≠ D from hne)]

set_option maxHeartbeats 8000000 in
set_option maxRecDepth 100000 in
theorem add_i (s : ByteArray) (n fl : Nat) (v code : Int) (w : World) (hst : strokeB s = true) (n3 : 3 ≤ n) (hn : n ≤ 60) (f1 : 1 ≤ fl) (hf : fl ≤ 12) (hA : AddA (byteAt s) s.size fl n v code) :
    Calls Tryd.prog 61 #[.string s, .int .i64 (n : Int), .int .i64 (fl : Int)] w fun e w' => e = .returned (.tuple #[.int .i64 v, .int .i64 code]) ∧ Below w.heap.size w w' := by
  have HS := Lib.hid hst
  have hi : inB (fl : Int) 1 12 = true := inB_yes (by omega) (by omega)
  have HI := Lib.hid hi
  clear hst hi
  refine (callsIn_wide (n := 6)).1 (callsIn_of_wp_marks Tryd.func61 rfl trivial ?_ rfl)
  simp only [Tryd.ntmps61, List.size_toArray, List.length_cons, List.length_nil, Nat.reduceAdd, Nat.reduceSub, Array.replicate_succ, Array.replicate_zero, List.push_toArray, List.append_toArray, List.nil_append, List.cons_append]
  gi_wp2_with (first
    | (gi_at_call 67; refine ((callsIn_wide (n := _)).2 (new_i s n _ HS.out n3 hn)).mono ?_; rintro e w1 ⟨rfl, b1⟩; have z1 := b1.size; obtain ⟨hc1, hf1⟩ := bcell b1; have p0 : w1.cell? ⟨w.heap.size, 0, none⟩ = some (.int .i64 (n : Int)) := (by rw [hc1 _ _ (by simp; omega)]; go_simp); simp only [World.size_alloc] at z1; have lw : w.heap.size < w1.heap.size := by omega)
    | (gi_at_call 71; refine ((callsIn_wide (n := _)).2 (in_i _ _ _ _)).mono ?_; rintro e w' ⟨rfl, rfl⟩; rw [HI.out])
    | (gi_at_call 73; refine ((callsIn_wide (n := _)).2 (sound_c s _ _ _ _)).mono ?_; rintro e w2 ⟨rfl, rfl⟩))
  obtain ⟨WL, hWL⟩ : ∃ W, W = (((((w1.alloc (Obj.cells #[Value.string s, Value.int IntKind.i64 (n : Int)] 68)).alloc (Obj.cells #[Value.string s] 9)).alloc (Obj.cells #[Value.int IntKind.i64 (fl : Int)] 2)).alloc (Obj.cells #[Value.int IntKind.i64 (n : Int)] 2)).alloc (Obj.cells #[Value.int IntKind.i64 60] 2)) := ⟨_, rfl⟩
  rw [← hWL]
  have zL : WL.heap.size = w1.heap.size + 5 := by rw [hWL]; simp
  have bL1 : Below w1.heap.size w1 WL := by rw [hWL]; exact Below.alloc (Below.alloc (Below.alloc (Below.alloc (Below.alloc (Below.refl _ _) (Nat.le_refl _) _) (by simp) _) (by simp; omega) _) (by simp; omega) _) (by simp; omega) _
  have B0 : Boxed WL w.heap.size 2 (.int .i64 (n : Int)) := (bL1.block _ (by omega)).trans ((b1.block _ (by simp; omega)).trans (((Boxed.new w _ _).alloc _).alloc _))
  have B1 : Boxed WL (w.heap.size + 1) 2 (.int .i64 0) := (bL1.block _ (by omega)).trans ((b1.block _ (by simp)).trans (by have := (Boxed.new (w.alloc (.cells #[.int .i64 (n : Int)] 2)) 2 (.int .i64 0)).alloc (.cells #[.int .i64 0] 2); rw [World.size_alloc] at this; exact this))
  have B2 : Boxed WL (w.heap.size + 1 + 1) 2 (.int .i64 0) := (bL1.block _ (by omega)).trans ((b1.block _ (by simp)).trans (by have := Boxed.new ((w.alloc (.cells #[.int .i64 (n : Int)] 2)).alloc (.cells #[.int .i64 0] 2)) 2 (.int .i64 0); rw [World.size_alloc, World.size_alloc] at this; exact this))
  have gL : Below w.heap.size w WL := Below.trans (Below.trans (by go_grown) (b1.mono (by simp; omega))) (bL1.mono (by omega))
  have e1 : Cap (w1.heap.size + 1 + 1 + 1) (w1.heap.size + 1 + 1 + 1 + 1) (w1.heap.size + 1) (w1.heap.size + 1 + 1) s fl n 60 WL := by
    rw [hWL]
    exact ⟨by go_simp, by go_simp, by go_simp, by go_simp⟩
  clear b1 hc1 hf1 bL1 hWL p0
  refine range_lawK rfl (by omega) (gf := 135) (lb := #[.pointer (some ⟨w1.heap.size + 1 + 1 + 1, 0, none⟩), .pointer (some ⟨w1.heap.size + 1 + 1 + 1 + 1, 0, none⟩), .pointer (some ⟨w1.heap.size + 1, 0, none⟩), .pointer (some ⟨w1.heap.size + 1 + 1, 0, none⟩)]) rfl trivial (Go.Proofs.enters_of Tryd.func135 (by kernel_rfl) rfl)
    (sound_it s fl n 60 _ _ _ _ _ WL HS.out n3 hn (by omega) hf e1 (by omega) (by omega) (by omega) (by omega)) (fun _ => rfl)
    (fun k W => (Boxed W w.heap.size 2 (.int .i64 (n : Int)) ∧ Boxed W (w.heap.size + 1) 2 (.int .i64 0) ∧ Boxed W (w.heap.size + 1 + 1) 2 (.int .i64 0)) ∧ (Below w.heap.size w W ∧ Cap (w1.heap.size + 1 + 1 + 1) (w1.heap.size + 1 + 1 + 1 + 1) (w1.heap.size + 1) (w1.heap.size + 1 + 1) s fl n 60 W) ∧ k = n)
    (fun c W => c = .ret ∧ ∃ u : Nat, Boxed W (w.heap.size + 1) 2 (.int .i64 ((u : Int) - (n : Int))) ∧ Boxed W (w.heap.size + 1 + 1) 2 (.int .i64 0) ∧ Below w.heap.size w W ∧ AddA (byteAt s) s.size fl n ((u : Int) - (n : Int)) 0)
    (fun k A h => h.2.1.2)
    (fun k A B hb h => ⟨⟨(hb.block _ (by omega)).trans h.1.1, (hb.block _ (by omega)).trans h.1.2.1, (hb.block _ (by omega)).trans h.1.2.2⟩, ⟨h.2.1.1.trans (hb.mono (by omega)), h.2.1.2.below hb (by omega) (by omega) (by omega) (by omega)⟩, h.2.2⟩)
    (fun c A B hb h => by
      obtain ⟨rfl, u, h1, h2, h3, h4⟩ := h
      exact ⟨rfl, u, (hb.block _ (by omega)).trans h1, (hb.block _ (by omega)).trans h2, h3.trans (hb.mono (by omega)), h4⟩)
    ⟨⟨B0, B1, B2⟩, ⟨gL, e1⟩, rfl⟩
    (fun (x : Nat) a' W => a' = { tmps := #[Value.string s, Value.int IntKind.i64 (n : Int), Value.int IntKind.i64 (fl : Int), undef,
          Value.pointer (some ⟨w.heap.size, 0, none⟩), undef, Value.pointer (some ⟨w.heap.size + 1, 0, none⟩), Value.pointer (some ⟨w.heap.size + 1 + 1, 0, none⟩),
          Value.pointer (some ⟨w1.heap.size, 0, none⟩), Value.int IntKind.i64 0, .int .i64 (x : Int),
          Value.tuple #[Value.agg #[Value.string s, Value.int IntKind.i64 (n : Int)], Value.int IntKind.i64 0], Value.string s, Value.int IntKind.i64 (n : Int),
          Value.tuple #[Value.agg #[Value.string s, Value.int IntKind.i64 (n : Int)], Value.int IntKind.i64 0],
          Value.agg #[Value.string s, Value.int IntKind.i64 (n : Int)], Value.int IntKind.i64 0, Value.int IntKind.i64 0,
          Value.bool false, undef, Value.int IntKind.i64 (fl : Int), Value.bool true, Value.bool false, Value.string s,
          Value.int IntKind.i64 (fl : Int), Value.int IntKind.i64 (n : Int),
          Value.func (Fn.func 135) #[] #[.pointer (some ⟨w1.heap.size + 1 + 1 + 1, 0, none⟩), .pointer (some ⟨w1.heap.size + 1 + 1 + 1 + 1, 0, none⟩), .pointer (some ⟨w1.heap.size + 1, 0, none⟩), .pointer (some ⟨w1.heap.size + 1 + 1, 0, none⟩)],
          .int .i64 (x : Int), undef, undef, undef], defers := [] })
    (fun x a' A B hf h => h) ?assign ?body ?done ?stop
  case assign =>
    intro l k k' x W K hz hR hI hK
    simp only [sndV]
    gi_wp2
    exact hK _ _ (Frm.refl _ _) hI rfl
  case body =>
    rintro l k k' x a' W hz hR hI rfl
    obtain ⟨x1, x2, x3, x4, rfl⟩ := hR
    obtain ⟨⟨i0, i1, i2⟩, ⟨hB, hcp⟩, rfl⟩ := hI
    have r0 := i0.cell
    have r1 := i1.cell
    have r1f := i1.frozen
    have r2 := i2.cell
    have r2f := i2.frozen
    have zB := hB.size
    gi_wp2
    exact ⟨((Frm.refl _ _).set _ _ (by omega)).set _ _ (by omega), rfl, x, (i1.set _).other (by omega) _, (i2.other (by omega) _).set _, (hB.setCell (p := ⟨w.heap.size + 1, 0, none⟩) (by simp) _).setCell (p := ⟨w.heap.size + 1 + 1, 0, none⟩) (by simp; omega) _, .inl ⟨x, x1, x2, x3, x4, rfl, rfl⟩⟩
  case done =>
    rintro D k W hD hN ⟨⟨i0, i1, i2⟩, ⟨hB, hcp⟩, rfl⟩ hK
    have r1 := i1.cell
    have r1f := i1.frozen
    have r2 := i2.cell
    have r2f := i2.frozen
    have ft0 : AddA (byteAt s) s.size fl k 0 3 := .inr ⟨hN, rfl, rfl⟩
    obtain ⟨rfl, rfl⟩ := hA.uniq ft0
    gi_wp2
    have hK2 := ((KeepsOthers.setCell W ⟨w.heap.size + 1, 0, none⟩ (.int .i64 0)).trans (KeepsOthers.setCell _ ⟨w.heap.size + 1 + 1, 0, none⟩ (.int .i64 3))).same D _ hK rfl
    refine ⟨by simp, .inl ⟨_, _, rfl, run_takeDeferred hK2, ?_⟩⟩
    have j1 := cell_put D (.deferred none) (by omega) ((i1.set (.int .i64 0)).other (B' := w.heap.size + 1 + 1) (by omega) (.int .i64 3)).cell
    have j2 := cell_put D (.deferred none) (by omega) ((i2.other (B' := w.heap.size + 1) (by omega) (.int .i64 0)).set (.int .i64 3)).cell
    refine ⟨.tuple #[.int .i64 0, .int .i64 3], by simp [results, Tryd.f61, go_sem, j1, j2], rfl, Below.trans ((hB.setCell (p := ⟨w.heap.size + 1, 0, none⟩) (by simp) _).setCell (p := ⟨w.heap.size + 1 + 1, 0, none⟩) (by simp; omega) _) (put_below _ (by omega) hK2)⟩
  case stop =>
    rintro D c W hD ⟨rfl, u, i1, i2, hB, hu⟩ hK
    obtain ⟨rfl, rfl⟩ := hA.uniq hu
    gi_wp2
    refine ⟨by simp, .inl ⟨_, _, rfl, run_takeDeferred hK, ?_⟩⟩
    have j1 := cell_put D (.deferred none) (by omega) i1.cell
    have j2 := cell_put D (.deferred none) (by omega) i2.cell
    refine ⟨.tuple #[.int .i64 ((u : Int) - (n : Int)), .int .i64 0], by simp [results, Tryd.f61, go_sem, j1, j2], rfl, Below.trans hB (put_below _ (by omega) hK)⟩


set_option maxHeartbeats 4000000 in
theorem add_s (s : ByteArray) (n fl : Nat) (v code : Int) (w : World) (hst : strokeB s = true) (n3 : 3 ≤ n) (hn : n ≤ 60) (f1 : 1 ≤ fl) (hf : fl ≤ 12) (hA : AddA (byteAt s) s.size fl n v code) :
    Calls Tryd.prog 60 #[.string s, .int .i64 (n : Int), .int .i64 (fl : Int)] w fun e w' => e = .returned (.tuple #[.int .i64 v, .int .i64 code]) ∧ Below w.heap.size w w' := by
  obtain ⟨h0, hs, _⟩ := stroke_of hst
  have HC := Lib.hid (fun W => codeF_s s n fl W (by omega))
  rw [codeF_0.2 ⟨codeW_0.2 ⟨hst, inB_yes (by omega) (by omega)⟩, inB_yes (by omega) (by omega)⟩] at HC
  have HK := Lib.hid (fun (k : Nat) (hk : k ≤ 60) W => soundW_s s k fl W hst hk hf)
  obtain ⟨q, hq⟩ : ∃ q : Nat → Bool, q = fun k => soundB (byteAt s) s.size k fl := ⟨_, rfl⟩
  have hq' : ∀ k, soundB (byteAt s) s.size k fl = q k := fun k => by rw [hq]
  have HA := Lib.hid hA
  have HQ := Lib.hid hq'
  clear hst hA hq hq'
  go_enter Tryd.func60, Tryd.ntmps60
  go_wp2_with (go_at_call 74; refine (HC.out _).mono ?_; rintro e w' ⟨rfl, rfl⟩)
  go_loopw [9] (fun i wr => ∃ k : Nat, n ≤ k ∧ k ≤ 61 ∧ i = .int .i64 (k : Int) ∧ Hid (∀ y, n ≤ y → y < k → soundB (byteAt s) s.size y fl = false) ∧ Below w.heap.size w wr) (fun i _ => 61 - (intOf i).toNat)
  case atStart => exact ⟨n, Nat.le_refl _, by omega, rfl, Lib.hid (fun y a b => absurd a (by omega)), Below.refl _ _⟩
  case round =>
    obtain ⟨k, hk1, hk2, rfl, hno, hbl⟩ := hrel
    have HB := Lib.hid hbl
    have hzz := hbl.size
    clear hbl
    by_cases hlt : k ≤ 60
    · have hlt' : (k : Int) ≤ 60 := by omega
      have HK2 := Lib.hid (HK.out k hlt)
      have hqk := HQ.out k
      cases hb : soundB (byteAt s) s.size k fl
      · rw [hb] at HK2
        have HN := Lib.hid (show ∀ y, n ≤ y → y < k + 1 → soundB (byteAt s) s.size y fl = false from fun y a b => by
          by_cases e : y = k
          · rw [e]; exact hb
          · exact hno.out y a (by omega))
        clear hb hqk
        go_wp2_with fail
        refine (HK2.out _).mono ?_
        rintro e w1 ⟨rfl, b1⟩
        have g1 := Lib.hid (HB.out.trans (b1.mono hzz))
        clear b1
        go_wp2
        go_roundw
        case rel => exact ⟨k + 1, by omega, by omega, by go_num, HN, g1.out⟩
        case measure => simp [intOf]; omega
      · rw [hb] at HK2
        obtain ⟨rfl, rfl⟩ := HA.out.uniq (.inl ⟨k, hk1, hlt, hb, hno.out, rfl, rfl⟩)
        clear hb hqk HA
        go_wp2_with fail
        refine (HK2.out _).mono ?_
        rintro e w1 ⟨rfl, b1⟩
        have g1 := Lib.hid (HB.out.trans (b1.mono hzz))
        clear b1
        go_wp2
        go_ret2
        exact ⟨rfl, g1.out⟩
    · have hlt' : ¬ (k : Int) ≤ 60 := by omega
      obtain ⟨rfl, rfl⟩ := HA.out.uniq (.inr ⟨fun y a b => hno.out y a (by omega), rfl, rfl⟩)
      clear HA
      go_wp2
      go_ret2
      exact ⟨rfl, HB.out⟩
theorem add_s_no (s : ByteArray) (a b : Int) (w : World) (hs : s.size ≤ 1048576) (hc : codeF s a b ≠ 0) :
    Calls Tryd.prog 60 #[.string s, .int .i64 a, .int .i64 b] w fun e w' => e = .returned (.tuple #[.int .i64 0, .int .i64 (codeF s a b)]) ∧ Below w.heap.size w w' := by
  have HC := Lib.hid (fun W => codeF_s s a b W hs)
  generalize codeF s a b = v at *
  have e1 : (v == 0) = false := by simpa using hc
  have e2 : (v != 0) = true := by rw [bne, e1]; rfl
  clear hc
  go_enter Tryd.func60, Tryd.ntmps60
  go_wp2_with (go_at_call 74; refine (HC.out _).mono ?_; rintro e w' ⟨rfl, rfl⟩)
  go_ret2
  exact ⟨rfl, Below.refl _ _⟩
set_option maxHeartbeats 2000000 in
set_option maxRecDepth 100000 in
theorem add_i_no (s : ByteArray) (a b : Int) (w : World) (hs : s.size ≤ 1048576) (hc : codeF s a b ≠ 0) :
    Calls Tryd.prog 61 #[.string s, .int .i64 a, .int .i64 b] w fun e w' => e = .returned (.tuple #[.int .i64 0, .int .i64 (codeF s a b)]) ∧ Below w.heap.size w w' := by
  by_cases h : codeW s a = 0
  · obtain ⟨h1, h2⟩ := codeW_0.1 h
    obtain ⟨n, rfl, n3, n60⟩ := stakes_of h2
    have hb : inB b 1 12 = false := by
      cases hb : inB b 1 12
      · rfl
      · exact absurd (codeF_0.2 ⟨h, hb⟩) hc
    rw [codeF_b h hb]
    have HS := Lib.hid h1
    have HI := Lib.hid (fun W => in_i b 1 12 W)
    rw [hb] at HI
    clear h h1 h2 hb hc
    go_enter Tryd.func61, Tryd.ntmps61
    go_wp2_with fail
    refine (new_i s n _ HS.out n3 n60).mono ?_
    rintro e w1 ⟨rfl, b1⟩
    have z1 := b1.size
    obtain ⟨hc1, hf1⟩ := bcell b1
    simp only [World.size_alloc] at z1
    have g1 : Below w.heap.size w w1 := Below.trans (by go_grown) (b1.mono (by simp <;> omega))
    have k1 : w1.cell? ⟨w.heap.size + 1, 0, none⟩ = some (.int .i64 0) := by rw [hc1 _ _ (by simp <;> omega)]; go_simp
    have k2 : w1.cell? ⟨w.heap.size + 1 + 1, 0, none⟩ = some (.int .i64 0) := by rw [hc1 _ _ (by simp)]; go_simp
    have k3 : w1.frozen? ⟨w.heap.size + 1, 0, none⟩ = false := by rw [hf1 _ _ (by simp <;> omega)]; go_simp
    have k4 : w1.frozen? ⟨w.heap.size + 1 + 1, 0, none⟩ = false := by rw [hf1 _ _ (by simp)]; go_simp
    have k5 : w.heap.size < w1.heap.size := by omega
    have k6 : w.heap.size + 1 < w1.heap.size := by omega
    have k7 : w.heap.size + 1 + 1 < w1.heap.size := by omega
    clear hc1 hf1
    go_wp2_with (go_at_call 71; refine (HI.out _).mono ?_; rintro e w' ⟨rfl, rfl⟩)
    have jj : ∀ o : Obj, (((w1.setCell ⟨w.heap.size + 1, 0, none⟩ (.int .i64 0)).setCell ⟨w.heap.size + 1 + 1, 0, none⟩ (.int .i64 2)).alloc o).cell? ⟨w.heap.size + 1, 0, none⟩ = some (.int .i64 0) ∧ (((w1.setCell ⟨w.heap.size + 1, 0, none⟩ (.int .i64 0)).setCell ⟨w.heap.size + 1 + 1, 0, none⟩ (.int .i64 2)).alloc o).cell? ⟨w.heap.size + 1 + 1, 0, none⟩ = some (.int .i64 2) := fun o => by
      have hb := (Below.refl ((w1.setCell ⟨w.heap.size + 1, 0, none⟩ (.int .i64 0)).setCell ⟨w.heap.size + 1 + 1, 0, none⟩ (.int .i64 2)).heap.size ((w1.setCell ⟨w.heap.size + 1, 0, none⟩ (.int .i64 0)).setCell ⟨w.heap.size + 1 + 1, 0, none⟩ (.int .i64 2))).alloc (Nat.le_refl _) o
      exact ⟨(hb.cell (p := ⟨w.heap.size + 1, 0, none⟩) (by simp; omega)).trans (by simp [go_sem, k1]), (hb.cell (p := ⟨w.heap.size + 1 + 1, 0, none⟩) (by simp; omega)).trans (by simp [go_sem, k2])⟩
    exact bodyPost_ret (v := .tuple #[.int .i64 0, .int .i64 2]) (by simp [results, Tryd.results61, go_sem, (jj _).1, (jj _).2]) rfl ⟨rfl, ((g1.setCell (p := ⟨w.heap.size + 1, 0, none⟩) (by simp) _).setCell (p := ⟨w.heap.size + 1 + 1, 0, none⟩) (by simp; omega) _).alloc (by simp; omega) _⟩
  · rw [codeF_w h]
    have HN := Lib.hid (fun W => new_i_no s a W hs h)
    generalize codeW s a = v at *
    have e1 : (v == 0) = false := by simpa using h
    have e2 : (v != 0) = true := by rw [bne, e1]; rfl
    clear hc h
    go_enter Tryd.func61, Tryd.ntmps61
    go_wp2_with fail
    refine (HN.out _).mono ?_
    rintro e w1 ⟨rfl, b1⟩
    have z1 := b1.size
    obtain ⟨hc1, hf1⟩ := bcell b1
    simp only [World.size_alloc] at z1
    have g1 : Below w.heap.size w w1 := Below.trans (by go_grown) (b1.mono (by simp <;> omega))
    have k1 : w1.cell? ⟨w.heap.size + 1, 0, none⟩ = some (.int .i64 0) := by rw [hc1 _ _ (by simp <;> omega)]; go_simp
    have k2 : w1.cell? ⟨w.heap.size + 1 + 1, 0, none⟩ = some (.int .i64 0) := by rw [hc1 _ _ (by simp)]; go_simp
    have k3 : w1.frozen? ⟨w.heap.size + 1, 0, none⟩ = false := by rw [hf1 _ _ (by simp <;> omega)]; go_simp
    have k4 : w1.frozen? ⟨w.heap.size + 1 + 1, 0, none⟩ = false := by rw [hf1 _ _ (by simp)]; go_simp
    have k5 : w.heap.size < w1.heap.size := by omega
    have k6 : w.heap.size + 1 < w1.heap.size := by omega
    have k7 : w.heap.size + 1 + 1 < w1.heap.size := by omega
    clear hc1 hf1
    go_wp2
    have jj : ∀ o : Obj, (((w1.setCell ⟨w.heap.size + 1, 0, none⟩ (.int .i64 0)).setCell ⟨w.heap.size + 1 + 1, 0, none⟩ (.int .i64 v)).alloc o).cell? ⟨w.heap.size + 1, 0, none⟩ = some (.int .i64 0) ∧ (((w1.setCell ⟨w.heap.size + 1, 0, none⟩ (.int .i64 0)).setCell ⟨w.heap.size + 1 + 1, 0, none⟩ (.int .i64 v)).alloc o).cell? ⟨w.heap.size + 1 + 1, 0, none⟩ = some (.int .i64 v) := fun o => by
      have hb := (Below.refl ((w1.setCell ⟨w.heap.size + 1, 0, none⟩ (.int .i64 0)).setCell ⟨w.heap.size + 1 + 1, 0, none⟩ (.int .i64 v)).heap.size ((w1.setCell ⟨w.heap.size + 1, 0, none⟩ (.int .i64 0)).setCell ⟨w.heap.size + 1 + 1, 0, none⟩ (.int .i64 v))).alloc (Nat.le_refl _) o
      exact ⟨(hb.cell (p := ⟨w.heap.size + 1, 0, none⟩) (by simp; omega)).trans (by simp [go_sem, k1]), (hb.cell (p := ⟨w.heap.size + 1 + 1, 0, none⟩) (by simp; omega)).trans (by simp [go_sem, k2])⟩
    exact bodyPost_ret (v := .tuple #[.int .i64 0, .int .i64 v]) (by simp [results, Tryd.results61, go_sem, (jj _).1, (jj _).2]) rfl ⟨rfl, ((g1.setCell (p := ⟨w.heap.size + 1, 0, none⟩) (by simp) _).setCell (p := ⟨w.heap.size + 1 + 1, 0, none⟩) (by simp; omega) _).alloc (by simp; omega) _⟩

end Go.Proofs.YtbmdggcfoohmgaaDoor.sn
