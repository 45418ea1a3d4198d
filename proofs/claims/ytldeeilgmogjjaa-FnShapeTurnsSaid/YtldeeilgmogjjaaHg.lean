/-
  Rules of stakes, and the numbers that all of them allow, by the program. No condition of a statement lies here.
-/
import Derived.Test.YtldeeilgmogjjaaHc
import Derived.Test.YtldeeilgmogjjaaAppend
import Derived.Test.YtldeeilgmogjjaaOwnV
import Derived.Test.YtldeeilgmogjjaaOpen
import Derived.Test.YtldeeilgmogjjaaNums
import Derived.Test.YtldeeilgmogjjaaIn
namespace Go.Proofs.Ytldeeilgmogjjaa.shp
open Go.ChangeShapes Go.WideShapes Go.ChangeAt Go.RowKit Go.Proofs.Ytldeeilgmogjjaa.mem Go.Proofs.Ytldeeilgmogjjaa.rod Go.Proofs.Ytldeeilgmogjjaa.nums
set_option linter.unusedVariables false
set_option maxRecDepth 100000

/-- a number of stakes is good for a circumference -/
def goodB (a lo hi s : Int) : Bool := inB a (s * lo) (s * hi)
/-- a rule: a circumference with its bounds, or a number of stakes below -/
inductive Ru
  | sp (a lo hi : Int)
  | nr (m : Int)
def Ru.v : Ru → Value
  | .sp a lo hi => .iface 63 (.agg #[.int .i64 a, .int .i64 lo, .int .i64 hi])
  | .nr m => .iface 81 (.int .i64 m)
def Ru.ok : Ru → Int → Bool
  | .sp a lo hi, s => goodB a lo hi s
  | .nr m, s => decide (dst m s ≤ 6)
def Ru.wf : Ru → Prop
  | .sp a lo hi => 1 ≤ a ∧ a ≤ 5000 ∧ 1 ≤ lo ∧ lo ≤ hi ∧ hi ≤ 200
  | .nr m => 3 ≤ m ∧ m ≤ 60
theorem mul_bd {a b h k : Int} (a0 : 0 ≤ a) (a1 : a ≤ h) (b0 : 0 ≤ b) (b1 : b ≤ k) : 0 ≤ a * b ∧ a * b ≤ h * k :=
  ⟨Int.mul_nonneg a0 b0, Int.mul_le_mul a1 b1 b0 (by omega)⟩

set_option maxHeartbeats 1000000 in
theorem spacing_allows (a lo hi s : Int) (w : World) (h : Ru.wf (.sp a lo hi)) (s0 : 3 ≤ s) (s1 : s ≤ 60) :
    Calls Try.prog 63 #[.agg #[.int .i64 a, .int .i64 lo, .int .i64 hi], .int .i64 s] w fun e w' => e = .returned (.bool (Ru.ok (.sp a lo hi) s)) ∧ Below w.heap.size w w' := by
  obtain ⟨a0, a1, l0, l1, h1⟩ := h
  have m1 := mul_bd (a := s) (b := lo) (h := 60) (k := 200) (by omega) (by omega) (by omega) (by omega)
  have m2 := mul_bd (a := s) (b := hi) (h := 60) (k := 200) (by omega) (by omega) (by omega) (by omega)
  have e1 : IntKind.i64.wrap (s * lo) = s * lo := by rw [IntKind.wrap_i64]; omega
  have e2 : IntKind.i64.wrap (s * hi) = s * hi := by rw [IntKind.wrap_i64]; omega
  obtain ⟨m10, m11⟩ := m1
  obtain ⟨m20, m21⟩ := m2
  show Calls _ _ _ _ fun e w' => e = .returned (.bool (inB a (s * lo) (s * hi))) ∧ _
  go_enter Try.func63, Try.ntmps63
  go_wp2_with (go_at_call 37; refine (in_i _ _ _ _).mono ?_; rintro e w' ⟨rfl, rfl⟩)
  go_ret
  exact ⟨rfl, by go_grown⟩

set_option maxHeartbeats 1000000 in
theorem near_allows (m s : Int) (w : World) (h : Ru.wf (.nr m)) (s0 : 3 ≤ s) (s1 : s ≤ 60) :
    Calls Try.prog 64 #[.int .i64 m, .int .i64 s] w fun e w' => e = .returned (.bool (Ru.ok (.nr m) s)) ∧ Below w.heap.size w w' := by
  obtain ⟨a0, a1⟩ := h
  show Calls _ _ _ _ fun e w' => e = .returned (.bool (decide (dst m s ≤ 6))) ∧ _
  go_enter Try.func64, Try.ntmps64
  go_wp2_with (go_at_call 46; refine (dist_i _ _ (by omega) (by omega) (by omega) (by omega) _).mono ?_; rintro e w' ⟨rfl, rfl⟩)
  go_ret
  exact ⟨rfl, Below.refl _ _⟩

set_option maxHeartbeats 1000000 in
theorem forbids_i (R : Ru) (sb : Nat) (s : Int) (w : World) (h : R.wf) (s0 : 3 ≤ s) (s1 : s ≤ 60) (hc : w.cell? ⟨sb, 0, none⟩ = some (.int .i64 s)) :
    Calls Try.prog 42 #[R.v, .pointer (some ⟨sb, 0, none⟩)] w fun e w' => e = .returned (.bool (!R.ok s)) ∧ Below w.heap.size w w' := by
  cases R with
  | sp a lo hi =>
    unfold Ru.v
    go_enter Try.func42, Try.ntmps42
    go_wp2_with fail
    refine (spacing_allows a lo hi s _ h s0 s1).mono ?_
    rintro e w' ⟨rfl, hb⟩
    go_wp2
    go_ret
    exact ⟨rfl, hb⟩
  | nr m =>
    unfold Ru.v
    go_enter Try.func42, Try.ntmps42
    go_wp2_with fail
    refine (near_allows m s _ h s0 s1).mono ?_
    rintro e w' ⟨rfl, hb⟩
    go_wp2
    go_ret
    exact ⟨rfl, hb⟩

/-- n values lie behind one another -/
def SlV (w : World) (A : Option Addr) (n : Nat) (V : Nat → Value) : Prop := 0 < n → ∃ b o, A = some ⟨b, o, none⟩ ∧ b < w.heap.size ∧ ∀ j, j < n → w.cell? ⟨b, o + j, none⟩ = some (V j)
theorem SlV.below {w w' : World} {A : Option Addr} {n K : Nat} {V : Nat → Value} (h : SlV w A n V) (hb : Below K w w') (hK : w.heap.size ≤ K) : SlV w' A n V := fun hn => by
  obtain ⟨b, o, e, h1, h2⟩ := h hn
  have := hb.size
  exact ⟨b, o, e, by omega, fun j hj => (hb.cell (p := ⟨b, _, none⟩) (by show b < K; omega)).trans (h2 j hj)⟩
/-- the first n rules allow a number -/
def okAll (R : Nat → Ru) (s : Int) : Nat → Bool
  | 0 => true
  | n + 1 => okAll R s n && (R n).ok s
theorem okAll_no {R : Nat → Ru} {s : Int} {k : Nat} : ∀ {n : Nat}, k < n → (R k).ok s = false → okAll R s n = false
  | 0, hk, _ => absurd hk (by omega)
  | n + 1, hk, hv => by
    unfold okAll
    by_cases e : k = n
    · subst e; rw [hv, Bool.and_false]
    · rw [okAll_no (by omega) hv, Bool.false_and]

set_option maxHeartbeats 4000000 in
set_option maxRecDepth 100000 in
theorem indexF_i (A : Option Addr) (n c : Nat) (R : Nat → Ru) (sb : Nat) (s : Int) (w : World) (hn : n ≤ 12) (hw : ∀ j, j < n → (R j).wf) (s0 : 3 ≤ s) (s1 : s ≤ 60) (hr : SlV w A n (fun j => (R j).v)) (hc : w.cell? ⟨sb, 0, none⟩ = some (.int .i64 s)) :
    Calls Try.prog 47 #[.slice A n c, .func (.func 42) #[] #[.pointer (some ⟨sb, 0, none⟩)]] w fun e w' => ∃ r : Int, e = .returned (.int .i64 r) ∧ decide (0 ≤ r) = (!okAll R s n) ∧ Below w.heap.size w w' := by
  have HR := Lib.hid hr
  have HC := Lib.hid hc
  have HF := Lib.hid hw
  have hl := World.block_lt_of_cell? w _ hc
  clear hr hc hw
  go_enter Try.func47, Try.ntmps47
  go_wp2_with fail
  go_loopw [8] (fun t wr => ∃ (k : Nat), k ≤ n ∧ t = .int .i64 k ∧ Hid (okAll R s k = true) ∧ Below w.heap.size w wr) (fun t _ => n - (intOf t).toNat)
  case atStart => exact ⟨0, by omega, rfl, rfl, Below.refl _ _⟩
  case round =>
    obtain ⟨k, hk, rfl, HJ, hd⟩ := hrel
    have hzz := hd.size
    have HD := Lib.hid hd
    clear hd
    by_cases hlt : k < n
    · have hlt' : (k : Int) < (n : Int) := by omega
      have hk0 : (0 : Int) ≤ (k : Int) := by omega
      have hfk := Lib.hid (HF.out k hlt)
      obtain ⟨b, o, rfl, hb, hX⟩ := (HR.out.below HD.out (Nat.le_refl _)) (by omega)
      have p0 := hX k hlt
      clear hX
      cases hq : (R k).ok s
      · have HA := Lib.hid (okAll_no hlt hq)
        have HQ := Lib.hid hq
        clear hq
        go_wp2_with fail
        refine (forbids_i (R k) sb s _ hfk.out s0 s1 ((HD.out.cell (p := ⟨sb, 0, none⟩) hl).trans HC.out)).mono ?_
        rintro e w2 ⟨rfl, hb2⟩
        rw [HQ.out]
        go_wp2
        go_ret
        exact ⟨k, rfl, by rw [HA.out]; simp, HD.out.trans (hb2.mono hzz)⟩
      · have HQ := Lib.hid hq
        have HA := Lib.hid (show okAll R s (k + 1) = true by unfold okAll; rw [HJ.out, hq]; rfl)
        clear hq
        go_wp2_with fail
        refine (forbids_i (R k) sb s _ hfk.out s0 s1 ((HD.out.cell (p := ⟨sb, 0, none⟩) hl).trans HC.out)).mono ?_
        rintro e w2 ⟨rfl, hb2⟩
        rw [HQ.out]
        have g2 := HD.out.trans (hb2.mono hzz)
        clear hb2
        go_wp2
        go_roundw
        case rel => exact ⟨k + 1, by omega, by go_num, HA.out, g2⟩
        case measure => simp [intOf]; omega
    · obtain rfl : n = k := by omega
      go_wp2
      go_ret
      exact ⟨-1, rfl, by rw [HJ.out]; simp, HD.out⟩

set_option maxHeartbeats 1000000 in
theorem containsF_i (A : Option Addr) (n c : Nat) (R : Nat → Ru) (sb : Nat) (s : Int) (w : World) (hn : n ≤ 12) (hw : ∀ j, j < n → (R j).wf) (s0 : 3 ≤ s) (s1 : s ≤ 60) (hr : SlV w A n (fun j => (R j).v)) (hc : w.cell? ⟨sb, 0, none⟩ = some (.int .i64 s)) :
    Calls Try.prog 43 #[.slice A n c, .func (.func 42) #[] #[.pointer (some ⟨sb, 0, none⟩)]] w fun e w' => e = .returned (.bool (!okAll R s n)) ∧ Below w.heap.size w w' := by
  have HW := Lib.hid hw
  clear hw
  go_enter Try.func43, Try.ntmps43
  go_wp2_with fail
  refine (indexF_i A n c R sb s _ hn HW.out s0 s1 hr hc).mono ?_
  rintro e w1 ⟨r, rfl, hrr, hb1⟩
  have HRR := Lib.hid hrr
  clear hrr
  go_wp2
  go_ret
  exact ⟨by rw [← HRR.out]; rfl, hb1⟩

/-- the numbers of stakes from 3 on, k of them, that pass a test -/
def stk (p : Int → Bool) : Nat → List Int
  | 0 => []
  | k + 1 => stk p k ++ (if p (3 + (k : Int)) then [3 + (k : Int)] else [])
theorem stk_yes {p : Int → Bool} {k : Nat} (h : p (3 + (k : Int)) = true) : stk p (k + 1) = stk p k ++ [3 + (k : Int)] := by show stk p k ++ _ = _; rw [if_pos h]
theorem stk_no {p : Int → Bool} {k : Nat} (h : p (3 + (k : Int)) = false) : stk p (k + 1) = stk p k := by show stk p k ++ _ = _; rw [h]; simp
theorem stk_len (p : Int → Bool) : ∀ k, (stk p k).length ≤ k
  | 0 => Nat.le_refl _
  | k + 1 => by
    have := stk_len p k
    unfold stk
    rw [List.length_append]
    split <;> simp <;> omega
theorem owns_lt {w : World} {B n size : Nat} {E : TypeId} {v : Value} {xs : List Value} (h : w.ownsRow B E size v n xs) : ∀ g, v.ownBlock = some g → g < w.heap.size := by
  intro g hg
  rcases h.2 with ⟨rfl, _⟩ | ⟨g', cap, cur, rfl, hB, hh, _⟩
  · simp [Value.ownBlock] at hg
  · simp [Value.ownBlock] at hg
    subst hg
    exact (Array.getElem?_eq_some_iff.1 hh).1

theorem owns_keep {w w' : World} {B n size : Nat} {E : TypeId} {v : Value} {xs : List Value} (h : w.ownsRow B E size v n xs) (hk : ∀ g, v.ownBlock = some g → w'.heap[g]? = w.heap[g]?) : w'.ownsRow B E size v n xs := by
  obtain ⟨hl, h⟩ := h
  rcases h with h | ⟨g, cap, cur, rfl, hB, hh, h⟩
  · exact ⟨hl, .inl h⟩
  · exact ⟨hl, .inr ⟨g, cap, cur, rfl, hB, (hk g (by simp [Value.ownBlock])).trans hh, h⟩⟩
theorem own_new (w : World) (x : Int) (E : TypeId) : Own (w.alloc (.cells #[.int .i64 x] E)) w.heap.size E 1 (fun _ => x) :=
  ⟨_, Go.Deep.blk_alloc_new _ _, by simp, fun i hi => by obtain rfl : i = 0 := by omega
                                                         simp⟩
theorem own_set1 {w : World} {g : Nat} {E : TypeId} {x : Int} (h : Own w g E 1 (fun _ => x)) (v : Int) : Own (w.setCell ⟨g, 0, none⟩ (.int .i64 v)) g E 1 (fun _ => v) :=
  (h.set 0 v).congr fun j hj => by obtain rfl : j = 0 := by omega
                                   simp
theorem blk_three (w : World) (o : Obj) (v0 v1 : Value) {g : Nat} (h : g < w.heap.size) : (((w.alloc o).setCell ⟨w.heap.size, 0, none⟩ v0).setCell ⟨w.heap.size, 0, none⟩ v1).heap[g]? = w.heap[g]? :=
  ((Go.Deep.blk_setCell_other _ _ _ _ (by simp; omega)).trans (Go.Deep.blk_setCell_other _ _ _ _ (by simp; omega))).trans (Go.Deep.blk_alloc_lt _ _ _ h)

set_option maxHeartbeats 4000000 in
set_option maxRecDepth 100000 in
theorem stakesFor_i (A : Option Addr) (n c : Nat) (R : Nat → Ru) (w : World) (hn : n ≤ 12) (hw : ∀ j, j < n → (R j).wf) (hr : SlV w A n (fun j => (R j).v)) :
    Calls Try.prog 32 #[.slice A n c] w fun e w' => ∃ A' c', e = .returned (.slice A' (stk (fun s => okAll R s n) 58).length c') ∧ (stk (fun s => okAll R s n) 58).length ≤ c' ∧ c' ≤ maxLen ∧ Row w' w.heap.size w'.heap.size A' (stk (fun s => okAll R s n) 58).length 1 2 (fun j => (stk (fun s => okAll R s n) 58).getD j 0) ∧ Below w.heap.size w w' := by
  have HR := Lib.hid hr
  have HF := Lib.hid hw
  clear hr hw
  generalize hP : (fun s => okAll R s n) = P at *
  have HP := Lib.hid (fun s => (show okAll R s n = P s by rw [← hP]))
  clear hP
  obtain ⟨i0, hi0, hz0, hz1, hz2⟩ := info_parts info_num
  go_enter Try.func32, Try.ntmps32
  go_wp2_with fail
  go_loopw [3, 4] (fun v t wr => ∃ (k pb : Nat), k ≤ 58 ∧ t = .pointer (some ⟨pb, 0, none⟩) ∧ w.heap.size ≤ pb ∧ Hid (v.ownBlock ≠ some pb) ∧ Hid (Own wr pb 2 1 (fun _ => 3 + (k : Int))) ∧ Hid (wr.ownsRow w.heap.size 2 1 v (stk P k).length ((stk P k).map (Value.int .i64))) ∧ Below w.heap.size w wr) (fun _ t wr => match t with | .pointer (some a) => (match wr.cell? a with | some v => (61 - intOf v).toNat | none => 0) | _ => 0)
  case atStart => exact ⟨0, _, by omega, rfl, Nat.le_refl _, by simp [Hid, Value.ownBlock], (own_new w 3 _).congr (fun _ _ => by omega), owns_nil _ _ _, by go_grown⟩
  case round =>
    obtain ⟨k, pb, hk, rfl, hpb, HV, HO, hown, hbl⟩ := hrel
    have HB := Lib.hid hbl
    have hzz := hbl.size
    have hpl := HO.out.lt
    have p0 := HO.out.cell (j := 0) (by omega)
    have f0 := HO.out.frozen 0
    clear hbl
    by_cases hlt : k < 58
    · have hlt' : 3 + (k : Int) ≤ 60 := by omega
      have hs3 : (3 : Int) ≤ 3 + (k : Int) := by omega
      have hs4 : decide (3 + (k : Int) ≤ 60) = true := by simp; omega
      have P0 := Lib.hid p0
      go_wp2_with fail
      refine (containsF_i A n c R pb (3 + (k : Int)) _ hn HF.out hs3 hlt' (HR.out.below HB.out (Nat.le_refl _)) p0).mono ?_
      rintro e w2 ⟨rfl, hb2⟩
      rw [HP.out]
      have zz2 := hb2.size
      have B2 := Lib.hid (HB.out.trans (hb2.mono hzz))
      have O2 := Lib.hid (HO.out.below hb2 hpl)
      have W2 := Lib.hid (owns_keep hown.out (w' := w2) (fun g hg => hb2.block g (owns_lt hown.out g hg)))
      have p2 := O2.out.cell (j := 0) (by omega)
      have f2 := O2.out.frozen 0
      clear hb2 p0 f0 P0
      cases hp : P (3 + (k : Int))
      · have HN := Lib.hid (stk_no (k := k) hp)
        clear hp
        go_wp2
        go_roundw
        case rel =>
          refine ⟨k + 1, w2.heap.size, by omega, rfl, by omega, fun e => ?_, (own_new w2 (3 + (k : Int) + 1) _).congr (fun _ _ => by omega), ?_, ?_⟩
          · have := owns_lt W2.out _ e; omega
          · rw [HN.out]
            exact W2.out.alloc _
          · exact Below.alloc B2.out (by omega) _
        case measure =>
          have q0 := HO.out.cell (j := 0) (by omega)
          have q1 : (w2.alloc (Obj.cells #[Value.int IntKind.i64 (3 + (k : Int) + 1)] 2)).cell? ⟨w2.heap.size, 0, none⟩ = some (.int .i64 (3 + (k : Int) + 1)) := by go_simp
          simp only [q0, q1]
          simp [intOf]
          omega
      · have HN := Lib.hid (stk_yes (k := k) hp)
        have hlen := stk_len P k
        have hl1 : (stk P k).length + 1 ≤ maxLen := by unfold maxLen; omega
        have hl2 : ((stk P k).length + 1) * 8 ≤ 140737488355328 := by omega
        generalize hL : stk P k = l at *
        have HL := Lib.hid hL
        clear hp hL
        go_wp2_with (at_builtin; refine wpList_append_own _ rfl _ _ 24 rfl w.heap.size 2 i0 (.int .i64 0) 1 8 Try.underlying24 hi0 hz0 hz1 hz2 rfl (by decide) _ _ _ rfl (W2.out.alloc _) ⟨w2.heap.size, 0, none⟩ 1 1 [.int .i64 (3 + (k : Int))] rfl rfl ?c1 ?c2 hl1 hl2 ?c5 ?_)
        case c1 => intro j u hj; rcases j with _ | j <;> simp at hj; subst hj; go_simp
        case c2 => intro u hu; simp at hu; subst hu; rfl
        case c5 => simp <;> omega
        intro v' w3 hown3 hgrow3 _
        have g3 : Below w.heap.size w w3 := Below.grown (B2.out.alloc (by omega) _) hgrow3 (by simp; omega) (owns_block W2.out)
        have z3 : w2.heap.size < w3.heap.size := by have := hgrow3.size; simp at this; omega
        have O3 := Lib.hid (O2.out.of_block (w' := w3) ((hgrow3.block pb (by simp; omega) (fun e => HV.out e.symm)).trans (Go.Deep.blk_alloc_lt _ _ _ (by omega))))
        have B3 := Lib.hid g3
        have W3 := Lib.hid (owns_snoc hown3)
        have p3 := O3.out.cell (j := 0) (by omega)
        clear hown3 hgrow3 p2 f2 g3
        go_wp2
        go_roundw
        case rel =>
          refine ⟨k + 1, w3.heap.size, by omega, rfl, by omega, fun e => ?_, (own_new w3 (3 + (k : Int) + 1) _).congr (fun _ _ => by omega), ?_, ?_⟩
          · have := owns_lt W3.out _ e; omega
          · rw [HN.out]
            exact W3.out.alloc _
          · exact Below.alloc B3.out (by omega) _
        case measure =>
          have q0 := HO.out.cell (j := 0) (by omega)
          have q1 : (w3.alloc (Obj.cells #[Value.int IntKind.i64 (3 + (k : Int) + 1)] 2)).cell? ⟨w3.heap.size, 0, none⟩ = some (.int .i64 (3 + (k : Int) + 1)) := by go_simp
          simp only [q0, q1]
          simp [intOf]
          omega
    · obtain rfl : k = 58 := by omega
      obtain ⟨A', c', rfl, hc1, hc2, hrow⟩ := row_of_owns hown.out
      have HW := Lib.hid hrow
      clear hrow
      go_wp2
      go_ret
      exact ⟨_, _, rfl, hc1, hc2, HW.out, HB.out⟩

end Go.Proofs.Ytldeeilgmogjjaa.shp
