/-
  The laws' own beds: one that is mostly not valid.
-/
import Derived.Test.YtcpaenmhnoagdacNewB
import Derived.Test.YtcpaenmhnoagdacOwnV
import Derived.Deep.RegionWith
namespace Go.Proofs.Ytcpaenmhnoagdac.src
open Go.ChangeShapes Go.WideShapes Go.ChangeAt Go.RowKit Go.Proofs.Ytcpaenmhnoagdac.mem
set_option linter.unusedVariables false

/-- all blocks that were there hold what they held, but for three -/
structure But3 (b g h : Nat) (w w' : World) : Prop where
  os : w'.os = w.os
  tape : w'.tape = w.tape
  output : w'.output = w.output
  size : w.heap.size ≤ w'.heap.size
  block : ∀ k, k < w.heap.size → k ≠ b → k ≠ g → k ≠ h → w'.heap[k]? = w.heap[k]?
theorem But3.kept {b g h N : Nat} {w w' : World} (k : But3 b g h w w') (hN : N ≤ w.heap.size) (hg : N ≤ g) (hh : N ≤ h) : Kept N b w w' :=
  ⟨k.os, k.tape, k.output, k.size, fun j hj hb => k.block j (by omega) hb (by omega) (by omega)⟩
section
variable {b g h : Nat} {w w' w'' : World}
theorem But3.refl (b g h : Nat) (w : World) : But3 b g h w w := ⟨rfl, rfl, rfl, Nat.le_refl _, fun _ _ _ _ _ => rfl⟩
theorem But3.alloc (k : But3 b g h w w') (o : Obj) : But3 b g h w (w'.alloc o) :=
  ⟨k.os, k.tape, k.output, by have := k.size; simp; omega, fun j hj h1 h2 h3 => (Go.Deep.blk_alloc_lt _ _ _ (by have := k.size; omega)).trans (k.block j hj h1 h2 h3)⟩
theorem But3.wrote (k : But3 b g h w w') (q : WroteIn w' w'' b (b + 1)) : But3 b g h w w'' := by
  have := k.size
  have := q.size
  exact ⟨q.os.trans k.os, q.tape.trans k.tape, q.output.trans k.output, by omega, fun j hj h1 h2 h3 => (q.block j (by omega) (by omega)).trans (k.block j hj h1 h2 h3)⟩
theorem But3.set (k : But3 b g h w w') {a : Addr} (ha : a.block = g ∨ a.block = h) (v : Value) : But3 b g h w (w'.setCell a v) :=
  ⟨k.os, k.tape, k.output, by simpa using k.size, fun j hj h1 h2 h3 => (Below.heap_setCell _ _ _ _ (by rcases ha with e | e <;> omega)).trans (k.block j hj h1 h2 h3)⟩
theorem But3.drewN (k : But3 b g h w w') (n : Nat) : But3 b g h w (w'.drewN n) := ⟨k.os, k.tape, k.output, k.size, k.block⟩
end
theorem ints_lit (l : List Int) (W : World) (E : TypeId) : Ints (W.alloc (.cells (l.map (Value.int .i64)).toArray E)) W.heap.size 0 l.length (fun j => l.getD j 0) := fun i hi => by
  have hh : (W.alloc (.cells (l.map (Value.int .i64)).toArray E)).heap[W.heap.size]? = some (.cells (l.map (Value.int .i64)).toArray E) := Go.Deep.blk_alloc_new _ _
  unfold World.cell?
  rw [hh]
  simp [List.getD, hi]

/-- a bed lies in a block of beds -/
def Spoilt (w w' : World) (b gb : Nat) (A : Option Addr) (n c : Nat) (K : Int) (N : Nat) (g nb : Nat) (V : Nat → Value) : Prop :=
  ∃ (P : Option Addr) (m d : Nat) (Y : Nat → Int) (a : Int), OwnV w' gb 26 nb (fun j => if j = 0 then .slice P m d else if j = 1 then .int .i64 a else V j) ∧ m ≤ 6 ∧ m ≤ d ∧ d ≤ maxLen ∧ Row w' N w'.heap.size P m 1 2 Y ∧ (0 < m → P = some ⟨g, 0, none⟩ ∨ ∃ g', P = some ⟨g', 0, none⟩ ∧ w.heap.size ≤ g') ∧ Src w' b A n c K ∧ But3 b gb g w w'

theorem v3_eq {V : Nat → Value} {u v : Value} (h0 : V 0 = u) (h1 : V 1 = v) (j : Nat) : V j = (if j = 0 then u else if j = 1 then v else V j) := by
  by_cases e0 : j = 0
  · rw [if_pos e0, e0, h0]
  · rw [if_neg e0]
    by_cases e1 : j = 1
    · rw [if_pos e1, e1, h1]
    · rw [if_neg e1]
theorem _root_.Go.Proofs.Ytcpaenmhnoagdac.mem.OwnV.alloc' {w : World} {g n : Nat} {E : TypeId} {V : Nat → Value} (h : OwnV w g E n V) (o : Obj) : OwnV (w.alloc o) g E n V := h.of_block (Go.Deep.blk_alloc_lt _ _ _ h.lt)

set_option maxHeartbeats 8000000 in
set_option maxRecDepth 100000 in
theorem spoil_c (b gb : Nat) (A : Option Addr) (n c : Nat) (X : Nat → Int) (K : Int) (g m d nb : Nat) (Y : Nat → Int) (a : Int) (V : Nat → Value) (N : Nat) (w : World) (hn : n ≤ 4096) (hK : K ≤ 800000000) (hA : 0 < n → ∀ x o, A = some ⟨x, o, none⟩ → x < b) (hs : Src w b A n c K) (hx : Sb w A n X)
    (m1 : 1 ≤ m) (m4 : m ≤ 4) (md : m ≤ d) (dm : d ≤ maxLen) (hO : mem.Own w g 2 m Y) (hB : OwnV w gb 26 nb V) (hnb : 2 ≤ nb) (hV0 : V 0 = .slice (some ⟨g, 0, none⟩) m d) (hV1 : V 1 = .int .i64 a) (hbg : b ≠ g) (hbb : b ≠ gb) (hgb : gb ≠ g) (hbN : b < N) (hgN : N ≤ g) (hN : N ≤ w.heap.size) :
    Calls Try.prog 101 #[.pointer (some ⟨b, 0, none⟩), .pointer (some ⟨gb, 0, none⟩)] w fun e w' => e = .returned (.tuple #[]) ∧ Spoilt w w' b gb A n c (K + 4) N g nb V := by
  have hlt := hs.lt
  have hgl := hO.lt
  have hgbl := hB.lt
  have HP := Lib.hid (pick_c b A n c X K 3 2 w hn (by omega) (by omega) (by omega) hA hs hx)
  have HX := Lib.hid hx
  have HA := Lib.hid hA
  have HO := Lib.hid hO
  have HB := Lib.hid hB
  clear hs hx hA hO hB
  go_enter Try.func101, Try.ntmps101
  go_wp2_with fail
  refine HP.out.mono ?_
  rintro e w1 ⟨r, rfl, r0, r1, s1, hw1⟩
  have z1 := hw1.size
  have W1 := Lib.hid hw1
  have S1 := Lib.hid s1
  have X1 := Lib.hid (HX.out.wrote hw1 HA.out (Nat.le_refl _))
  have O1 := Lib.hid (HO.out.of_block (hw1.block g hgl (by omega)))
  have B1 := Lib.hid (HB.out.of_block (hw1.block gb hgbl (by omega)))
  have T1 := Lib.hid ((But3.refl b gb g w).wrote hw1)
  have c0 := B1.out.cell (j := 0) (by omega)
  have c1 := B1.out.cell (j := 1) (by omega)
  rw [hV0] at c0
  rw [hV1] at c1
  have f0 := B1.out.frozen 0
  have f1 := B1.out.frozen 1
  have AM := Lib.hid (fun (W : World) (gz l dz : Nat) (Z : Nat → Int) (l1 : 1 ≤ l) (l2 : l ≤ 10) (hW : Below w1.heap.size w1 W) (hgz : w1.heap.size ≤ gz) (hgl : gz < W.heap.size) (hz : Ints W gz 0 l Z) => (show Calls Try.prog 69 #[.pointer (some ⟨b, 0, none⟩), .slice (some ⟨gz, 0, none⟩) l dz] W fun e w' => ∃ z : Int, (∃ j, j < l ∧ z = Z j) ∧ e = .returned (.int .i64 z) ∧ Src w' b A n c (K + 2 + 2) ∧ WroteIn W w' b (b + 1) from (among_c b A n c X (K + 2) gz l dz Z W hn (by omega) HA.out (S1.out.below hW (by omega)) (X1.out.below hW (Nat.le_refl _)) l1 l2 (by omega) hgl hz).mono fun _ _ ⟨j, hj, he, h1, h2⟩ => ⟨Z j, ⟨j, hj, rfl⟩, he, h1, h2⟩))
  have hgb1 : gb < w1.heap.size := by omega
  have hg1 : g < w1.heap.size := by omega
  clear s1 hw1
  have c0A : ∀ Z, (w1.alloc Z).cell? ⟨gb, 0, none⟩ = some (.slice (some ⟨g, 0, none⟩) m d) := fun Z => ((Below.alloc (Below.refl w1.heap.size w1) (Nat.le_refl _) Z).cell (p := ⟨gb, 0, none⟩) hgb1).trans c0
  have hwm : IntKind.i64.wrap ((m : Int) + 1) = (m : Int) + 1 := IntWalk.i64_in _ (by omega)
  have h3 : r = 0 ∨ r = 1 ∨ r = 2 := by omega
  rcases h3 with rfl | rfl | rfl
  · go_wp2_with fail
    clear c1 f0 f1
    go_region_with (go_at_call 69; go_loud (refine (AM.out _ w1.heap.size 5 5 (fun j => ([-1, 0, 10000, 10001, -9223372036854775808] : List Int).getD j 0) (by omega) (by omega) (by go_grown) (Nat.le_refl _) (by simp) (by first | exact ints_lit [-1, 0, 10000, 10001, -9223372036854775808] _ _ | exact Drew.ints (Drew.drew (Drew.refl _)) (ints_lit [-1, 0, 10000, 10001, -9223372036854775808] _ _))).mono ?_; rintro e w2 ⟨z, hz, rfl, s2, hw2⟩; have HZ := Lib.hid hz; clear hz; have e2 : ∀ k, k < w1.heap.size → k ≠ b → w2.heap[k]? = w1.heap[k]? := (fun k hk hb => (hw2.block k (by simp; omega) (by omega)).trans ((show Below w1.heap.size w1 _ from by go_grown).block k hk)); have T2 := Lib.hid (show But3 b gb g w w2 from by first | exact ((T1.out.alloc _).drewN 1).wrote hw2 | exact ((T1.out.drewN 1).alloc _).wrote hw2 | exact (T1.out.alloc _).wrote hw2); have z2 := hw2.size; simp at z2; have B2 := Lib.hid (B1.out.of_block (e2 gb hgb1 (by omega))); have O2 := Lib.hid (O1.out.of_block (e2 g hg1 (by omega))); have c0 := B2.out.cell (j := 0) (by omega); have c1 := B2.out.cell (j := 1) (by omega); rw [hV0] at c0; rw [hV1] at c1; have f0 := B2.out.frozen 0; have f1 := B2.out.frozen 1; have o0 := O2.out.cell (j := 0) (by omega); have of := O2.out.frozen 0; have S2 := Lib.hid s2; clear e2 s2 hw2))
    all_goals
      go_wp2
      go_end0
      refine ⟨rfl, some ⟨g, 0, none⟩, m, d, _, a, (B2.out.setOther (a := ⟨g, 0, none⟩) hgb _).congr (fun j _ => v3_eq hV0 hV1 j), by omega, md, dm, fun _ => ⟨g, rfl, hgN, by simp; omega, (O2.out.set 0 z).le (by omega)⟩, fun _ => .inl rfl, (S2.out.mono (by omega)).set (a := ⟨g, 0, none⟩) hbg _, T2.out.set (a := ⟨g, 0, none⟩) (.inr rfl) _⟩
  · go_wp2_with fail
    clear f0 f1
    go_region_with (go_at_call 69; go_loud (refine (AM.out _ w1.heap.size 4 4 (fun j => ([-1, 0, (m : Int), (m : Int) + 1] : List Int).getD j 0) (by omega) (by omega) (by go_grown) (Nat.le_refl _) (by simp) (by first | exact ints_lit [-1, 0, (m : Int), (m : Int) + 1] _ _ | exact Drew.ints (Drew.drew (Drew.refl _)) (ints_lit [-1, 0, (m : Int), (m : Int) + 1] _ _))).mono ?_; rintro e w2 ⟨z, hz, rfl, s2, hw2⟩; have HZ := Lib.hid hz; clear hz; have e2 : ∀ k, k < w1.heap.size → k ≠ b → w2.heap[k]? = w1.heap[k]? := (fun k hk hb => (hw2.block k (by simp; omega) (by omega)).trans ((show Below w1.heap.size w1 _ from by go_grown).block k hk)); have T2 := Lib.hid (show But3 b gb g w w2 from by first | exact ((T1.out.alloc _).drewN 1).wrote hw2 | exact ((T1.out.drewN 1).alloc _).wrote hw2 | exact (T1.out.alloc _).wrote hw2); have z2 := hw2.size; simp at z2; have B2 := Lib.hid (B1.out.of_block (e2 gb hgb1 (by omega))); have O2 := Lib.hid (O1.out.of_block (e2 g hg1 (by omega))); have c0 := B2.out.cell (j := 0) (by omega); have c1 := B2.out.cell (j := 1) (by omega); rw [hV0] at c0; rw [hV1] at c1; have f0 := B2.out.frozen 0; have f1 := B2.out.frozen 1; have o0 := O2.out.cell (j := 0) (by omega); have of := O2.out.frozen 0; have S2 := Lib.hid s2; clear e2 s2 hw2))
    all_goals
      go_wp2
      go_end0
      refine ⟨rfl, some ⟨g, 0, none⟩, m, d, Y, z, (B2.out.set 1 (.int .i64 z)).congr (fun j _ => ?_), by omega, md, dm, fun _ => ⟨g, rfl, hgN, by simp; omega, (O2.out.setOther (a := ⟨gb, 1, none⟩) (Ne.symm hgb) _).le (by omega)⟩, fun _ => .inl rfl, (S2.out.mono (by omega)).set (a := ⟨gb, 1, none⟩) hbb _, T2.out.set (a := ⟨gb, 1, none⟩) (.inl rfl) _⟩
      by_cases e1 : j = 1
      · simp [e1]
      · by_cases e0 : j = 0
        · simp [e0, hV0]
        · simp [e0, e1]
  · go_wp2_with fail
    refine (AM.out _ w1.heap.size 3 3 (fun j => ([0, 5, 6] : List Int).getD j 0) (by omega) (by omega) (by go_grown) (Nat.le_refl _) (by simp) (ints_lit [0, 5, 6] _ _)).mono ?_
    rintro e w2 ⟨z, hz, rfl, s2, hw2⟩
    have HZ := Lib.hid hz
    clear hz
    have e2 : ∀ k, k < w1.heap.size → k ≠ b → w2.heap[k]? = w1.heap[k]? := (fun k hk hb => (hw2.block k (by simp; omega) (by omega)).trans ((show Below w1.heap.size w1 _ from by go_grown).block k hk))
    have T2 := Lib.hid (show But3 b gb g w w2 from by first | exact ((T1.out.alloc _).drewN 1).wrote hw2 | exact ((T1.out.drewN 1).alloc _).wrote hw2 | exact (T1.out.alloc _).wrote hw2)
    have z2 := hw2.size
    simp at z2
    have B2 := Lib.hid (B1.out.of_block (e2 gb hgb1 (by omega)))
    have O2 := Lib.hid (O1.out.of_block (e2 g hg1 (by omega)))
    have c0 := B2.out.cell (j := 0) (by omega)
    have c1 := B2.out.cell (j := 1) (by omega)
    rw [hV0] at c0
    rw [hV1] at c1
    have f0 := B2.out.frozen 0
    have f1 := B2.out.frozen 1
    have o0 := O2.out.cell (j := 0) (by omega)
    have of := O2.out.frozen 0
    have S2 := Lib.hid s2
    clear e2 s2 hw2
    obtain ⟨l, rfl, hl6⟩ : ∃ l : Nat, z = (l : Int) ∧ l ≤ 6 := by
      obtain ⟨j, hj, e⟩ := HZ.out
      have h3 : j = 0 ∨ j = 1 ∨ j = 2 := by omega
      rcases h3 with rfl | rfl | rfl
      · exact ⟨0, e, by omega⟩
      · exact ⟨5, e, by omega⟩
      · exact ⟨6, e, by omega⟩
    have hmk := run_make_rows (P := Try.prog) 24 2 _ 1 8 Try.underlying24 nums.info_num .i64 .i64 l (by omega) (by omega)
    have c0B : ∀ Z, (w2.alloc Z).cell? ⟨gb, 0, none⟩ = some (.slice (some ⟨g, 0, none⟩) m d) := fun Z => ((Below.alloc (Below.refl w2.heap.size w2) (Nat.le_refl _) Z).cell (p := ⟨gb, 0, none⟩) (by show gb < w2.heap.size; omega)).trans c0
    have f0B : ∀ Z, (w2.alloc Z).frozen? ⟨gb, 0, none⟩ = false := fun Z => ((Below.alloc (Below.refl w2.heap.size w2) (Nat.le_refl _) Z).frozen (p := ⟨gb, 0, none⟩) (by show gb < w2.heap.size; omega)).trans f0
    go_wp2
    go_end0
    have hM : mem.Own (w2.alloc (Obj.cells (madeCells #[Value.int IntKind.i64 0] l) 2)) w2.heap.size 2 (l * 1) (fun _ => 0) := own_made w2 _ _ _ _ (fun i hi => by match i, hi with | 0, _ => rfl) (by simp) (by omega)
    refine ⟨rfl, some ⟨w2.heap.size, 0, none⟩, l, l, _, a, ((B2.out.alloc' _).set 0 (.slice (some ⟨w2.heap.size, 0, none⟩) l l)).congr (fun j _ => ?_), hl6, Nat.le_refl _, by unfold maxLen; omega, fun _ => ⟨w2.heap.size, rfl, by omega, by simp, hM.setOther (a := ⟨gb, 0, none⟩) (by show w2.heap.size ≠ gb; omega) _⟩, fun _ => .inr ⟨w2.heap.size, rfl, by omega⟩, ((S2.out.mono (by omega)).of_block (Go.Deep.blk_alloc_lt _ _ _ S2.out.lt) (by simp)).set (a := ⟨gb, 0, none⟩) hbb _, (T2.out.alloc _).set (a := ⟨gb, 0, none⟩) (.inl rfl) _⟩
    by_cases e0 : j = 0
    · rw [if_pos e0, if_pos e0]
    · rw [if_neg e0, if_neg e0]
      by_cases e1 : j = 1
      · rw [if_pos e1, e1, hV1]
      · rw [if_neg e1]
end Go.Proofs.Ytcpaenmhnoagdac.src
