/-
  The laws' own girths and thicknesses.
  The laws' own bundles: a new one.
  The laws' own bundles: one that is mostly not valid.
  The laws' own lists of bundles.
  What FnBundles draws.
  What FnBundles draws besides: one bundle, and two lists that are mostly alike.
  What FnBundles draws besides: two lists that are mostly alike.
-/
import Derived.Test.YtlepgkmpbhlajaaDoorKept
import Derived.RangeFuncBox
import Derived.Deep.RegionWith
import Derived.Test.YtlepgkmpbhlajaaDoorFBunch
import Derived.OwnWalk
namespace Go.Proofs.YtlepgkmpbhlajaaDoor.src
open Go.ChangeShapes Go.WideShapes Go.ChangeAt Go.RowKit Go.Proofs.YtlepgkmpbhlajaaDoor.mem
set_option linter.unusedVariables false

theorem intsG_lit (l : List Int) (W : World) (E : TypeId) : Ints (W.alloc (.cells (l.map (Value.int .i64)).toArray E)) W.heap.size 0 l.length (fun j => l.getD j 0) := fun i hi => by
  have hh : (W.alloc (.cells (l.map (Value.int .i64)).toArray E)).heap[W.heap.size]? = some (.cells (l.map (Value.int .i64)).toArray E) := Go.Deep.blk_alloc_new _ _
  unfold World.cell?
  rw [hh]
  simp [List.getD, hi]

set_option maxHeartbeats 1000000 in
theorem dthick_c (b : Nat) (A : Option Addr) (n c : Nat) (X : Nat → Int) (K : Int) (w : World) (hn : n ≤ 4096) (hK : K ≤ 700000000) (hA : 0 < n → ∀ x o, A = some ⟨x, o, none⟩ → x < b) (hs : Src w b A n c K) (hx : Sb w A n X) :
    Calls Tryd.prog 35 #[.pointer (some ⟨b, 0, none⟩)] w fun e w' => ∃ y : Int, e = .returned (.int .i64 y) ∧ -1 ≤ y ∧ y ≤ 301 ∧ Src w' b A n c (K + 4) ∧ Kept w.heap.size b w w' := by
  have hlt := hs.lt
  have HP := Lib.hid (one_c b A n c X K 8 7 w hn (by omega) (by omega) (by omega) hA hs hx)
  have HX := Lib.hid hx
  have HA := Lib.hid hA
  clear hs hx hA
  go_enter Tryd.func35, Tryd.ntmps35
  go_wp2_with fail
  refine HP.out.mono ?_
  rintro e w1 ⟨r, rfl, s1, hw1⟩
  have S1 := Lib.hid s1
  have z1 := hw1.size
  have X1 := Lib.hid (HX.out.wrote hw1 HA.out (Nat.le_refl _))
  have K1 := Lib.hid ((Kept.refl w.heap.size b w).wrote hw1 (Nat.le_refl _))
  clear s1 hw1
  cases r
  · go_wp2_with fail
    refine (pick_c b A n c X (K + 2) 90 89 w1 hn (by omega) (by omega) (by omega) HA.out S1.out X1.out).mono ?_
    rintro e w2 ⟨v, rfl, v0, v1, s2, hw2⟩
    have S2 := Lib.hid s2
    clear s2
    go_wp2
    go_ret
    exact ⟨30 + v, rfl, by omega, by omega, S2.out.mono (by omega), K1.out.wrote hw2 (Nat.le_refl _)⟩
  · go_wp2_with fail
    refine (among_c b A n c X (K + 2) w1.heap.size 5 5 (fun j => ([-1, 0, 1, 300, 301] : List Int).getD j 0) _ hn (by omega) HA.out (S1.out.of_block (Go.Deep.blk_alloc_lt _ _ _ S1.out.lt) (by simp)) (X1.out.below (K := w1.heap.size) (by go_grown) (Nat.le_refl _)) (by omega) (by omega) (by omega) (by simp) (intsG_lit [-1, 0, 1, 300, 301] _ _)).mono ?_
    rintro e w2 ⟨j, hj, rfl, s2, hw2⟩
    obtain ⟨y, hy, y0, y1⟩ : ∃ y, (fun j => ([-1, 0, 1, 300, 301] : List Int).getD j 0) j = y ∧ -1 ≤ y ∧ y ≤ 301 := ⟨_, rfl, by
      have h5 : j = 0 ∨ j = 1 ∨ j = 2 ∨ j = 3 ∨ j = 4 := by omega
      rcases h5 with rfl | rfl | rfl | rfl | rfl <;> decide, by
      have h5 : j = 0 ∨ j = 1 ∨ j = 2 ∨ j = 3 ∨ j = 4 := by omega
      rcases h5 with rfl | rfl | rfl | rfl | rfl <;> decide⟩
    rw [hy]
    have S2 := Lib.hid s2
    have K2 := Lib.hid ((K1.out.alloc (Nat.le_refl _) _).wrote hw2 (Nat.le_refl _))
    clear s2 hw2 hy
    go_wp2
    go_ret
    exact ⟨y, rfl, y0, y1, S2.out.mono (by omega), K2.out⟩

end Go.Proofs.YtlepgkmpbhlajaaDoor.src

namespace Go.Proofs.YtlepgkmpbhlajaaDoor.src
open Go.ChangeShapes Go.WideShapes Go.ChangeAt Go.RowKit Go.Proofs.YtlepgkmpbhlajaaDoor.mem
set_option linter.unusedVariables false

theorem res_bun {W : World} {g : Nat} {x y z : Int} (h : W.heap[g]? = some (.cells #[.int .i64 x, .int .i64 y, .int .i64 z] 40 (0, 0))) : (W.cell? ⟨g, 0, none⟩ = some (.int .i64 x) ∧ W.cell? ⟨g, 1, none⟩ = some (.int .i64 y) ∧ W.cell? ⟨g, 2, none⟩ = some (.int .i64 z)) ∧ W.frozen? ⟨g, 0, none⟩ = false ∧ W.frozen? ⟨g, 1, none⟩ = false ∧ W.frozen? ⟨g, 2, none⟩ = false :=
  ⟨⟨by simp [World.cell?, h], by simp [World.cell?, h], by simp [World.cell?, h]⟩, by simp [World.frozen?, h], by simp [World.frozen?, h], by simp [World.frozen?, h]⟩

set_option maxHeartbeats 4000000 in
set_option maxRecDepth 100000 in
theorem newU_c (b : Nat) (A : Option Addr) (n c : Nat) (X : Nat → Int) (K : Int) (w : World) (hn : n ≤ 4096) (hK : K ≤ 800000000) (hA : 0 < n → ∀ x o, A = some ⟨x, o, none⟩ → x < b) (hs : Src w b A n c K) (hx : Sb w A n X) :
    Calls Tryd.prog 59 #[.pointer (some ⟨b, 0, none⟩)] w fun e w' => ∃ L G W : Int, e = .returned (.agg #[.int .i64 L, .int .i64 G, .int .i64 W]) ∧ Src w' b A n c (K + 6) ∧ Kept w.heap.size b w w' := by
  have hlt := hs.lt
  have HA := Lib.hid hA
  have HX := Lib.hid hx
  have KEY := Lib.hid (fun (J m h : Int) (wr : World) (h1 : J ≤ 900000000) (h2 : m - 1 ≤ h) (h3 : 0 ≤ h) (h4 : Src wr b A n c J) (h5 : Kept w.heap.size b w wr) => pick_c b A n c X J m h wr hn h1 h2 h3 hA h4 (hx.kept h5 hA (by omega)))
  obtain ⟨W0, hW0⟩ : ∃ W, W = ((w.alloc (.cells #[.int .i64 0, .int .i64 0, .int .i64 0] 40)).alloc (.cells #[.int .i64 900, .int .i64 1200, .int .i64 1500] 2)) := ⟨_, rfl⟩
  have r0 : W0.heap[w.heap.size]? = some (.cells #[.int .i64 0, .int .i64 0, .int .i64 0] 40 (0, 0)) := by rw [hW0]; exact (Go.Deep.blk_alloc_lt _ _ _ (by simp)).trans (Go.Deep.blk_alloc_new _ _)
  have zz : Ints W0 (w.heap.size + 1) 0 3 (fun j => ([900, 1200, 1500] : List Int).getD j 0) := by
    rw [hW0]
    have h := intsG_lit [900, 1200, 1500] (w.alloc (.cells #[.int .i64 0, .int .i64 0, .int .i64 0] 40)) 2
    rw [World.size_alloc] at h
    exact h
  have s0 : Src W0 b A n c K := by rw [hW0]; exact hs.below (B := w.heap.size) (by go_grown) hlt
  have k0 : Kept w.heap.size b w W0 := by rw [hW0]; exact ((Kept.refl _ _ _).alloc (Nat.le_refl _) _).alloc (Nat.le_refl _) _
  have z0 : W0.heap.size = w.heap.size + 1 + 1 := by rw [hW0]; simp
  have hne0 : b ≠ w.heap.size := by omega
  have ZZ := Lib.hid zz
  have S0 := Lib.hid s0
  have K0 := Lib.hid k0
  have R0 := Lib.hid r0
  clear hs hx hA zz s0 k0 r0
  go_enter Tryd.func59, Tryd.ntmps59
  go_wp2_with fail
  rw [← hW0]
  clear hW0
  refine (among_c b A n c X K (w.heap.size + 1) 3 3 (fun j => ([900, 1200, 1500] : List Int).getD j 0) W0 hn (by omega) HA.out S0.out (HX.out.kept K0.out HA.out (by omega)) (by omega) (by omega) (by omega) (by omega) ZZ.out).mono ?_
  rintro e w1 ⟨j, hj, rfl, s1, hw1⟩
  generalize (fun j => ([900, 1200, 1500] : List Int).getD j 0) j = L
  have z1 := hw1.size
  have R1 := Lib.hid ((hw1.block w.heap.size (by omega) (by omega)).trans R0.out)
  have K1 := Lib.hid (K0.out.wrote hw1 (by omega))
  have S1 := Lib.hid s1
  clear s1 hw1 hj
  go_wp2_with fail
  refine (KEY.out (K + 2) 60 59 w1 (by omega) (by omega) (by omega) S1.out K1.out).mono ?_
  rintro e w2 ⟨q, rfl, q0, q1, s2, hw2⟩
  have z2 := hw2.size
  have r2 := (hw2.block w.heap.size (by omega) (by omega)).trans R1.out
  have k2 := K1.out.wrote hw2 (by omega)
  obtain ⟨W3, hW3⟩ : ∃ W, W = w2.alloc (.cells #[.int .i64 L, .int .i64 (300 + 10 * q), .int .i64 0] 40) := ⟨_, rfl⟩
  have P3 := Lib.hid (show W3.heap[w2.heap.size]? = some (.cells #[.int .i64 L, .int .i64 (300 + 10 * q), .int .i64 0] 40 (0, 0)) from by rw [hW3]; exact Go.Deep.blk_alloc_new _ _)
  have R3 := Lib.hid (show W3.heap[w.heap.size]? = some (.cells #[.int .i64 0, .int .i64 0, .int .i64 0] 40 (0, 0)) from by rw [hW3]; exact (Go.Deep.blk_alloc_lt _ _ _ (by omega)).trans r2)
  have S3 := Lib.hid (show Src W3 b A n c (K + 2 + 2) from by rw [hW3]; exact s2.below (B := w2.heap.size) (by go_grown) (by omega))
  have K3 := Lib.hid (show Kept w.heap.size b w W3 from by rw [hW3]; exact k2.alloc (by omega) _)
  have z3 : W3.heap.size = w2.heap.size + 1 := by rw [hW3]; simp
  clear r2 k2 s2 hw2
  go_wp2_with fail
  rw [← hW3]
  clear hW3
  refine (KEY.out (K + 2 + 2) 30 29 W3 (by omega) (by omega) (by omega) S3.out K3.out).mono ?_
  rintro e w4 ⟨p, rfl, p0, p1, s4, hw4⟩
  have z4 := hw4.size
  have r4 := (hw4.block w.heap.size (by omega) (by omega)).trans R3.out
  have x4 := (hw4.block w2.heap.size (by omega) (by omega)).trans P3.out
  obtain ⟨⟨c0, c1, c2⟩, f0, f1, f2⟩ := res_bun r4
  obtain ⟨⟨d0, d1, d2⟩, g0, g1, g2⟩ := res_bun x4
  have hne2 : w.heap.size ≠ w2.heap.size := by omega
  have hne3 : b ≠ w2.heap.size := by omega
  have S4 := Lib.hid s4
  have K4 := Lib.hid (K3.out.wrote hw4 (by omega))
  clear s4 hw4 r4 x4
  go_wp2
  refine bodyPost_ret (v := .agg #[.int .i64 L, .int .i64 (300 + 10 * q), .int .i64 (500 + 100 * p)]) (by simp [results, Tryd.results59, go_sem, c0, c1, c2]) rfl ?_
  exact ⟨L, _, _, rfl, ((((S4.out.mono (by omega)).set (a := ⟨w2.heap.size, 2, none⟩) hne3 _).set (a := ⟨w.heap.size, 0, none⟩) hne0 _).set (a := ⟨w.heap.size, 1, none⟩) hne0 _).set (a := ⟨w.heap.size, 2, none⟩) hne0 _,
    (((K4.out.set (a := ⟨w2.heap.size, 2, none⟩) (by show w.heap.size ≤ w2.heap.size; omega) _).set (a := ⟨w.heap.size, 0, none⟩) (Nat.le_refl _) _).set (a := ⟨w.heap.size, 1, none⟩) (Nat.le_refl _) _).set (a := ⟨w.heap.size, 2, none⟩) (Nat.le_refl _) _⟩

end Go.Proofs.YtlepgkmpbhlajaaDoor.src

namespace Go.Proofs.YtlepgkmpbhlajaaDoor.src
open Go.ChangeShapes Go.WideShapes Go.ChangeAt Go.RowKit Go.Proofs.YtlepgkmpbhlajaaDoor.mem
set_option linter.unusedVariables false

set_option maxHeartbeats 4000000 in
set_option maxRecDepth 100000 in
theorem spoilU_c (b g N nb : Nat) (Y : Nat → Int) (A : Option Addr) (n c : Nat) (X : Nat → Int) (K : Int) (w : World) (hn : n ≤ 4096) (hK : K ≤ 800000000) (hA : 0 < n → ∀ x o, A = some ⟨x, o, none⟩ → x < b) (hs : Src w b A n c K) (hx : Sb w A n X) (hN : N ≤ g) (hb : b < N) (ho : mem.Own w g 40 nb Y) (h3 : 3 ≤ nb) :
    Calls Tryd.prog 60 #[.pointer (some ⟨b, 0, none⟩), .pointer (some ⟨g, 0, none⟩)] w fun e w' => ∃ Z, e = .returned (.tuple #[]) ∧ mem.Own w' g 40 nb Z ∧ Src w' b A n c (K + 4) ∧ Kept N b w w' := by
  have hlt := hs.lt
  have hgl := ho.lt
  have HA := Lib.hid hA
  have HX := Lib.hid hx
  have HO := Lib.hid ho
  have HP := Lib.hid (pick_c b A n c X K 3 2 w hn (by omega) (by omega) (by omega) hA hs hx)
  clear hs hx hA ho
  go_enter Tryd.func60, Tryd.ntmps60
  go_wp2_with fail
  refine HP.out.mono ?_
  rintro e w1 ⟨v, rfl, v0, v1, s1, hw1⟩
  have z1 := hw1.size
  have S1 := Lib.hid s1
  have X1 := Lib.hid (HX.out.wrote hw1 HA.out (Nat.le_refl _))
  have K1 := Lib.hid ((Kept.refl N b w).wrote hw1 (by omega))
  have O1 := Lib.hid (own_wrote HO.out hw1 (by omega))
  clear s1 hw1
  obtain rfl | rfl | rfl : v = 0 ∨ v = 1 ∨ v = 2 := by omega
  · go_wp2_with fail
    refine (among_c b A n c X (K + 2) w1.heap.size 5 5 (fun j => ([-1, 99, 100, 3000, 3001] : List Int).getD j 0) _ hn (by omega) HA.out (S1.out.of_block (Go.Deep.blk_alloc_lt _ _ _ S1.out.lt) (by simp)) (X1.out.below (K := w1.heap.size) (by go_grown) (Nat.le_refl _)) (by omega) (by omega) (by omega) (by simp) (intsG_lit [-1, 99, 100, 3000, 3001] _ _)).mono ?_
    rintro e w2 ⟨j, hj, rfl, s2, hw2⟩
    generalize (fun j => ([-1, 99, 100, 3000, 3001] : List Int).getD j 0) j = y
    have z2 := hw2.size
    simp at z2
    have S2 := Lib.hid s2
    have K2 := Lib.hid ((K1.out.alloc (by omega) _).wrote hw2 (by omega))
    have O2 := Lib.hid (own_wrote (O1.out.alloc _) hw2 (by omega))
    have cc := O2.out.cell (j := 0) (by omega)
    have ff := O2.out.frozen 0
    have hne : b ≠ g := by omega
    clear s2 hw2 hj
    go_wp2
    go_end0
    exact ⟨_, rfl, O2.out.set 0 y, (S2.out.mono (by omega)).set (a := ⟨g, 0, none⟩) hne _, K2.out.set (a := ⟨g, 0, none⟩) hN _⟩
  · go_wp2_with fail
    refine (among_c b A n c X (K + 2) w1.heap.size 6 6 (fun j => ([-1, 9, 10, 2000, 2001, -9223372036854775808] : List Int).getD j 0) _ hn (by omega) HA.out (S1.out.of_block (Go.Deep.blk_alloc_lt _ _ _ S1.out.lt) (by simp)) (X1.out.below (K := w1.heap.size) (by go_grown) (Nat.le_refl _)) (by omega) (by omega) (by omega) (by simp) (intsG_lit [-1, 9, 10, 2000, 2001, -9223372036854775808] _ _)).mono ?_
    rintro e w2 ⟨j, hj, rfl, s2, hw2⟩
    generalize (fun j => ([-1, 9, 10, 2000, 2001, -9223372036854775808] : List Int).getD j 0) j = y
    have z2 := hw2.size
    simp at z2
    have S2 := Lib.hid s2
    have K2 := Lib.hid ((K1.out.alloc (by omega) _).wrote hw2 (by omega))
    have O2 := Lib.hid (own_wrote (O1.out.alloc _) hw2 (by omega))
    have cc := O2.out.cell (j := 1) (by omega)
    have ff := O2.out.frozen 1
    have hne : b ≠ g := by omega
    clear s2 hw2 hj
    go_wp2
    go_end0
    exact ⟨_, rfl, O2.out.set 1 y, (S2.out.mono (by omega)).set (a := ⟨g, 1, none⟩) hne _, K2.out.set (a := ⟨g, 1, none⟩) hN _⟩
  · go_wp2_with fail
    refine (among_c b A n c X (K + 2) w1.heap.size 5 5 (fun j => ([-1, 0, 1, 50000, 50001] : List Int).getD j 0) _ hn (by omega) HA.out (S1.out.of_block (Go.Deep.blk_alloc_lt _ _ _ S1.out.lt) (by simp)) (X1.out.below (K := w1.heap.size) (by go_grown) (Nat.le_refl _)) (by omega) (by omega) (by omega) (by simp) (intsG_lit [-1, 0, 1, 50000, 50001] _ _)).mono ?_
    rintro e w2 ⟨j, hj, rfl, s2, hw2⟩
    generalize (fun j => ([-1, 0, 1, 50000, 50001] : List Int).getD j 0) j = y
    have z2 := hw2.size
    simp at z2
    have S2 := Lib.hid s2
    have K2 := Lib.hid ((K1.out.alloc (by omega) _).wrote hw2 (by omega))
    have O2 := Lib.hid (own_wrote (O1.out.alloc _) hw2 (by omega))
    have cc := O2.out.cell (j := 2) (by omega)
    have ff := O2.out.frozen 2
    have hne : b ≠ g := by omega
    clear s2 hw2 hj
    go_wp2
    go_end0
    exact ⟨_, rfl, O2.out.set 2 y, (S2.out.mono (by omega)).set (a := ⟨g, 2, none⟩) hne _, K2.out.set (a := ⟨g, 2, none⟩) hN _⟩

end Go.Proofs.YtlepgkmpbhlajaaDoor.src

namespace Go.Proofs.YtlepgkmpbhlajaaDoor.src
open Go.ChangeShapes Go.WideShapes Go.ChangeAt Go.RowKit Go.Proofs.YtlepgkmpbhlajaaDoor.mem
set_option linter.unusedVariables false

def add3 (Y : Nat → Int) (i : Nat) (a b c : Int) (j : Nat) : Int := if j = i * 3 then a else if j = i * 3 + 1 then b else if j = i * 3 + 2 then c else Y j
theorem iC_add3 (Y : Nat → Int) (i : Nat) (a b c : Int) : iC (add3 Y i a b c) ((i + 1) * 3) = iC Y (i * 3) ++ [.int .i64 a, .int .i64 b, .int .i64 c] := by
  unfold iC
  rw [show (i + 1) * 3 = i * 3 + 1 + 1 + 1 by omega]
  rw [List.range_succ, List.range_succ, List.range_succ]
  simp only [List.map_append, List.map_cons, List.map_nil, List.append_assoc, List.cons_append, List.nil_append]
  rw [show add3 Y i a b c (i * 3) = a by unfold add3; rw [if_pos rfl], show add3 Y i a b c (i * 3 + 1) = b by unfold add3; rw [if_neg (by omega), if_pos rfl], show add3 Y i a b c (i * 3 + 1 + 1) = c by unfold add3; rw [if_neg (by omega), if_neg (by omega), if_pos rfl]]
  congr 1
  exact List.map_congr_left fun j hj => by
    have := List.mem_range.1 hj
    unfold add3
    rw [if_neg (by omega), if_neg (by omega), if_neg (by omega)]
theorem sl_of_owns3 {w : World} {B n : Nat} {E : TypeId} {v : Value} {Y : Nat → Int} (h : w.ownsRow B E 3 v n (iC Y (n * 3))) : ∃ A c, v = .slice A n c ∧ n ≤ c ∧ c ≤ maxLen ∧ Row w B w.heap.size A n 3 E Y := by
  rcases h.2 with ⟨rfl, rfl⟩ | ⟨g, cap, cur, rfl, hB, hh, hc, hm, hs, ht⟩
  · exact ⟨none, 0, rfl, Nat.le_refl _, by unfold maxLen; omega, Row.none_⟩
  · refine ⟨_, _, rfl, hc, hm, fun hn => ⟨g, rfl, hB, (Array.getElem?_eq_some_iff.1 hh).1, cur, hh, by rw [hs]; exact Nat.mul_le_mul_right _ hc, fun i hi => ?_⟩⟩
    have e1 : cur[i]? = cur.toList[i]? := by simp
    have e2 : cur.toList[i]? = (cur.toList.take (n * 3))[i]? := by rw [List.getElem?_take_of_lt hi]
    rw [e1, e2, ht]
    unfold iC
    rw [List.getElem?_map, List.getElem?_range hi]
    rfl
/-- between two rounds -/
def GrowU (w wr : World) (b : Nat) (A : Option Addr) (n c : Nat) (K : Int) (i : Nat) (v : Value) (Y : Nat → Int) : Prop :=
  wr.ownsRow w.heap.size 40 3 v i (iC Y (i * 3)) ∧ Src wr b A n c (K + 8 + 6 * i) ∧ Kept w.heap.size b w wr
/-- the answer is a list of bundles of the call's own, and the source lies on -/
def DrawnU (w : World) (b : Nat) (A : Option Addr) (n c : Nat) (K : Int) (e : Ending) (w' : World) : Prop :=
  ∃ (P : Option Addr) (k d : Nat) (Y : Nat → Int), e = .returned (.slice P k d) ∧ k ≤ 31 ∧ k ≤ d ∧ d ≤ maxLen ∧ Row w' w.heap.size w'.heap.size P k 3 40 Y ∧ Src w' b A n c K ∧ Kept w.heap.size b w w'

set_option maxHeartbeats 8000000 in
set_option maxRecDepth 100000 in
theorem drawU_c (b : Nat) (A : Option Addr) (n c : Nat) (X : Nat → Int) (K : Int) (w : World) (hn : n ≤ 4096) (hK : K ≤ 700000000) (hA : 0 < n → ∀ x o, A = some ⟨x, o, none⟩ → x < b) (hs : Src w b A n c K) (hx : Sb w A n X) :
    Calls Tryd.prog 41 #[.pointer (some ⟨b, 0, none⟩)] w (DrawnU w b A n c (K + 300)) := by
  have hlt := hs.lt
  have HA := Lib.hid hA
  have HX := Lib.hid hx
  obtain ⟨i0, hi0, hz0, hz1, hz2⟩ := info_parts rod.info_bunch
  obtain ⟨W0, hW0⟩ : ∃ W, W = w.alloc (.cells #[] 40) := ⟨_, rfl⟩
  have O0 := Lib.hid (show W0.ownsRow w.heap.size 40 3 (.slice (some ⟨w.heap.size, 0, none⟩) 0 0) 0 (iC (fun _ => 0) (0 * 3)) from by rw [hW0]; exact owns_new0 w 40 3 w.heap.size (Nat.le_refl _))
  have S0 := Lib.hid (show Src W0 b A n c K from by rw [hW0]; exact hs.below (B := w.heap.size) (by go_grown) hlt)
  have K0 := Lib.hid (show Kept w.heap.size b w W0 from by rw [hW0]; exact (Kept.refl _ _ _).alloc (Nat.le_refl _) _)
  have z0 : W0.heap.size = w.heap.size + 1 := by rw [hW0]; simp
  clear hs hx hA
  go_enter Tryd.func41, Tryd.ntmps41
  go_wp2_with fail
  rw [← hW0]
  clear hW0
  refine (pick_c b A n c X K 8 7 W0 hn (by omega) (by omega) (by omega) HA.out S0.out (HX.out.kept K0.out HA.out (by omega))).mono ?_
  rintro e w1 ⟨q, rfl, q0, q1, s1, hw1⟩
  obtain ⟨m, rfl⟩ : ∃ m : Nat, q = m := ⟨q.toNat, by omega⟩
  have hm : m ≤ 7 := by omega
  have z1 := hw1.size
  have O1 := Lib.hid (owns_wrote1 O0.out hw1 hlt)
  have S1 := Lib.hid s1
  have K1 := Lib.hid (K0.out.wrote hw1 (Nat.le_refl _))
  clear s1 hw1
  go_wp2_with fail
  refine (one_c b A n c X (K + 2) 16 15 w1 hn (by omega) (by omega) (by omega) HA.out S1.out (HX.out.kept K1.out HA.out (by omega))).mono ?_
  rintro e w2 ⟨r, rfl, s2, hw2⟩
  have z2 := hw2.size
  have O2 := Lib.hid (owns_wrote1 O1.out hw2 hlt)
  have S2 := Lib.hid s2
  have K2 := Lib.hid (K1.out.wrote hw2 (Nat.le_refl _))
  clear s2 hw2
  cases r
  · have G2 := Lib.hid (show GrowU w w2 b A n c K 0 (.slice (some ⟨w.heap.size, 0, none⟩) 0 0) (fun _ => 0) from ⟨O2.out, S2.out.mono (by omega), K2.out⟩)
    have hm31 : m ≤ 31 := by omega
    go_wp2_with fail
    go_loopw [5, 3] (fun s v wr => ∃ (k i : Nat) (Y : Nat → Int), s = .int .i64 k ∧ i + k = m ∧ GrowU w wr b A n c K i v Y) (fun s _ _ => (intOf s).toNat)
    case atStart => exact ⟨m, 0, fun _ => 0, rfl, by omega, G2.out⟩
    case round =>
      obtain ⟨k, i, Y, rfl, hik, ho, hs, hk⟩ := hrel
      have zk := hk.size
      have HO := Lib.hid ho
      have HSr := Lib.hid hs
      have HK := Lib.hid hk
      clear ho hs hk
      by_cases hk0 : 0 < k
      · have hk' : (0 : Int) < (k : Int) := by omega
        go_wp2_with fail
        refine (newU_c b A n c X (K + 8 + 6 * i) wr hn (by omega) HA.out HSr.out (HX.out.kept HK.out HA.out (by omega))).mono ?_
        rintro e w3 ⟨L, G, W, rfl, s3, k3⟩
        have z3 := k3.size
        have O3 := Lib.hid (owns_kept HO.out k3 (Nat.le_refl _) hlt)
        have S3 := Lib.hid s3
        have K3 := Lib.hid (HK.out.trans (k3.mono zk))
        have hl1 : i + 1 ≤ maxLen := by unfold maxLen; omega
        have hl2 : (i + 1) * 24 ≤ 140737488355328 := by omega
        clear s3 k3
        go_wp2_with (at_builtin; refine wpList_append_own _ rfl _ _ 27 rfl w.heap.size 40 i0 _ 3 24 Tryd.underlying27 hi0 hz0 hz1 hz2 rfl (by decide) _ _ _ rfl (O3.out.alloc _) ⟨w3.heap.size, 0, none⟩ 1 1 [.int .i64 L, .int .i64 G, .int .i64 W] rfl rfl ?c1 ?c2 hl1 hl2 ?c5 ?_)
        case c1 => intro j u hj; rcases j with _ | _ | _ | j <;> simp at hj <;> subst hj <;> go_simp
        case c2 => intro u hu; simp at hu; rcases hu with rfl | rfl | rfl <;> rfl
        case c5 => simp; omega
        intro v' w6 hown6 hgrow6 _
        have H6 := Lib.hid (show GrowU w w6 b A n c K (i + 1) v' (add3 Y i L G W) from
          ⟨by rw [iC_add3]; exact hown6, by
            have q := (S3.out.below (B := w3.heap.size) (show Below w3.heap.size w3 (w3.alloc (.cells #[.int .i64 L, .int .i64 G, .int .i64 W] 40)) from by go_grown) (by omega)).of_block (hgrow6.block b (by simp; omega) (fun e => by have := owns_ge O3.out b e.symm; omega)) hgrow6.size
            exact q.mono (by omega), (K3.out.alloc (Nat.le_refl _) _).grown (Nat.le_refl _) hgrow6 (owns_ge O3.out)⟩)
        clear hown6 hgrow6
        go_wp2
        go_roundw
        case rel => exact ⟨k - 1, i + 1, _, by go_num, by omega, H6.out⟩
        case measure => simp [intOf]; omega
      · obtain rfl : k = 0 := by omega
        obtain rfl : i = m := by omega
        obtain ⟨P, d, rfl, hd1, hd2, hrow⟩ := sl_of_owns3 HO.out
        have HR := Lib.hid hrow
        by_cases hi : 0 < i
        · obtain ⟨g, rfl, hgl, hgh, hown⟩ := hrow hi
          have hi' : (0 : Int) < (i : Int) := by omega
          have HW := Lib.hid hown
          clear hrow hown
          go_wp2_with fail
          refine (one_c b A n c X (K + 8 + 6 * i) 10 9 wr hn (by omega) (by omega) (by omega) HA.out HSr.out (HX.out.kept HK.out HA.out (by omega))).mono ?_
          rintro e w4 ⟨r, rfl, s4, hw4⟩
          have z4 := hw4.size
          have S4 := Lib.hid s4
          have K4 := Lib.hid (HK.out.wrote hw4 (Nat.le_refl _))
          have O4 := Lib.hid (own_wrote HW.out hw4 (by omega))
          clear s4 hw4
          cases r
          · go_wp2_with fail
            go_ret
            exact ⟨_, i, d, Y, rfl, by omega, hd1, hd2, fun _ => ⟨g, rfl, hgl, by omega, O4.out⟩, S4.out.mono (by omega), K4.out⟩
          · go_wp2_with fail
            refine (spoilU_c b g w.heap.size (i * 3) Y A n c X (K + 8 + 6 * i + 2) w4 hn (by omega) HA.out S4.out (HX.out.kept K4.out HA.out (by omega)) hgl hlt O4.out (by omega)).mono ?_
            rintro e w5 ⟨Y5, rfl, o5, s5, k5⟩
            have z5 := k5.size
            have O5 := Lib.hid o5
            have S5 := Lib.hid s5
            have K5 := Lib.hid (K4.out.trans k5)
            clear o5 s5 k5
            go_wp2
            go_ret
            exact ⟨_, i, d, Y5, rfl, by omega, hd1, hd2, fun _ => ⟨g, rfl, hgl, by omega, O5.out⟩, S5.out.mono (by omega), K5.out⟩
        · have hi' : ¬ (0 : Int) < (i : Int) := by omega
          clear hrow
          go_wp2
          go_ret
          exact ⟨_, i, d, Y, rfl, by omega, hd1, hd2, HR.out, HSr.out.mono (by omega), HK.out⟩

  · clear hm q0 q1
    go_wp2_with fail
    refine (among_c b A n c X (K + 2 + 2) w2.heap.size 4 4 (fun j => ([10, 11, 30, 31] : List Int).getD j 0) _ hn (by omega) HA.out (S2.out.of_block (Go.Deep.blk_alloc_lt _ _ _ S2.out.lt) (by simp)) ((HX.out.kept K2.out HA.out (by omega)).below (K := w2.heap.size) (by go_grown) (Nat.le_refl _)) (by omega) (by omega) (by omega) (by simp) (intsG_lit [10, 11, 30, 31] _ _)).mono ?_
    rintro e w3 ⟨j, hj, rfl, s3, hw3⟩
    obtain ⟨m2, hm, hm31⟩ : ∃ m : Nat, (fun j => ([10, 11, 30, 31] : List Int).getD j 0) j = m ∧ m ≤ 31 := by
      have h5 : j = 0 ∨ j = 1 ∨ j = 2 ∨ j = 3 := by omega
      rcases h5 with rfl | rfl | rfl | rfl
      · exact ⟨10, rfl, by omega⟩
      · exact ⟨11, rfl, by omega⟩
      · exact ⟨30, rfl, by omega⟩
      · exact ⟨31, rfl, by omega⟩
    rw [hm]
    have z3 := hw3.size
    simp at z3
    have G2 := Lib.hid (show GrowU w w3 b A n c K 0 (.slice (some ⟨w.heap.size, 0, none⟩) 0 0) (fun _ => 0) from ⟨owns_wrote1 (O2.out.alloc _) hw3 hlt, s3.mono (by omega), (K2.out.alloc (Nat.le_refl _) _).wrote hw3 (Nat.le_refl _)⟩)
    clear s3 hw3 hm hj
    go_wp2_with fail
    go_loopw [5, 3] (fun s v wr => ∃ (k i : Nat) (Y : Nat → Int), s = .int .i64 k ∧ i + k = m2 ∧ GrowU w wr b A n c K i v Y) (fun s _ _ => (intOf s).toNat)
    case atStart => exact ⟨m2, 0, fun _ => 0, rfl, by omega, G2.out⟩
    case round =>
      obtain ⟨k, i, Y, rfl, hik, ho, hs, hk⟩ := hrel
      have zk := hk.size
      have HO := Lib.hid ho
      have HSr := Lib.hid hs
      have HK := Lib.hid hk
      clear ho hs hk
      by_cases hk0 : 0 < k
      · have hk' : (0 : Int) < (k : Int) := by omega
        go_wp2_with fail
        refine (newU_c b A n c X (K + 8 + 6 * i) wr hn (by omega) HA.out HSr.out (HX.out.kept HK.out HA.out (by omega))).mono ?_
        rintro e w3 ⟨L, G, W, rfl, s3, k3⟩
        have z3 := k3.size
        have O3 := Lib.hid (owns_kept HO.out k3 (Nat.le_refl _) hlt)
        have S3 := Lib.hid s3
        have K3 := Lib.hid (HK.out.trans (k3.mono zk))
        have hl1 : i + 1 ≤ maxLen := by unfold maxLen; omega
        have hl2 : (i + 1) * 24 ≤ 140737488355328 := by omega
        clear s3 k3
        go_wp2_with (at_builtin; refine wpList_append_own _ rfl _ _ 27 rfl w.heap.size 40 i0 _ 3 24 Tryd.underlying27 hi0 hz0 hz1 hz2 rfl (by decide) _ _ _ rfl (O3.out.alloc _) ⟨w3.heap.size, 0, none⟩ 1 1 [.int .i64 L, .int .i64 G, .int .i64 W] rfl rfl ?c1 ?c2 hl1 hl2 ?c5 ?_)
        case c1 => intro j u hj; rcases j with _ | _ | _ | j <;> simp at hj <;> subst hj <;> go_simp
        case c2 => intro u hu; simp at hu; rcases hu with rfl | rfl | rfl <;> rfl
        case c5 => simp; omega
        intro v' w6 hown6 hgrow6 _
        have H6 := Lib.hid (show GrowU w w6 b A n c K (i + 1) v' (add3 Y i L G W) from
          ⟨by rw [iC_add3]; exact hown6, by
            have q := (S3.out.below (B := w3.heap.size) (show Below w3.heap.size w3 (w3.alloc (.cells #[.int .i64 L, .int .i64 G, .int .i64 W] 40)) from by go_grown) (by omega)).of_block (hgrow6.block b (by simp; omega) (fun e => by have := owns_ge O3.out b e.symm; omega)) hgrow6.size
            exact q.mono (by omega), (K3.out.alloc (Nat.le_refl _) _).grown (Nat.le_refl _) hgrow6 (owns_ge O3.out)⟩)
        clear hown6 hgrow6
        go_wp2
        go_roundw
        case rel => exact ⟨k - 1, i + 1, _, by go_num, by omega, H6.out⟩
        case measure => simp [intOf]; omega
      · obtain rfl : k = 0 := by omega
        obtain rfl : i = m2 := by omega
        obtain ⟨P, d, rfl, hd1, hd2, hrow⟩ := sl_of_owns3 HO.out
        have HR := Lib.hid hrow
        by_cases hi : 0 < i
        · obtain ⟨g, rfl, hgl, hgh, hown⟩ := hrow hi
          have hi' : (0 : Int) < (i : Int) := by omega
          have HW := Lib.hid hown
          clear hrow hown
          go_wp2_with fail
          refine (one_c b A n c X (K + 8 + 6 * i) 10 9 wr hn (by omega) (by omega) (by omega) HA.out HSr.out (HX.out.kept HK.out HA.out (by omega))).mono ?_
          rintro e w4 ⟨r, rfl, s4, hw4⟩
          have z4 := hw4.size
          have S4 := Lib.hid s4
          have K4 := Lib.hid (HK.out.wrote hw4 (Nat.le_refl _))
          have O4 := Lib.hid (own_wrote HW.out hw4 (by omega))
          clear s4 hw4
          cases r
          · go_wp2_with fail
            go_ret
            exact ⟨_, i, d, Y, rfl, by omega, hd1, hd2, fun _ => ⟨g, rfl, hgl, by omega, O4.out⟩, S4.out.mono (by omega), K4.out⟩
          · go_wp2_with fail
            refine (spoilU_c b g w.heap.size (i * 3) Y A n c X (K + 8 + 6 * i + 2) w4 hn (by omega) HA.out S4.out (HX.out.kept K4.out HA.out (by omega)) hgl hlt O4.out (by omega)).mono ?_
            rintro e w5 ⟨Y5, rfl, o5, s5, k5⟩
            have z5 := k5.size
            have O5 := Lib.hid o5
            have S5 := Lib.hid s5
            have K5 := Lib.hid (K4.out.trans k5)
            clear o5 s5 k5
            go_wp2
            go_ret
            exact ⟨_, i, d, Y5, rfl, by omega, hd1, hd2, fun _ => ⟨g, rfl, hgl, by omega, O5.out⟩, S5.out.mono (by omega), K5.out⟩
        · have hi' : ¬ (0 : Int) < (i : Int) := by omega
          clear hrow
          go_wp2
          go_ret
          exact ⟨_, i, d, Y, rfl, by omega, hd1, hd2, HR.out, HSr.out.mono (by omega), HK.out⟩

end Go.Proofs.YtlepgkmpbhlajaaDoor.src

namespace Go.Proofs.YtlepgkmpbhlajaaDoor.src
open Go.ChangeShapes Go.WideShapes Go.ChangeAt Go.RowKit Go.Proofs.YtlepgkmpbhlajaaDoor.mem
set_option linter.unusedVariables false

set_option maxHeartbeats 1000000 in
theorem sortD_c (A : Option Addr) (n c : Nat) (X : Nat → Int) (w : World) (hn : n ≤ 4096) (hx : Sb w A n X) :
    Calls Tryd.prog 9 #[.slice A n c] w fun e w' => ∃ (P : Option Addr) (k d : Nat) (Y : Nat → Int), e = .returned (.slice P k d) ∧ k ≤ 31 ∧ k ≤ d ∧ d ≤ maxLen ∧ Row w' w.heap.size w'.heap.size P k 3 40 Y ∧ Below w.heap.size w w' := by
  have HX := Lib.hid hx
  have HA := Lib.hid (hx.low (Nat.le_refl w.heap.size))
  clear hx
  go_enter Tryd.func9, Tryd.ntmps9
  go_wp2_with fail
  refine (from_c A n c _).mono ?_
  rintro e w1 ⟨rfl, s1, hb1⟩
  have S1 := Lib.hid s1
  have B1 := Lib.hid hb1
  have z1 := s1.lt
  clear s1 hb1
  go_wp2_with fail
  refine (drawU_c w.heap.size A n c X 0 w1 hn (by omega) HA.out S1.out (HX.out.below B1.out (Nat.le_refl _))).mono ?_
  rintro e w2 ⟨P, k, d, Y, rfl, k31, kd, dm, hr, s2, k2⟩
  have z2 := k2.size
  have S2 := Lib.hid s2
  have R2 := Lib.hid (hr.wide (lo' := w.heap.size) (by omega) (Nat.le_refl _))
  have B2 := Lib.hid (B1.out.trans ((k2.mono (M := w.heap.size) (by omega)).below (by omega)))
  clear hr s2 k2
  go_wp2
  go_ret
  exact ⟨P, k, d, Y, rfl, k31, kd, dm, R2.out, B2.out⟩

set_option maxHeartbeats 2000000 in
theorem needD_c (A : Option Addr) (n c : Nat) (X : Nat → Int) (w : World) (hn : n ≤ 4096) (hx : Sb w A n X) :
    Calls Tryd.prog 49 #[.slice A n c] w fun e w' => ∃ (P : Option Addr) (k d : Nat) (Y : Nat → Int) (l : Int), e = .returned (.tuple #[.slice P k d, .int .i64 l]) ∧ k ≤ 31 ∧ k ≤ d ∧ d ≤ maxLen ∧ Row w' w.heap.size w'.heap.size P k 3 40 Y ∧ Below w.heap.size w w' := by
  have HX := Lib.hid hx
  have HA := Lib.hid (hx.low (Nat.le_refl w.heap.size))
  clear hx
  go_enter Tryd.func49, Tryd.ntmps49
  go_wp2_with fail
  refine (from_c A n c _).mono ?_
  rintro e w1 ⟨rfl, s1, hb1⟩
  have S1 := Lib.hid s1
  have B1 := Lib.hid hb1
  have z1 := s1.lt
  clear s1 hb1
  go_wp2_with fail
  refine (drawU_c w.heap.size A n c X 0 w1 hn (by omega) HA.out S1.out (HX.out.below B1.out (Nat.le_refl _))).mono ?_
  rintro e w2 ⟨P, k, d, Y, rfl, k31, kd, dm, hr, s2, k2⟩
  have z2 := k2.size
  have S2 := Lib.hid s2
  have R2 := Lib.hid hr
  have B2 := Lib.hid (B1.out.trans ((k2.mono (M := w.heap.size) (by omega)).below (by omega)))
  clear hr s2 k2
  go_wp2_with fail
  refine (one_c w.heap.size A n c X (0 + 300) 8 7 w2 hn (by omega) (by omega) (by omega) HA.out S2.out (HX.out.below B2.out (Nat.le_refl _))).mono ?_
  rintro e w3 ⟨r, rfl, s3, hw3⟩
  have z3 := hw3.size
  have S3 := Lib.hid s3
  have R3 := Lib.hid (show Row w3 w1.heap.size w3.heap.size P k 3 40 Y from fun hk => by
    obtain ⟨g, e, h1, h2, h3⟩ := R2.out hk
    exact ⟨g, e, h1, by omega, own_wrote h3 hw3 (by omega)⟩)
  have B3 := Lib.hid (B2.out.trans (hw3.below (B := w.heap.size) (by omega) (Nat.le_refl _)))
  clear s3 hw3
  cases r
  · go_wp2_with fail
    refine (pick_c w.heap.size A n c X (0 + 300 + 2) 120 119 w3 hn (by omega) (by omega) (by omega) HA.out S3.out (HX.out.below B3.out (Nat.le_refl _))).mono ?_
    rintro e w4 ⟨v, rfl, v0, v1, s4, hw4⟩
    have z4 := hw4.size
    have R4 := Lib.hid (show Row w4 w.heap.size w4.heap.size P k 3 40 Y from fun hk => by
      obtain ⟨g, e, h1, h2, h3⟩ := R3.out hk
      exact ⟨g, e, by omega, by omega, own_wrote h3 hw4 (by omega)⟩)
    have B4 := Lib.hid (B3.out.trans (hw4.below (B := w.heap.size) (by omega) (Nat.le_refl _)))
    clear s4 hw4
    go_wp2
    go_returns
    exact ⟨P, k, d, Y, _, rfl, k31, kd, dm, R4.out, B4.out⟩
  · go_wp2_with fail
    refine (among_c w.heap.size A n c X (0 + 300 + 2) w3.heap.size 5 5 (fun j => ([-1, 0, 1000000, 1000001, -9223372036854775808] : List Int).getD j 0) _ hn (by omega) HA.out (S3.out.of_block (Go.Deep.blk_alloc_lt _ _ _ S3.out.lt) (by simp)) ((HX.out.below B3.out (Nat.le_refl _)).below (K := w3.heap.size) (by go_grown) (Nat.le_refl _)) (by omega) (by omega) (by omega) (by simp) (intsG_lit [-1, 0, 1000000, 1000001, -9223372036854775808] _ _)).mono ?_
    rintro e w4 ⟨j, hj, rfl, s4, hw4⟩
    generalize (fun j => ([-1, 0, 1000000, 1000001, -9223372036854775808] : List Int).getD j 0) j = l
    have z4 := hw4.size
    simp at z4
    have R4 := Lib.hid (show Row w4 w.heap.size w4.heap.size P k 3 40 Y from fun hk => by
      obtain ⟨g, e, h1, h2, h3⟩ := R3.out hk
      exact ⟨g, e, by omega, by omega, own_wrote (h3.alloc _) hw4 (by omega)⟩)
    have B4 := Lib.hid (show Below w.heap.size w w4 from (Below.alloc B3.out (by omega) _).trans (hw4.below (B := w.heap.size) (by simp; omega) (Nat.le_refl _)))
    clear s4 hw4 hj
    go_wp2
    go_returns
    exact ⟨P, k, d, Y, l, rfl, k31, kd, dm, R4.out, B4.out⟩

set_option maxHeartbeats 1000000 in
theorem cartD_c (A : Option Addr) (n c : Nat) (X : Nat → Int) (w : World) (hn : n ≤ 4096) (hx : Sb w A n X) :
    Calls Tryd.prog 12 #[.slice A n c] w fun e w' => ∃ (P : Option Addr) (k d : Nat) (Y : Nat → Int) (l : Int), e = .returned (.tuple #[.slice P k d, .int .i64 l]) ∧ k ≤ 31 ∧ k ≤ d ∧ d ≤ maxLen ∧ Row w' w.heap.size w'.heap.size P k 3 40 Y ∧ Below w.heap.size w w' := by
  have HN := Lib.hid (needD_c A n c X w hn hx)
  clear hx
  go_enter Tryd.func12, Tryd.ntmps12
  go_wp2_with fail
  refine HN.out.mono ?_
  rintro e w2 ⟨P, k, d, Y, l, rfl, k31, kd, dm, hr, hb⟩
  have R2 := Lib.hid hr
  have B2 := Lib.hid hb
  clear hr hb
  go_wp2
  go_returns
  exact ⟨P, k, d, Y, l, rfl, k31, kd, dm, R2.out, B2.out⟩

set_option maxHeartbeats 1000000 in
theorem fewD_c (A : Option Addr) (n c : Nat) (X : Nat → Int) (w : World) (hn : n ≤ 4096) (hx : Sb w A n X) :
    Calls Tryd.prog 15 #[.slice A n c] w fun e w' => ∃ (P : Option Addr) (k d : Nat) (Y : Nat → Int) (l : Int), e = .returned (.tuple #[.slice P k d, .int .i64 l]) ∧ k ≤ 31 ∧ k ≤ d ∧ d ≤ maxLen ∧ Row w' w.heap.size w'.heap.size P k 3 40 Y ∧ Below w.heap.size w w' := by
  have HN := Lib.hid (needD_c A n c X w hn hx)
  clear hx
  go_enter Tryd.func15, Tryd.ntmps15
  go_wp2_with fail
  refine HN.out.mono ?_
  rintro e w2 ⟨P, k, d, Y, l, rfl, k31, kd, dm, hr, hb⟩
  have R2 := Lib.hid hr
  have B2 := Lib.hid hb
  clear hr hb
  go_wp2
  go_returns
  exact ⟨P, k, d, Y, l, rfl, k31, kd, dm, R2.out, B2.out⟩

set_option maxHeartbeats 2000000 in
theorem girthForD_c (A : Option Addr) (n c : Nat) (X : Nat → Int) (w : World) (hn : n ≤ 4096) (hx : Sb w A n X) :
    Calls Tryd.prog 6 #[.slice A n c] w fun e w' => ∃ r t : Int, e = .returned (.tuple #[.int .i64 r, .int .i64 t]) ∧ Below w.heap.size w w' := by
  have HX := Lib.hid hx
  have HA := Lib.hid (hx.low (Nat.le_refl w.heap.size))
  clear hx
  go_enter Tryd.func6, Tryd.ntmps6
  go_wp2_with fail
  refine (from_c A n c _).mono ?_
  rintro e w1 ⟨rfl, s1, hb1⟩
  have S1 := Lib.hid s1
  have B1 := Lib.hid hb1
  have z1 := s1.lt
  clear s1 hb1
  go_wp2_with fail
  refine (pick_c w.heap.size A n c X 0 2000 1999 w1 hn (by omega) (by omega) (by omega) HA.out S1.out (HX.out.below B1.out (Nat.le_refl _))).mono ?_
  rintro e w2 ⟨v, rfl, v0, v1, s2, hw2⟩
  have z2 := hw2.size
  have S2 := Lib.hid s2
  have B2 := Lib.hid (B1.out.trans (hw2.below (B := w.heap.size) (by omega) (Nat.le_refl _)))
  clear s2 hw2
  go_wp2_with fail
  refine (one_c w.heap.size A n c X (0 + 2) 8 7 w2 hn (by omega) (by omega) (by omega) HA.out S2.out (HX.out.below B2.out (Nat.le_refl _))).mono ?_
  rintro e w3 ⟨r, rfl, s3, hw3⟩
  have z3 := hw3.size
  have S3 := Lib.hid s3
  have B3 := Lib.hid (B2.out.trans (hw3.below (B := w.heap.size) (by omega) (Nat.le_refl _)))
  clear s3 hw3
  cases r
  · go_wp2_with fail
    refine (dthick_c w.heap.size A n c X (0 + 2 + 2) w3 hn (by omega) HA.out S3.out (HX.out.below B3.out (Nat.le_refl _))).mono ?_
    rintro e w5 ⟨t, rfl, t0, t1, s5, k5⟩
    have B5 := Lib.hid (B3.out.trans ((k5.mono (M := w.heap.size) (by omega)).below (by omega)))
    clear s5 k5
    go_wp2
    go_returns
    exact ⟨_, t, rfl, B5.out⟩
  · go_wp2_with fail
    refine (among_c w.heap.size A n c X (0 + 2 + 2) w3.heap.size 5 5 (fun j => ([-1, 0, 1, 100000, 100001] : List Int).getD j 0) _ hn (by omega) HA.out (S3.out.of_block (Go.Deep.blk_alloc_lt _ _ _ S3.out.lt) (by simp)) ((HX.out.below B3.out (Nat.le_refl _)).below (K := w3.heap.size) (by go_grown) (Nat.le_refl _)) (by omega) (by omega) (by omega) (by simp) (intsG_lit [-1, 0, 1, 100000, 100001] _ _)).mono ?_
    rintro e w4 ⟨j, hj, rfl, s4, hw4⟩
    generalize (fun j => ([-1, 0, 1, 100000, 100001] : List Int).getD j 0) j = l
    have z4 := hw4.size
    simp at z4
    have S4 := Lib.hid s4
    have B4 := Lib.hid (show Below w.heap.size w w4 from (Below.alloc B3.out (by omega) _).trans (hw4.below (B := w.heap.size) (by simp; omega) (Nat.le_refl _)))
    clear s4 hw4 hj
    go_wp2_with fail
    refine (dthick_c w.heap.size A n c X (0 + 2 + 2 + 2) w4 hn (by omega) HA.out S4.out (HX.out.below B4.out (Nat.le_refl _))).mono ?_
    rintro e w5 ⟨t, rfl, t0, t1, s5, k5⟩
    have B5 := Lib.hid (B4.out.trans ((k5.mono (M := w.heap.size) (by omega)).below (by omega)))
    clear s5 k5
    go_wp2
    go_returns
    exact ⟨_, t, rfl, B5.out⟩

end Go.Proofs.YtlepgkmpbhlajaaDoor.src

namespace Go.Proofs.YtlepgkmpbhlajaaDoor.src
open Go.ChangeShapes Go.WideShapes Go.ChangeAt Go.RowKit Go.Proofs.YtlepgkmpbhlajaaDoor.mem
set_option linter.unusedVariables false

set_option maxHeartbeats 4000000 in
set_option maxRecDepth 100000 in
theorem textD_c (A : Option Addr) (n c : Nat) (X : Nat → Int) (w : World) (hn : n ≤ 4096) (hx : Sb w A n X) :
    Calls Tryd.prog 19 #[.slice A n c] w fun e w' => ∃ L G W : Int, e = .returned (.agg #[.int .i64 L, .int .i64 G, .int .i64 W]) ∧ Below w.heap.size w w' := by
  have HX := Lib.hid hx
  obtain ⟨W0, hW0⟩ : ∃ W, W = w.alloc (.cells #[.int .i64 0, .int .i64 0, .int .i64 0] 40) := ⟨_, rfl⟩
  have B0 := Lib.hid (show Below w.heap.size w W0 from by rw [hW0]; exact (Below.refl _ w).alloc (Nat.le_refl _) _)
  have z0 : w.heap.size < W0.heap.size := by rw [hW0]; simp
  have R0 := Lib.hid (show mem.Own W0 w.heap.size 40 3 (n3 0 0 0) from by rw [hW0]; exact own_new3 w 0 0 0 _)
  clear hx
  go_enter Tryd.func19, Tryd.ntmps19
  go_wp2_with fail
  rw [← hW0]
  clear hW0
  have HX0 := Lib.hid (HX.out.below B0.out (Nat.le_refl _))
  have HA := Lib.hid (HX0.out.low (Nat.le_refl W0.heap.size))
  refine (from_c A n c _).mono ?_
  rintro e w1 ⟨rfl, s1, hb1⟩
  have S1 := Lib.hid s1
  have B1 := Lib.hid (B0.out.trans (hb1.mono (by omega)))
  have M1 := Lib.hid hb1
  have R1 := Lib.hid (R0.out.below hb1 (by omega))
  have z1 := s1.lt
  clear s1 hb1
  go_wp2_with fail
  refine (newU_c W0.heap.size A n c X 0 w1 hn (by omega) HA.out S1.out (HX0.out.below M1.out (Nat.le_refl _))).mono ?_
  rintro e w2 ⟨L, G, W, rfl, s2, k2⟩
  have z2 := k2.size
  have S2 := Lib.hid s2
  have M2 := Lib.hid ((Below.mono M1.out (Nat.le_refl _)).trans ((k2.mono (M := W0.heap.size) (by omega)).below (Nat.le_refl _)))
  have R2 := Lib.hid (R1.out.of_block (k2.block w.heap.size (by omega) (by omega)))
  have B2 := Lib.hid (B0.out.trans (M2.out.mono (by omega)))
  clear s2 k2
  obtain ⟨W2, hW2⟩ : ∃ W', W' = w2.alloc (.cells #[.int .i64 L, .int .i64 G, .int .i64 W] 40) := ⟨_, rfl⟩
  have zW : w2.heap.size < W2.heap.size := by rw [hW2]; simp
  have O2 := Lib.hid (show mem.Own W2 w2.heap.size 40 3 (n3 L G W) from by rw [hW2]; exact own_new3 w2 L G W _)
  have MW := Lib.hid (show Below W0.heap.size W0 W2 from by rw [hW2]; exact M2.out.alloc (by omega) _)
  have SW := Lib.hid (show Src W2 W0.heap.size A n c (0 + 6) from by rw [hW2]; exact S2.out.of_block (Go.Deep.blk_alloc_lt _ _ _ S2.out.lt) (by simp))
  have RW := Lib.hid (show mem.Own W2 w.heap.size 40 3 (n3 0 0 0) from by rw [hW2]; exact R2.out.alloc _)
  obtain ⟨g, hg⟩ : ∃ g, g = w2.heap.size := ⟨_, rfl⟩
  go_wp2_with fail
  rw [← hW2]
  simp only [← hg]
  rw [← hg] at O2
  have hg0 : W0.heap.size < g := by omega
  have hgW : g < W2.heap.size := by omega
  clear hW2 hg R2 S2 zW
  refine (one_c W0.heap.size A n c X (0 + 6) 4 3 W2 hn (by omega) (by omega) (by omega) HA.out SW.out (HX0.out.below MW.out (Nat.le_refl _))).mono ?_
  rintro e w3 ⟨r, rfl, s3, hw3⟩
  have z3 := hw3.size
  have S3 := Lib.hid s3
  have O3 := Lib.hid (own_wrote O2.out hw3 (by omega))
  have R3 := Lib.hid (own_wrote RW.out hw3 (by omega))
  have M3 := Lib.hid (MW.out.trans (hw3.below (B := W0.heap.size) (by omega) (Nat.le_refl _)))
  clear s3 hw3
  have fin : ∀ (w4 : World) (Z Z0 : Nat → Int), mem.Own w4 g 40 3 Z → mem.Own w4 w.heap.size 40 3 Z0 → Below W0.heap.size W0 w4 →
      (w4.cell? ⟨g, 0, none⟩ = some (.int .i64 (Z 0)) ∧ w4.cell? ⟨g, 1, none⟩ = some (.int .i64 (Z 1)) ∧ w4.cell? ⟨g, 2, none⟩ = some (.int .i64 (Z 2))) ∧
      (w4.cell? ⟨w.heap.size, 0, none⟩ = some (.int .i64 (Z0 0)) ∧ w4.cell? ⟨w.heap.size, 1, none⟩ = some (.int .i64 (Z0 1)) ∧ w4.cell? ⟨w.heap.size, 2, none⟩ = some (.int .i64 (Z0 2))) ∧
      (∀ j, w4.frozen? ⟨w.heap.size, j, none⟩ = false) ∧ Below w.heap.size w (((w4.setCell ⟨w.heap.size, 0, none⟩ (.int .i64 (Z 0))).setCell ⟨w.heap.size, 1, none⟩ (.int .i64 (Z 1))).setCell ⟨w.heap.size, 2, none⟩ (.int .i64 (Z 2))) := fun w4 Z Z0 ho hr hm =>
    ⟨⟨ho.cell (by omega), ho.cell (by omega), ho.cell (by omega)⟩, ⟨hr.cell (by omega), hr.cell (by omega), hr.cell (by omega)⟩, fun j => hr.frozen j,
      Below.setCell (Below.setCell (Below.setCell (B0.out.trans (hm.mono (by omega))) (Nat.le_refl _) _) (Nat.le_refl _) _) (Nat.le_refl _) _⟩
  cases r
  · obtain ⟨⟨a0, a1, a2⟩, ⟨b0, b1, b2⟩, fz, hB⟩ := fin w3 _ _ O3.out R3.out M3.out
    have f0 := fz 0
    have f1 := fz 1
    have f2 := fz 2
    have HB := Lib.hid hB
    clear fin fz hB
    go_wp2
    exact bodyPost_ret (v := .agg #[.int .i64 (n3 L G W 0), .int .i64 (n3 L G W 1), .int .i64 (n3 L G W 2)]) (by simp [results, Tryd.results19, go_sem, b0, b1, b2]) rfl ⟨_, _, _, rfl, HB.out⟩
  · go_wp2_with fail
    refine (spoilU_c W0.heap.size g (W0.heap.size + 1) 3 _ A n c X (0 + 6 + 2) w3 hn (by omega) HA.out S3.out (HX0.out.below M3.out (Nat.le_refl _)) (by omega) (by omega) O3.out (Nat.le_refl _)).mono ?_
    rintro e w4 ⟨Z, rfl, o4, s4, k4⟩
    obtain ⟨⟨a0, a1, a2⟩, ⟨b0, b1, b2⟩, fz, hB⟩ := fin w4 _ _ o4 (R3.out.of_block (k4.block w.heap.size (by omega) (by omega))) (M3.out.trans ((k4.mono (M := W0.heap.size) (by omega)).below (Nat.le_refl _)))
    have f0 := fz 0
    have f1 := fz 1
    have f2 := fz 2
    have HB := Lib.hid hB
    clear fin fz hB o4 s4 k4
    go_wp2
    exact bodyPost_ret (v := .agg #[.int .i64 (Z 0), .int .i64 (Z 1), .int .i64 (Z 2)]) (by simp [results, Tryd.results19, go_sem, b0, b1, b2]) rfl ⟨_, _, _, rfl, HB.out⟩

end Go.Proofs.YtlepgkmpbhlajaaDoor.src

namespace Go.Proofs.YtlepgkmpbhlajaaDoor.src
open Go.ChangeShapes Go.WideShapes Go.ChangeAt Go.RowKit Go.Proofs.YtlepgkmpbhlajaaDoor.mem
set_option linter.unusedVariables false

theorem wpList_append_nothing {P : Program} {w : World} {ops : Array Oper} {rest : List Oper} {o : Oper} {a : Act} {Q : Exit → Act → World → Prop} (hgd : o.guard = none) (s x : Operand) (t : TypeId)
    (ho : o.op = .call { callee := .builtin .append, args := #[s, x], argTypes := #[t, t] }) (B : Nat) (E : TypeId) (i : TypeInfo) (size : Nat) (ht : P.underlying t = some (.slice E)) (hi : P.info? E = some i)
    (v : Value) (n c : Nat) (xs : List Value) (hs : a.eval s = v) (hown : w.ownsRow B E size v n xs) (hx : a.eval x = .slice none 0 c)
    (h : wpList P ops Q rest (a.put o.dst v) w) : wpList P ops Q (o :: rest) a w := by
  have hrun : (Builtin.append_ #[t, t] o.type #[v, .slice none 0 c]).run P w = .ok v w := by
    rcases hown.2 with ⟨rfl, rfl⟩ | ⟨g, cap, cur, rfl, _, _, hnc, _⟩
    · simp [Builtin.append_, run_underlying ht, sizeOf, typeInfo, hi, Builtin.lenOf, Builtin.firstCells]
    · simp [Builtin.append_, run_underlying ht, sizeOf, typeInfo, hi, Builtin.lenOf, Builtin.firstCells, hnc, storeCells]
  refine wpList_plain hgd fun K hK => ?_
  unfold Oper.wp
  simp [execOp, ho, resolve, invoke, builtin, hs, hx, hrun, Result.andThen]
  exact hK _ _ h
theorem row_keep {w w' : World} {lo hi n k : Nat} {A : Option Addr} {E : TypeId} {X : Nat → Int} (h : Row w lo hi A n k E X) (hb : ∀ j, lo ≤ j → j < hi → w'.heap[j]? = w.heap[j]?) : Row w' lo hi A n k E X := fun hn => by
  obtain ⟨g, e, h1, h2, h3⟩ := h hn
  exact ⟨g, e, h1, h2, h3.of_block (hb g h1 h2)⟩
theorem iC_set (Y : Nat → Int) (n i : Nat) (z : Int) : (iC Y n).set i (.int .i64 z) = iC (fun j => if j = i then z else Y j) n := by
  apply List.ext_getElem?
  intro j
  unfold iC
  rw [List.getElem?_set]
  simp only [List.length_map, List.length_range, List.getElem?_map]
  by_cases h : j < n
  · rw [List.getElem?_range h]
    by_cases e : i = j
    · subst e; simp [h]
    · rw [if_neg e]
      simp [show ¬ j = i from fun x => e x.symm]
  · have h0 : (List.range n)[j]? = none := by rw [List.getElem?_eq_none]; simp; omega
    rw [h0]
    by_cases e : i = j
    · subst e; simp [h]
    · rw [if_neg e]; rfl
theorem owns_put {w : World} {B n c g i : Nat} {E : TypeId} {Y : Nat → Int} (h : w.ownsRow B E 3 (.slice (some ⟨g, 0, none⟩) n c) n (iC Y (n * 3))) (z : Int) :
    (w.setCell ⟨g, i, none⟩ (.int .i64 z)).ownsRow B E 3 (.slice (some ⟨g, 0, none⟩) n c) n (iC (fun j => if j = i then z else Y j) (n * 3)) := by
  obtain ⟨hl, h0⟩ := h
  refine ⟨by rw [iC_len], ?_⟩
  rcases h0 with ⟨e, _⟩ | ⟨g', cap, cur, e, hB, hh, hc, hm, hsz, ht⟩
  · cases e
  · cases e
    refine .inr ⟨g, c, cur.setIfInBounds i (.int .i64 z), rfl, hB, ?_, hc, hm, by simpa using hsz, ?_⟩
    · simp [World.setCell, Array.getElem?_modify, hh]
    · rw [Array.toList_setIfInBounds, List.take_set, ht, iC_set]

set_option maxHeartbeats 8000000 in
set_option maxRecDepth 100000 in
theorem sameD_c (A : Option Addr) (n c : Nat) (X : Nat → Int) (w : World) (hn : n ≤ 4096) (hx : Sb w A n X) :
    Calls Tryd.prog 18 #[.slice A n c] w fun e w' => ∃ (P : Option Addr) (k d : Nat) (Y : Nat → Int) (P2 : Option Addr) (k2 d2 : Nat) (Z : Nat → Int), e = .returned (.tuple #[.slice P k d, .slice P2 k2 d2]) ∧ k ≤ 31 ∧ k ≤ d ∧ d ≤ maxLen ∧ k2 ≤ 32 ∧ k2 ≤ d2 ∧ d2 ≤ maxLen ∧
      Row w' w.heap.size w'.heap.size P k 3 40 Y ∧ Row w' w.heap.size w'.heap.size P2 k2 3 40 Z ∧ Below w.heap.size w w' := by
  obtain ⟨i0, hi0, hz0, hz1, hz2⟩ := info_parts rod.info_bunch
  have HX := Lib.hid hx
  have HA := Lib.hid (hx.low (Nat.le_refl w.heap.size))
  clear hx
  go_enter Tryd.func18, Tryd.ntmps18
  go_wp2_with fail
  refine (from_c A n c _).mono ?_
  rintro e w1 ⟨rfl, s1, hb1⟩
  have S1 := Lib.hid s1
  have B1 := Lib.hid hb1
  have z1 := s1.lt
  clear s1 hb1
  go_wp2_with fail
  refine (drawU_c w.heap.size A n c X 0 w1 hn (by omega) HA.out S1.out (HX.out.below B1.out (Nat.le_refl _))).mono ?_
  rintro e w2 ⟨P, k, d, Y, rfl, k31, kd, dm, hr, s2, k2⟩
  have z2 := k2.size
  have S2 := Lib.hid s2
  have R2 := Lib.hid hr
  have B2 := Lib.hid (B1.out.trans ((k2.mono (M := w.heap.size) (by omega)).below (by omega)))
  clear hr s2 k2
  have sN : ∀ w3 : World, Below w2.heap.size w2 w3 → Src w3 w.heap.size A n c (0 + 300) ∧ Row w3 w1.heap.size w2.heap.size P k 3 40 Y ∧ Below w.heap.size w w3 := fun w3 h3 =>
    ⟨S2.out.below h3 (by omega), row_keep R2.out fun j j1 j2 => h3.block j j2, B2.out.trans (h3.mono (by omega))⟩
  cases P with
  | none =>
    obtain rfl : k = 0 := by
      rcases Nat.eq_zero_or_pos k with h | h
      · exact h
      · obtain ⟨g, e, _⟩ := R2.out h; cases e
    go_wp2_with (at_builtin; refine wpList_append_nothing rfl _ _ 27 rfl w2.heap.size 40 i0 3 Tryd.underlying27 hi0 _ 0 d _ rfl (owns_new0 w2 40 3 w2.heap.size (Nat.le_refl _)) rfl ?_)
    obtain ⟨w3, hw3⟩ : ∃ W, W = w2.alloc (.cells #[] 40) := ⟨_, rfl⟩
    obtain ⟨s3, r3, b3⟩ := sN w3 (by rw [hw3]; exact (Below.refl _ _).alloc (Nat.le_refl _) _)
    have z3 : w2.heap.size < w3.heap.size := by rw [hw3]; simp
    have S3 := Lib.hid s3
    have R3 := Lib.hid r3
    have B3 := Lib.hid b3
    have O3 := Lib.hid (show w3.ownsRow w2.heap.size 40 3 (.slice (some ⟨w2.heap.size, 0, none⟩) 0 0) 0 (iC Y (0 * 3)) from by rw [hw3]; exact owns_new0 w2 40 3 w2.heap.size (Nat.le_refl _))
    rw [← hw3]
    clear hw3 sN s3 r3 b3
    go_wp2_with fail
    refine (one_c w.heap.size A n c X (0 + 300) 5 4 w3 hn (by omega) (by omega) (by omega) HA.out S3.out (HX.out.below B3.out (Nat.le_refl _))).mono ?_
    rintro e w8 ⟨r8, rfl, s8, hw8⟩
    have z8 := hw8.size
    have O8 := Lib.hid (owns_wrote1 O3.out hw8 (by omega))
    have R8 := Lib.hid (row_keep R3.out fun j j1 j2 => hw8.block j (by omega) (by omega))
    have B8 := Lib.hid (B3.out.trans (hw8.below (B := w.heap.size) (by omega) (Nat.le_refl _)))
    clear s8 hw8
    cases r8
    · obtain ⟨Q9, c9, e9, hd1, hd2, hrow9⟩ := sl_of_owns3 O8.out
      first | subst e9 | cases e9
      have HROW := Lib.hid hrow9
      clear hrow9
      go_wp2
      go_returns
      exact ⟨_, _, d, Y, _, 0, _, _, rfl, k31, kd, dm, by omega, hd1, hd2, (R8.out.wide (lo' := w.heap.size) (by omega) (by omega)), HROW.out.wide (lo' := w.heap.size) (by omega) (Nat.le_refl _), B8.out⟩
    · have hl1 : 0 + 1 ≤ maxLen := by unfold maxLen; omega
      have hl2 : (0 + 1) * 24 ≤ 140737488355328 := by omega
      go_wp2_with (at_builtin; refine wpList_append_own _ rfl _ _ 27 rfl w2.heap.size 40 i0 _ 3 24 Tryd.underlying27 hi0 hz0 hz1 hz2 rfl (by decide) _ _ _ rfl (O8.out.alloc _) ⟨w8.heap.size, 0, none⟩ 1 1 [.int .i64 0, .int .i64 0, .int .i64 0] rfl rfl ?c1 ?c2 hl1 hl2 ?c5 ?_)
      case c1 => intro j u hj; rcases j with _ | _ | _ | j <;> simp at hj <;> subst hj <;> go_simp
      case c2 => intro u hu; simp at hu; subst hu; rfl
      case c5 => simp; omega
      intro v' w9 hown9 hgrow9 _
      have hgb : ∀ j, j < w2.heap.size → w9.heap[j]? = w8.heap[j]? := fun j hj => (hgrow9.block j (by simp; omega) (fun e => by have := owns_ge O8.out j e.symm; omega)).trans (Go.Deep.blk_alloc_lt _ _ _ (by omega))
      have R9 := Lib.hid (row_keep R8.out fun j j1 j2 => hgb j j2)
      have B9 := Lib.hid (show Below w.heap.size w w9 from Below.grown (B8.out.alloc (by omega) _) hgrow9 (by simp; omega) (fun j e => by have := owns_ge O8.out j e; omega))
      have z9 := hgrow9.size
      simp at z9
      have O9 := Lib.hid (show w9.ownsRow w2.heap.size 40 3 v' (0 + 1) (iC (add3 (Y) (0) 0 0 0) ((0 + 1) * 3)) from by rw [iC_add3]; exact hown9)
      clear hown9 hgrow9 hgb
      obtain ⟨Q9, c9, e9, hd1, hd2, hrow9⟩ := sl_of_owns3 O9.out
      subst e9
      have HROW := Lib.hid hrow9
      clear hrow9
      go_wp2
      go_returns
      exact ⟨_, _, d, Y, Q9, 0 + 1, c9, _, rfl, k31, kd, dm, by omega, hd1, hd2, (R9.out.wide (lo' := w.heap.size) (by omega) (by omega)), HROW.out.wide (lo' := w.heap.size) (by omega) (Nat.le_refl _), B9.out⟩
  | some ad =>
    have hl1 : 0 + k ≤ maxLen := by unfold maxLen; omega
    have hl2 : (0 + k) * 24 ≤ 140737488355328 := by omega
    go_wp2_with (at_builtin; refine wpList_append_own _ rfl _ _ 27 rfl w2.heap.size 40 i0 _ 3 24 Tryd.underlying27 hi0 hz0 hz1 hz2 rfl (by decide) _ _ _ rfl (owns_new0 w2 40 3 w2.heap.size (Nat.le_refl _)) ad k d (iC Y (k * 3)) rfl (by rw [iC_len]) ?c1 ?c2 hl1 hl2 ?c5 ?_)
    case c1 =>
      intro j u hj
      have hj2 : j < k * 3 ∧ u = .int .i64 (Y j) := by
        unfold iC at hj
        rw [List.getElem?_map] at hj
        by_cases h : j < k * 3
        · rw [List.getElem?_range h] at hj
          simp at hj
          exact ⟨h, hj.symm⟩
        · rw [List.getElem?_eq_none (by simp; omega)] at hj
          simp at hj
      obtain ⟨g, e, h1, h2, h3⟩ := R2.out (by omega)
      cases e
      have ha : (⟨g, 0, none⟩ : Addr).add j = ⟨g, j, none⟩ := by unfold Addr.add; split <;> simp_all
      rw [ha, hj2.2]
      exact (h3.alloc _).cell hj2.1
    case c2 =>
      intro u hu
      unfold iC at hu
      rw [List.mem_map] at hu
      obtain ⟨q, _, rfl⟩ := hu
      rfl
    case c5 => simp
    intro v' w3 hown3 hgrow3 _
    have h23 : Below w2.heap.size w2 w3 := Below.grown ((Below.refl _ w2).alloc (Nat.le_refl _) _) hgrow3 (by simp) (fun j e => by cases e; exact Nat.le_refl _)
    obtain ⟨s3, r3, b3⟩ := sN w3 h23
    have z3 : w2.heap.size ≤ w3.heap.size := h23.size
    have S3 := Lib.hid s3
    have R3 := Lib.hid r3
    have B3 := Lib.hid b3
    have O3 := Lib.hid (show w3.ownsRow w2.heap.size 40 3 v' k (iC Y (k * 3)) from by simpa using hown3)
    clear hown3 hgrow3 sN s3 r3 b3 h23
    obtain ⟨Q, c3, rfl, q1, q2, hrow⟩ := sl_of_owns3 O3.out
    by_cases hk0 : 0 < k
    · obtain ⟨g, rfl, hgl, hgh, hown⟩ := hrow hk0
      have HW := Lib.hid hown
      have hk' : (0 : Int) < (k : Int) := by omega
      clear hrow hown
      go_wp2_with fail
      refine (one_c w.heap.size A n c X (0 + 300) 2 1 w3 hn (by omega) (by omega) (by omega) HA.out S3.out (HX.out.below B3.out (Nat.le_refl _))).mono ?_
      rintro e w4 ⟨r, rfl, s4, hw4⟩
      have z4 := hw4.size
      have S4 := Lib.hid s4
      have O4 := Lib.hid (owns_wrote1 O3.out hw4 (by omega))
      have R4 := Lib.hid (row_keep R3.out fun j j1 j2 => hw4.block j (by omega) (by omega))
      have W4 := Lib.hid (own_wrote HW.out hw4 (by omega))
      have B4 := Lib.hid (B3.out.trans (hw4.below (B := w.heap.size) (by omega) (Nat.le_refl _)))
      clear s4 hw4 HW O3 R3 B3 S3
      cases r
      ·
        go_wp2_with fail
        refine (one_c w.heap.size A n c X (0 + 300 + 2) 5 4 w4 hn (by omega) (by omega) (by omega) HA.out S4.out (HX.out.below B4.out (Nat.le_refl _))).mono ?_
        rintro e w8 ⟨r8, rfl, s8, hw8⟩
        have z8 := hw8.size
        have O8 := Lib.hid (owns_wrote1 O4.out hw8 (by omega))
        have R8 := Lib.hid (row_keep R4.out fun j j1 j2 => hw8.block j (by omega) (by omega))
        have B8 := Lib.hid (B4.out.trans (hw8.below (B := w.heap.size) (by omega) (Nat.le_refl _)))
        clear s8 hw8
        cases r8
        · obtain ⟨Q9, c9, e9, hd1, hd2, hrow9⟩ := sl_of_owns3 O8.out
          first | subst e9 | cases e9
          have HROW := Lib.hid hrow9
          clear hrow9
          go_wp2
          go_returns
          exact ⟨_, _, d, Y, _, k, _, _, rfl, k31, kd, dm, by omega, hd1, hd2, (R8.out.wide (lo' := w.heap.size) (by omega) (by omega)), HROW.out.wide (lo' := w.heap.size) (by omega) (Nat.le_refl _), B8.out⟩
        · have hl1 : k + 1 ≤ maxLen := by unfold maxLen; omega
          have hl2 : (k + 1) * 24 ≤ 140737488355328 := by omega
          go_wp2_with (at_builtin; refine wpList_append_own _ rfl _ _ 27 rfl w2.heap.size 40 i0 _ 3 24 Tryd.underlying27 hi0 hz0 hz1 hz2 rfl (by decide) _ _ _ rfl (O8.out.alloc _) ⟨w8.heap.size, 0, none⟩ 1 1 [.int .i64 0, .int .i64 0, .int .i64 0] rfl rfl ?c1 ?c2 hl1 hl2 ?c5 ?_)
          case c1 => intro j u hj; rcases j with _ | _ | _ | j <;> simp at hj <;> subst hj <;> go_simp
          case c2 => intro u hu; simp at hu; subst hu; rfl
          case c5 => simp; omega
          intro v' w9 hown9 hgrow9 _
          have hgb : ∀ j, j < w2.heap.size → w9.heap[j]? = w8.heap[j]? := fun j hj => (hgrow9.block j (by simp; omega) (fun e => by have := owns_ge O8.out j e.symm; omega)).trans (Go.Deep.blk_alloc_lt _ _ _ (by omega))
          have R9 := Lib.hid (row_keep R8.out fun j j1 j2 => hgb j j2)
          have B9 := Lib.hid (show Below w.heap.size w w9 from Below.grown (B8.out.alloc (by omega) _) hgrow9 (by simp; omega) (fun j e => by have := owns_ge O8.out j e; omega))
          have z9 := hgrow9.size
          simp at z9
          have O9 := Lib.hid (show w9.ownsRow w2.heap.size 40 3 v' (k + 1) (iC (add3 (Y) (k) 0 0 0) ((k + 1) * 3)) from by rw [iC_add3]; exact hown9)
          clear hown9 hgrow9 hgb
          obtain ⟨Q9, c9, e9, hd1, hd2, hrow9⟩ := sl_of_owns3 O9.out
          subst e9
          have HROW := Lib.hid hrow9
          clear hrow9
          go_wp2
          go_returns
          exact ⟨_, _, d, Y, Q9, k + 1, c9, _, rfl, k31, kd, dm, by omega, hd1, hd2, (R9.out.wide (lo' := w.heap.size) (by omega) (by omega)), HROW.out.wide (lo' := w.heap.size) (by omega) (Nat.le_refl _), B9.out⟩
      · have p2 := W4.out.cell (j := 2) (by omega)
        have f2 := W4.out.frozen 2
        go_wp2_with fail
        go_region_with
          (first
            | (go_at_call 32; refine (pick_c w.heap.size A n c X (0 + 300 + 2) 2 1 _ hn (by omega) (by omega) (by omega) HA.out (by exact S4.out.of_block rfl (Nat.le_refl _)) (by first | exact HX.out.below B4.out (Nat.le_refl _) | exact HX.out.below B4.out.drew (Nat.le_refl _) | exact HX.out.below (drewN_below B4.out _) (Nat.le_refl _))).mono ?_; rintro e w5 ⟨q, rfl, v0, v1, s5, hw5⟩
               have W5 := Lib.hid (show mem.Own w5 g 40 (k * 3) Y from W4.out.of_block (hw5.block g W4.out.lt (by omega)))
               have p5 := W5.out.cell (j := 2) (by omega)
               have f5 := W5.out.frozen 2))
        all_goals
          have z5 : w4.heap.size ≤ w5.heap.size := hw5.size
          have O5 : w5.ownsRow w2.heap.size 40 3 (.slice (some ⟨g, 0, none⟩) k c3) k (iC Y (k * 3)) := owns_wrote1 (by exact O4.out) hw5 (by omega)
          have R5 : Row w5 w1.heap.size w2.heap.size (some ad) k 3 40 Y := row_keep R4.out fun j j1 j2 => hw5.block j (show j < w4.heap.size by omega) (by omega)
          have B5 : Below w.heap.size w w5 := (show Below w.heap.size w _ from (by first | exact B4.out | exact B4.out.drew | exact drewN_below B4.out _)).trans (hw5.below (B := w.heap.size) (show w.heap.size ≤ w4.heap.size by omega) (Nat.le_refl _))
          obtain ⟨zz, hzz⟩ : ∃ zz, zz = IntKind.i64.wrap (Y 2 + q) := ⟨_, rfl⟩
          rw [← hzz]
          have O6 := Lib.hid (owns_put (i := 2) O5 zz)
          have S6 := Lib.hid (s5.set (a := ⟨g, 2, none⟩) (show w.heap.size ≠ g by omega) (.int .i64 zz))
          have R6 := Lib.hid (row_keep (w' := w5.setCell ⟨g, 2, none⟩ (.int .i64 zz)) R5 fun j j1 j2 => Go.Deep.blk_setCell_other _ _ _ _ (show j ≠ g by omega))
          have B6 := Lib.hid (show Below w.heap.size w (w5.setCell ⟨g, 2, none⟩ (.int .i64 zz)) from Below.setCell B5 (show w.heap.size ≤ g by omega) _)
          have z6 : (w5.setCell ⟨g, 2, none⟩ (.int .i64 zz)).heap.size = w5.heap.size := by simp
          generalize w5.setCell ⟨g, 2, none⟩ (.int .i64 zz) = w6 at *
          have z6' : w5.heap.size ≤ w6.heap.size := by omega
          clear hzz O5 R5 B5 s5 hw5 z6 W5 p5 f5 p2 f2 W4 O4 R4 B4 S4
          go_wp2_with fail
          refine (one_c w.heap.size A n c X (0 + 300 + 2 + 2) 5 4 w6 hn (by omega) (by omega) (by omega) HA.out S6.out (HX.out.below B6.out (Nat.le_refl _))).mono ?_
          rintro e w8 ⟨r8, rfl, s8, hw8⟩
          have z8 := hw8.size
          have O8 := Lib.hid (owns_wrote1 O6.out hw8 (by omega))
          have R8 := Lib.hid (row_keep R6.out fun j j1 j2 => hw8.block j (by omega) (by omega))
          have B8 := Lib.hid (B6.out.trans (hw8.below (B := w.heap.size) (by omega) (Nat.le_refl _)))
          clear s8 hw8
          cases r8
          · obtain ⟨Q9, c9, e9, hd1, hd2, hrow9⟩ := sl_of_owns3 O8.out
            first | subst e9 | cases e9
            have HROW := Lib.hid hrow9
            clear hrow9
            go_wp2
            go_returns
            exact ⟨_, _, d, Y, _, k, _, _, rfl, k31, kd, dm, by omega, hd1, hd2, (R8.out.wide (lo' := w.heap.size) (by omega) (by omega)), HROW.out.wide (lo' := w.heap.size) (by omega) (Nat.le_refl _), B8.out⟩
          · have hl1 : k + 1 ≤ maxLen := by unfold maxLen; omega
            have hl2 : (k + 1) * 24 ≤ 140737488355328 := by omega
            go_wp2_with (at_builtin; refine wpList_append_own _ rfl _ _ 27 rfl w2.heap.size 40 i0 _ 3 24 Tryd.underlying27 hi0 hz0 hz1 hz2 rfl (by decide) _ _ _ rfl (O8.out.alloc _) ⟨w8.heap.size, 0, none⟩ 1 1 [.int .i64 0, .int .i64 0, .int .i64 0] rfl rfl ?c1 ?c2 hl1 hl2 ?c5 ?_)
            case c1 => intro j u hj; rcases j with _ | _ | _ | j <;> simp at hj <;> subst hj <;> go_simp
            case c2 => intro u hu; simp at hu; subst hu; rfl
            case c5 => simp; omega
            intro v' w9 hown9 hgrow9 _
            have hgb : ∀ j, j < w2.heap.size → w9.heap[j]? = w8.heap[j]? := fun j hj => (hgrow9.block j (by simp; omega) (fun e => by have := owns_ge O8.out j e.symm; omega)).trans (Go.Deep.blk_alloc_lt _ _ _ (by omega))
            have R9 := Lib.hid (row_keep R8.out fun j j1 j2 => hgb j j2)
            have B9 := Lib.hid (show Below w.heap.size w w9 from Below.grown (B8.out.alloc (by omega) _) hgrow9 (by simp; omega) (fun j e => by have := owns_ge O8.out j e; omega))
            have z9 := hgrow9.size
            simp at z9
            have O9 := Lib.hid (show w9.ownsRow w2.heap.size 40 3 v' (k + 1) (iC (add3 (fun j => if j = 2 then zz else Y j) (k) 0 0 0) ((k + 1) * 3)) from by rw [iC_add3]; exact hown9)
            clear hown9 hgrow9 hgb
            obtain ⟨Q9, c9, e9, hd1, hd2, hrow9⟩ := sl_of_owns3 O9.out
            subst e9
            have HROW := Lib.hid hrow9
            clear hrow9
            go_wp2
            go_returns
            exact ⟨_, _, d, Y, Q9, k + 1, c9, _, rfl, k31, kd, dm, by omega, hd1, hd2, (R9.out.wide (lo' := w.heap.size) (by omega) (by omega)), HROW.out.wide (lo' := w.heap.size) (by omega) (Nat.le_refl _), B9.out⟩

    · obtain rfl : k = 0 := by omega
      clear hrow
      go_wp2_with fail
      refine (one_c w.heap.size A n c X (0 + 300) 5 4 w3 hn (by omega) (by omega) (by omega) HA.out S3.out (HX.out.below B3.out (Nat.le_refl _))).mono ?_
      rintro e w8 ⟨r8, rfl, s8, hw8⟩
      have z8 := hw8.size
      have O8 := Lib.hid (owns_wrote1 O3.out hw8 (by omega))
      have R8 := Lib.hid (row_keep R3.out fun j j1 j2 => hw8.block j (by omega) (by omega))
      have B8 := Lib.hid (B3.out.trans (hw8.below (B := w.heap.size) (by omega) (Nat.le_refl _)))
      clear s8 hw8
      cases r8
      · obtain ⟨Q9, c9, e9, hd1, hd2, hrow9⟩ := sl_of_owns3 O8.out
        first | subst e9 | cases e9
        have HROW := Lib.hid hrow9
        clear hrow9
        go_wp2
        go_returns
        exact ⟨_, _, d, Y, _, 0, _, _, rfl, k31, kd, dm, by omega, hd1, hd2, (R8.out.wide (lo' := w.heap.size) (by omega) (by omega)), HROW.out.wide (lo' := w.heap.size) (by omega) (Nat.le_refl _), B8.out⟩
      · have hl1 : 0 + 1 ≤ maxLen := by unfold maxLen; omega
        have hl2 : (0 + 1) * 24 ≤ 140737488355328 := by omega
        go_wp2_with (at_builtin; refine wpList_append_own _ rfl _ _ 27 rfl w2.heap.size 40 i0 _ 3 24 Tryd.underlying27 hi0 hz0 hz1 hz2 rfl (by decide) _ _ _ rfl (O8.out.alloc _) ⟨w8.heap.size, 0, none⟩ 1 1 [.int .i64 0, .int .i64 0, .int .i64 0] rfl rfl ?c1 ?c2 hl1 hl2 ?c5 ?_)
        case c1 => intro j u hj; rcases j with _ | _ | _ | j <;> simp at hj <;> subst hj <;> go_simp
        case c2 => intro u hu; simp at hu; subst hu; rfl
        case c5 => simp; omega
        intro v' w9 hown9 hgrow9 _
        have hgb : ∀ j, j < w2.heap.size → w9.heap[j]? = w8.heap[j]? := fun j hj => (hgrow9.block j (by simp; omega) (fun e => by have := owns_ge O8.out j e.symm; omega)).trans (Go.Deep.blk_alloc_lt _ _ _ (by omega))
        have R9 := Lib.hid (row_keep R8.out fun j j1 j2 => hgb j j2)
        have B9 := Lib.hid (show Below w.heap.size w w9 from Below.grown (B8.out.alloc (by omega) _) hgrow9 (by simp; omega) (fun j e => by have := owns_ge O8.out j e; omega))
        have z9 := hgrow9.size
        simp at z9
        have O9 := Lib.hid (show w9.ownsRow w2.heap.size 40 3 v' (0 + 1) (iC (add3 (Y) (0) 0 0 0) ((0 + 1) * 3)) from by rw [iC_add3]; exact hown9)
        clear hown9 hgrow9 hgb
        obtain ⟨Q9, c9, e9, hd1, hd2, hrow9⟩ := sl_of_owns3 O9.out
        subst e9
        have HROW := Lib.hid hrow9
        clear hrow9
        go_wp2
        go_returns
        exact ⟨_, _, d, Y, Q9, 0 + 1, c9, _, rfl, k31, kd, dm, by omega, hd1, hd2, (R9.out.wide (lo' := w.heap.size) (by omega) (by omega)), HROW.out.wide (lo' := w.heap.size) (by omega) (Nat.le_refl _), B9.out⟩

end Go.Proofs.YtlepgkmpbhlajaaDoor.src
