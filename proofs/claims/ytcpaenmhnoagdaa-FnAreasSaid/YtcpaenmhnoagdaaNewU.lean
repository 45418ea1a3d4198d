/-
  The laws' own bundles: a new one.
-/
import Derived.Test.YtcpaenmhnoagdaaDrawG
import Derived.RangeFuncBox
import Derived.Deep.RegionWith
namespace Go.Proofs.Ytcpaenmhnoagdaa.src
open Go.ChangeShapes Go.WideShapes Go.ChangeAt Go.RowKit Go.Proofs.Ytcpaenmhnoagdaa.mem
set_option linter.unusedVariables false

theorem res_bun {W : World} {g : Nat} {x y z : Int} (h : W.heap[g]? = some (.cells #[.int .i64 x, .int .i64 y, .int .i64 z] 57 (0, 0))) : (W.cell? ⟨g, 0, none⟩ = some (.int .i64 x) ∧ W.cell? ⟨g, 1, none⟩ = some (.int .i64 y) ∧ W.cell? ⟨g, 2, none⟩ = some (.int .i64 z)) ∧ W.frozen? ⟨g, 0, none⟩ = false ∧ W.frozen? ⟨g, 1, none⟩ = false ∧ W.frozen? ⟨g, 2, none⟩ = false :=
  ⟨⟨by simp [World.cell?, h], by simp [World.cell?, h], by simp [World.cell?, h]⟩, by simp [World.frozen?, h], by simp [World.frozen?, h], by simp [World.frozen?, h]⟩

set_option maxHeartbeats 4000000 in
set_option maxRecDepth 100000 in
theorem newU_c (b : Nat) (A : Option Addr) (n c : Nat) (X : Nat → Int) (K : Int) (w : World) (hn : n ≤ 4096) (hK : K ≤ 800000000) (hA : 0 < n → ∀ x o, A = some ⟨x, o, none⟩ → x < b) (hs : Src w b A n c K) (hx : Sb w A n X) :
    Calls Try.prog 94 #[.pointer (some ⟨b, 0, none⟩)] w fun e w' => ∃ L G W : Int, e = .returned (.agg #[.int .i64 L, .int .i64 G, .int .i64 W]) ∧ Src w' b A n c (K + 6) ∧ Kept w.heap.size b w w' := by
  have hlt := hs.lt
  have HA := Lib.hid hA
  have HX := Lib.hid hx
  have KEY := Lib.hid (fun (J m h : Int) (wr : World) (h1 : J ≤ 900000000) (h2 : m - 1 ≤ h) (h3 : 0 ≤ h) (h4 : Src wr b A n c J) (h5 : Kept w.heap.size b w wr) => pick_c b A n c X J m h wr hn h1 h2 h3 hA h4 (hx.kept h5 hA (by omega)))
  obtain ⟨W0, hW0⟩ : ∃ W, W = ((w.alloc (.cells #[.int .i64 0, .int .i64 0, .int .i64 0] 57)).alloc (.cells #[.int .i64 900, .int .i64 1200, .int .i64 1500] 2)) := ⟨_, rfl⟩
  have r0 : W0.heap[w.heap.size]? = some (.cells #[.int .i64 0, .int .i64 0, .int .i64 0] 57 (0, 0)) := by rw [hW0]; exact (Go.Deep.blk_alloc_lt _ _ _ (by simp)).trans (Go.Deep.blk_alloc_new _ _)
  have zz : Ints W0 (w.heap.size + 1) 0 3 (fun j => ([900, 1200, 1500] : List Int).getD j 0) := by
    rw [hW0]
    have h := intsG_lit [900, 1200, 1500] (w.alloc (.cells #[.int .i64 0, .int .i64 0, .int .i64 0] 57)) 2
    rw [World.size_alloc] at h
    exact h
  have s0 : Src W0 b A n c K := by rw [hW0]; exact hs.below (B := w.heap.size) (by go_grown) hlt
  have k0 : Kept w.heap.size b w W0 := by rw [hW0]; exact ((Kept.refl _ _ _).alloc (Nat.le_refl _) _).alloc (Nat.le_refl _) _
  have z0 : W0.heap.size = w.heap.size + 1 + 1 := by rw [hW0]; simp
  have hne0 : b ≠ w.heap.size := by omega
  have ZZ := Lib.hid zz
  have S0 := Lib.hid s0
  have K0 := Lib.hid k0
  have R0 := Lib.hid r0
  clear hs hx hA zz s0 k0 r0
  go_enter Try.func94, Try.ntmps94
  go_wp2_with fail
  rw [← hW0]
  clear hW0
  refine (among_c b A n c X K (w.heap.size + 1) 3 3 (fun j => ([900, 1200, 1500] : List Int).getD j 0) W0 hn (by omega) HA.out S0.out (HX.out.kept K0.out HA.out (by omega)) (by omega) (by omega) (by omega) (by omega) ZZ.out).mono ?_
  rintro e w1 ⟨j, hj, rfl, s1, hw1⟩
  generalize (fun j => ([900, 1200, 1500] : List Int).getD j 0) j = L
  have z1 := hw1.size
  have R1 := Lib.hid ((hw1.block w.heap.size (by omega) (by omega)).trans R0.out)
  have K1 := Lib.hid (K0.out.wrote hw1 (by omega))
  have S1 := Lib.hid s1
  clear s1 hw1 hj
  go_wp2_with fail
  refine (KEY.out (K + 2) 60 59 w1 (by omega) (by omega) (by omega) S1.out K1.out).mono ?_
  rintro e w2 ⟨q, rfl, q0, q1, s2, hw2⟩
  have z2 := hw2.size
  have r2 := (hw2.block w.heap.size (by omega) (by omega)).trans R1.out
  have k2 := K1.out.wrote hw2 (by omega)
  obtain ⟨W3, hW3⟩ : ∃ W, W = w2.alloc (.cells #[.int .i64 L, .int .i64 (300 + 10 * q), .int .i64 0] 57) := ⟨_, rfl⟩
  have P3 := Lib.hid (show W3.heap[w2.heap.size]? = some (.cells #[.int .i64 L, .int .i64 (300 + 10 * q), .int .i64 0] 57 (0, 0)) from by rw [hW3]; exact Go.Deep.blk_alloc_new _ _)
  have R3 := Lib.hid (show W3.heap[w.heap.size]? = some (.cells #[.int .i64 0, .int .i64 0, .int .i64 0] 57 (0, 0)) from by rw [hW3]; exact (Go.Deep.blk_alloc_lt _ _ _ (by omega)).trans r2)
  have S3 := Lib.hid (show Src W3 b A n c (K + 2 + 2) from by rw [hW3]; exact s2.below (B := w2.heap.size) (by go_grown) (by omega))
  have K3 := Lib.hid (show Kept w.heap.size b w W3 from by rw [hW3]; exact k2.alloc (by omega) _)
  have z3 : W3.heap.size = w2.heap.size + 1 := by rw [hW3]; simp
  clear r2 k2 s2 hw2
  go_wp2_with fail
  rw [← hW3]
  clear hW3
  refine (KEY.out (K + 2 + 2) 30 29 W3 (by omega) (by omega) (by omega) S3.out K3.out).mono ?_
  rintro e w4 ⟨p, rfl, p0, p1, s4, hw4⟩
  have z4 := hw4.size
  have r4 := (hw4.block w.heap.size (by omega) (by omega)).trans R3.out
  have x4 := (hw4.block w2.heap.size (by omega) (by omega)).trans P3.out
  obtain ⟨⟨c0, c1, c2⟩, f0, f1, f2⟩ := res_bun r4
  obtain ⟨⟨d0, d1, d2⟩, g0, g1, g2⟩ := res_bun x4
  have hne2 : w.heap.size ≠ w2.heap.size := by omega
  have hne3 : b ≠ w2.heap.size := by omega
  have S4 := Lib.hid s4
  have K4 := Lib.hid (K3.out.wrote hw4 (by omega))
  clear s4 hw4 r4 x4
  go_wp2
  refine bodyPost_ret (v := .agg #[.int .i64 L, .int .i64 (300 + 10 * q), .int .i64 (500 + 100 * p)]) (by simp [results, Try.results94, go_sem, c0, c1, c2]) rfl ?_
  exact ⟨L, _, _, rfl, ((((S4.out.mono (by omega)).set (a := ⟨w2.heap.size, 2, none⟩) hne3 _).set (a := ⟨w.heap.size, 0, none⟩) hne0 _).set (a := ⟨w.heap.size, 1, none⟩) hne0 _).set (a := ⟨w.heap.size, 2, none⟩) hne0 _,
    (((K4.out.set (a := ⟨w2.heap.size, 2, none⟩) (by show w.heap.size ≤ w2.heap.size; omega) _).set (a := ⟨w.heap.size, 0, none⟩) (Nat.le_refl _) _).set (a := ⟨w.heap.size, 1, none⟩) (Nat.le_refl _) _).set (a := ⟨w.heap.size, 2, none⟩) (Nat.le_refl _) _⟩

end Go.Proofs.Ytcpaenmhnoagdaa.src
