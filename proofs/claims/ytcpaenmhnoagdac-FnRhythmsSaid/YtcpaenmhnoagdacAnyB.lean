/-
  The laws' own beds: some bed, some years, some numbers.
-/
import Derived.Test.YtcpaenmhnoagdacSpoil
namespace Go.Proofs.Ytcpaenmhnoagdac.src
open Go.ChangeShapes Go.WideShapes Go.ChangeAt Go.RowKit Go.Proofs.Ytcpaenmhnoagdac.mem
set_option linter.unusedVariables false

set_option maxHeartbeats 8000000 in
set_option maxRecDepth 100000 in
theorem anyBed_c (b : Nat) (A : Option Addr) (n c : Nat) (X : Nat → Int) (K : Int) (w : World) (hn : n ≤ 4096) (hK : K ≤ 700000000) (hA : 0 < n → ∀ x o, A = some ⟨x, o, none⟩ → x < b) (hs : Src w b A n c K) (hx : Sb w A n X) :
    Calls Try.prog 51 #[.pointer (some ⟨b, 0, none⟩)] w (DrawnBed w.heap.size w b A n c (K + 20)) := by
  have hlt := hs.lt
  have HX := Lib.hid hx
  have HA := Lib.hid hA
  obtain ⟨W0, hW0⟩ : ∃ W, W = w.alloc (.cells #[.slice none 0 0, .int .i64 0] 26) := ⟨_, rfl⟩
  have b0 : Below w.heap.size w W0 := by rw [hW0]; go_grown
  have S0 := Lib.hid (hs.below b0 hlt)
  have r0 : W0.heap[w.heap.size]? = some (.cells #[.slice none 0 0, .int .i64 0] 26 (0, 0)) := by rw [hW0]; exact Go.Deep.blk_alloc_new _ _
  have K0 := Lib.hid (show Kept w.heap.size b w W0 from by rw [hW0]; exact (Kept.refl _ _ _).alloc (Nat.le_refl _) _)
  have z0 : w.heap.size < W0.heap.size := (Array.getElem?_eq_some_iff.1 r0).1
  clear hs hx hA b0
  go_enter Try.func51, Try.ntmps51
  go_wp2_with fail
  rw [← hW0]
  clear hW0
  refine (newBed_c b A n c X K W0 hn (by omega) HA.out S0.out (HX.out.kept K0.out HA.out (by omega))).mono ?_
  rintro e w1 ⟨g, m, d, Y, a, rfl, hm1, hm4, hmd, hdm, hg, hO, s1, hk1⟩
  have q1 := (hk1.block w.heap.size z0 (by omega)).trans r0
  have z1 := hk1.size
  have hgl := hO.lt
  obtain ⟨W2, hW2⟩ : ∃ W, W = w1.alloc (.cells #[.slice (some ⟨g, 0, none⟩) m d, .int .i64 a] 26) := ⟨_, rfl⟩
  have b2 : Below w1.heap.size w1 W2 := by rw [hW2]; go_grown
  have S2 := Lib.hid (s1.below b2 (by omega))
  have O2 := Lib.hid (hO.below b2 hgl)
  have R2 := Lib.hid ((b2.block w.heap.size (by omega)).trans q1)
  have p2 : W2.heap[w1.heap.size]? = some (.cells #[.slice (some ⟨g, 0, none⟩) m d, .int .i64 a] 26 (0, 0)) := by rw [hW2]; exact Go.Deep.blk_alloc_new _ _
  have P2 := Lib.hid p2
  have K2 := Lib.hid (show Kept w.heap.size b w W2 from by rw [hW2]; exact (K0.out.trans (hk1.mono (by omega))).alloc (Nat.le_refl _) _)
  have z2 : w1.heap.size < W2.heap.size := (Array.getElem?_eq_some_iff.1 p2).1
  have hne0 : b ≠ w.heap.size := by omega
  clear hO s1 hk1 q1 r0 b2 p2
  go_wp2_with fail
  rw [← hW2]
  clear hW2
  refine (one_c b A n c X (K + 14) 10 9 W2 hn (by omega) (by omega) (by omega) HA.out S2.out (HX.out.kept K2.out HA.out (by omega))).mono ?_
  rintro e w3 ⟨r, rfl, s3, hw3⟩
  have z3 := hw3.size
  have S3 := Lib.hid s3
  have O3 := Lib.hid (O2.out.of_block (hw3.block g O2.out.lt (by omega)))
  have R3 := Lib.hid ((hw3.block w.heap.size (by omega) (by omega)).trans R2.out)
  have P3 := Lib.hid ((hw3.block w1.heap.size (by omega) (by omega)).trans P2.out)
  have K3 := Lib.hid (K2.out.wrote hw3 (Nat.le_refl _))
  clear s3 hw3
  -- the end: the bed is loaded and stored into the result
  have fin : ∀ (W : World), W.heap[w.heap.size]? = some (.cells #[.slice none 0 0, .int .i64 0] 26 (0, 0)) → W.cell? ⟨w.heap.size, 0, none⟩ = some (.slice none 0 0) ∧ W.cell? ⟨w.heap.size, 1, none⟩ = some (.int .i64 0) ∧ W.frozen? ⟨w.heap.size, 0, none⟩ = false ∧ W.frozen? ⟨w.heap.size, 1, none⟩ = false := fun W h => ⟨by simp [World.cell?, h], by simp [World.cell?, h], by simp [World.frozen?, h], by simp [World.frozen?, h]⟩
  cases r
  · obtain ⟨c0, c1, f0, f1⟩ := fin w3 R3.out
    have hp := P3.out
    have d0 : w3.cell? ⟨w1.heap.size, 0, none⟩ = some (.slice (some ⟨g, 0, none⟩) m d) := by simp [World.cell?, hp]
    have d1 : w3.cell? ⟨w1.heap.size, 1, none⟩ = some (.int .i64 a) := by simp [World.cell?, hp]
    have hg0 : g ≠ w.heap.size := by omega
    clear hp
    go_wp2
    refine bodyPost_ret (v := .agg #[.slice (some ⟨g, 0, none⟩) m d, .int .i64 a]) (by simp [results, Try.results51, go_sem, c0, c1]) rfl ?_
    exact ⟨some ⟨g, 0, none⟩, m, d, Y, a, rfl, by omega, hmd, hdm, fun _ => ⟨g, rfl, by omega, by simp; have := O3.out.lt; omega, (((O3.out.setOther (a := ⟨w.heap.size, 0, none⟩) hg0 _).setOther (a := ⟨w.heap.size, 1, none⟩) hg0 _).le (by omega))⟩, ((S3.out.mono (by omega)).set (a := ⟨w.heap.size, 0, none⟩) hne0 _).set (a := ⟨w.heap.size, 1, none⟩) hne0 _, (K3.out.set (a := ⟨w.heap.size, 0, none⟩) (Nat.le_refl _) _).set (a := ⟨w.heap.size, 1, none⟩) (Nat.le_refl _) _⟩
  · have hV : OwnV w3 w1.heap.size 26 2 (fun j => if j = 0 then .slice (some ⟨g, 0, none⟩) m d else .int .i64 a) := ⟨_, P3.out, by simp, fun i hi => by match i, hi with | 0, _ => rfl | 1, _ => rfl⟩
    have HV := Lib.hid hV
    clear hV
    go_wp2_with fail
    refine (spoil_c b w1.heap.size A n c X (K + 14 + 2) g m d 2 Y a _ (w.heap.size + 1) w3 hn (by omega) HA.out S3.out (HX.out.kept K3.out HA.out (by omega)) hm1 hm4 hmd hdm O3.out HV.out (Nat.le_refl _) rfl rfl (by omega) (by omega) (by omega) (by omega) (by omega) (by omega)).mono ?_
    rintro e w4 ⟨rfl, P, m', d', Y', a', hV4, hm6, hmd', hdm', hrow, _, s4, hT⟩
    have z4 := hT.size
    obtain ⟨c0, c1, f0, f1⟩ := fin w4 ((hT.block w.heap.size (by omega) (by omega) (by omega) (by omega)).trans R3.out)
    have d0 := hV4.cell (j := 0) (by omega)
    have d1 := hV4.cell (j := 1) (by omega)
    rw [if_pos rfl] at d0
    rw [if_neg (by decide), if_pos rfl] at d1
    have S4 := Lib.hid s4
    have R4 := Lib.hid hrow
    have K4 := Lib.hid (K3.out.trans (hT.kept (N := w.heap.size) (by omega) (by omega) (by omega)))
    clear hV4 hrow s4 hT
    go_wp2
    refine bodyPost_ret (v := .agg #[.slice P m' d', .int .i64 a']) (by simp [results, Try.results51, go_sem, c0, c1]) rfl ?_
    refine ⟨P, m', d', Y', a', rfl, hm6, hmd', hdm', fun hm => ?_, ((S4.out.mono (by omega)).set (a := ⟨w.heap.size, 0, none⟩) hne0 _).set (a := ⟨w.heap.size, 1, none⟩) hne0 _, (K4.out.set (a := ⟨w.heap.size, 0, none⟩) (Nat.le_refl _) _).set (a := ⟨w.heap.size, 1, none⟩) (Nat.le_refl _) _⟩
    obtain ⟨g', rfl, h1, h2, h3⟩ := R4.out hm
    have hg0 : g' ≠ w.heap.size := by omega
    exact ⟨g', rfl, by omega, by simp; omega, (h3.setOther (a := ⟨w.heap.size, 0, none⟩) hg0 _).setOther (a := ⟨w.heap.size, 1, none⟩) hg0 _⟩

end Go.Proofs.Ytcpaenmhnoagdac.src
