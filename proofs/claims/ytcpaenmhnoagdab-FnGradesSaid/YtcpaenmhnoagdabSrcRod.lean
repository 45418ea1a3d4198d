/-
  The laws' own rods: some valid rod, some valid rods.
-/
import Derived.Test.YtcpaenmhnoagdabSrc
import Derived.Test.YtcpaenmhnoagdabRod
namespace Go.Proofs.Ytcpaenmhnoagdab.src
open Go.ChangeShapes Go.WideShapes Go.ChangeAt Go.RowKit Go.Proofs.Ytcpaenmhnoagdab.mem Go.Proofs.Ytcpaenmhnoagdab.rod
set_option linter.unusedVariables false

/-- the answer is a valid rod, and the source lies on -/
def NewRod (w : World) (b : Nat) (A : Option Addr) (n c : Nat) (K : Int) (e : Ending) (w' : World) : Prop :=
  ∃ L B T : Int, e = .returned (.agg #[.int .i64 L, .int .i64 B, .int .i64 T]) ∧ rodB L B T = true ∧ L ≤ 2050 ∧ B ≤ 115 ∧ Src w' b A n c K ∧ WroteIn w w' b (b + 1)

set_option maxHeartbeats 2000000 in
theorem newRod_c (b : Nat) (A : Option Addr) (n c : Nat) (X : Nat → Int) (K : Int) (w : World) (hn : n ≤ 3000) (hK : K ≤ 800000000) (hA : 0 < n → ∀ x o, A = some ⟨x, o, none⟩ → x < b) (hs : Src w b A n c K) (hx : Sb w A n X) :
    Calls Try.prog 131 #[.pointer (some ⟨b, 0, none⟩)] w (NewRod w b A n c (K + 6)) := by
  have HS := Lib.hid hs
  have HX := Lib.hid hx
  have HA := Lib.hid hA
  have hlt := hs.lt
  clear hs hx hA
  go_enter Try.func131, Try.ntmps131
  go_wp2_with fail
  refine (pick_c b A n c X K 40 39 _ hn (by omega) (by omega) (by omega) HA.out (HS.out.below (by go_grown) hlt) (HX.out.below (by go_grown) (Nat.le_refl _))).mono ?_
  rintro e w1 ⟨p, rfl, p0, p1, s1, hw1⟩
  have z1 := hw1.size
  simp at z1
  have W1 : WroteIn w w1 b (b + 1) := wrote_join (wrote_alloc (WroteIn.refl w b (b + 1)) _) hw1 (fun j _ _ => .inr (by omega))
  have O1 := Lib.hid (own_wrote (own_new3 w 0 0 0 51) hw1 (by omega))
  have S1 := Lib.hid s1
  have hb1 : b < w1.heap.size := by omega
  clear s1
  go_wp2_with fail
  refine (pick_c b A n c X (K + 2) 20 19 _ hn (by omega) (by omega) (by omega) HA.out (S1.out.below (K := K + 2) (B := w1.heap.size) (by go_grown) hb1) ((HX.out.wrote W1 HA.out (Nat.le_refl _)).below (K := w1.heap.size) (by go_grown) (Nat.le_refl _))).mono ?_
  rintro e w2 ⟨q, rfl, q0, q1, s2, hw2⟩
  have z2 := hw2.size
  simp at z2
  have W2 : WroteIn w w2 b (b + 1) := wrote_join (wrote_alloc W1 _) hw2 (fun j _ _ => .inr (by omega))
  have O2 := Lib.hid (own_wrote (O1.out.alloc _) hw2 (by omega))
  have P2 := Lib.hid (own_wrote (own_new3 w1 (100 + 50 * p) 0 0 51) hw2 (by omega))
  have S2 := Lib.hid s2
  have c1 := P2.out.cell (j := 1) (by omega)
  have g1 := P2.out.frozen 1
  have y2 : w1.heap.size < w2.heap.size := by omega
  have hb2 : b < w2.heap.size := by omega
  have hne : w1.heap.size ≠ b := by omega
  clear s2
  go_wp2_with fail
  refine (pick_c b A n c X (K + 4) (20 + 5 * q) (19 + 5 * q) _ hn (by omega) (by omega) (by omega) HA.out ((S2.out.mono (by omega)).wrote (wrote_set1 (WroteIn.refl w2 w1.heap.size (w1.heap.size + 1)) _ _) (.inl (by omega))) ((HX.out.wrote W2 HA.out (Nat.le_refl _)).wrote (wrote_set1 (WroteIn.refl w2 w1.heap.size (w1.heap.size + 1)) _ _) HA.out (by omega))).mono ?_
  rintro e w3 ⟨r, rfl, r0, r1, s3, hw3⟩
  have z3 := hw3.size
  simp at z3
  have W3 : WroteIn w w3 b (b + 1) := wrote_join (wrote_new W2 (a := ⟨w1.heap.size, 1, none⟩) (by show w.heap.size ≤ w1.heap.size; omega) _) hw3 (fun j _ _ => .inr (by omega))
  have O3 := Lib.hid (own_wrote (O2.out.setOther (a := ⟨w1.heap.size, 1, none⟩) (by show w.heap.size ≠ w1.heap.size; omega) (.int .i64 (20 + 5 * q))) hw3 (by omega))
  have P3 := Lib.hid (own_wrote (P2.out.set 1 (20 + 5 * q)) hw3 (by omega))
  have S3 := Lib.hid s3
  have d0 : w3.cell? ⟨w1.heap.size, 0, none⟩ = some (.int .i64 (100 + 50 * p)) := P3.out.cell (j := 0) (by omega)
  have d1 : w3.cell? ⟨w1.heap.size, 1, none⟩ = some (.int .i64 (20 + 5 * q)) := P3.out.cell (j := 1) (by omega)
  have d2 : w3.cell? ⟨w1.heap.size, 2, none⟩ = some (.int .i64 0) := P3.out.cell (j := 2) (by omega)
  have h2 := P3.out.frozen 2
  have o0 : w3.cell? ⟨w.heap.size, 0, none⟩ = some (.int .i64 0) := O3.out.cell (j := 0) (by omega)
  have o1 : w3.cell? ⟨w.heap.size, 1, none⟩ = some (.int .i64 0) := O3.out.cell (j := 1) (by omega)
  have o2 : w3.cell? ⟨w.heap.size, 2, none⟩ = some (.int .i64 0) := O3.out.cell (j := 2) (by omega)
  have k0 := O3.out.frozen 0
  have k1 := O3.out.frozen 1
  have k2 := O3.out.frozen 2
  have y0 : w.heap.size < w1.heap.size := by omega
  have y3 : w.heap.size ≠ w1.heap.size := by omega
  have y4 : w1.heap.size ≠ w.heap.size := by omega
  have hb3 : b ≠ w.heap.size := by omega
  clear s3 c1 g1
  go_wp2
  refine bodyPost_ret (v := .agg #[.int .i64 (100 + 50 * p), .int .i64 (20 + 5 * q), .int .i64 (1 + r)]) (by simp [results, Try.results131, go_sem, o0, o1, o2]) rfl ?_
  refine ⟨_, _, _, rfl, ?_, by omega, by omega, ((((S3.out.mono (by omega)).set (a := ⟨w1.heap.size, 2, none⟩) (by show b ≠ w1.heap.size; omega) _).set (a := ⟨w.heap.size, 0, none⟩) hb3 _).set (a := ⟨w.heap.size, 1, none⟩) hb3 _).set (a := ⟨w.heap.size, 2, none⟩) hb3 _, ?_⟩
  · unfold rodB
    rw [inB_yes (by omega) (by omega), inB_yes (by omega) (by omega), inB_yes (by omega) (by omega)]
    rfl
  · exact wrote_new (wrote_new (wrote_new (wrote_new W3 (by show w.heap.size ≤ w1.heap.size; omega) _) (Nat.le_refl _) _) (Nat.le_refl _) _) (Nat.le_refl _) _

end Go.Proofs.Ytcpaenmhnoagdab.src
