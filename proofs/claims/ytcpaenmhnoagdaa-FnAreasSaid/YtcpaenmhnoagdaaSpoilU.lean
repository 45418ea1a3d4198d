/-
  The laws' own bundles: one that is mostly not valid.
-/
import Derived.Test.YtcpaenmhnoagdaaNewU
namespace Go.Proofs.Ytcpaenmhnoagdaa.src
open Go.ChangeShapes Go.WideShapes Go.ChangeAt Go.RowKit Go.Proofs.Ytcpaenmhnoagdaa.mem
set_option linter.unusedVariables false

set_option maxHeartbeats 4000000 in
set_option maxRecDepth 100000 in
theorem spoilU_c (b g N nb : Nat) (Y : Nat → Int) (A : Option Addr) (n c : Nat) (X : Nat → Int) (K : Int) (w : World) (hn : n ≤ 4096) (hK : K ≤ 800000000) (hA : 0 < n → ∀ x o, A = some ⟨x, o, none⟩ → x < b) (hs : Src w b A n c K) (hx : Sb w A n X) (hN : N ≤ g) (hb : b < N) (ho : mem.Own w g 57 nb Y) (h3 : 3 ≤ nb) :
    Calls Try.prog 95 #[.pointer (some ⟨b, 0, none⟩), .pointer (some ⟨g, 0, none⟩)] w fun e w' => ∃ Z, e = .returned (.tuple #[]) ∧ mem.Own w' g 57 nb Z ∧ Src w' b A n c (K + 4) ∧ Kept N b w w' := by
  have hlt := hs.lt
  have hgl := ho.lt
  have HA := Lib.hid hA
  have HX := Lib.hid hx
  have HO := Lib.hid ho
  have HP := Lib.hid (pick_c b A n c X K 3 2 w hn (by omega) (by omega) (by omega) hA hs hx)
  clear hs hx hA ho
  go_enter Try.func95, Try.ntmps95
  go_wp2_with fail
  refine HP.out.mono ?_
  rintro e w1 ⟨v, rfl, v0, v1, s1, hw1⟩
  have z1 := hw1.size
  have S1 := Lib.hid s1
  have X1 := Lib.hid (HX.out.wrote hw1 HA.out (Nat.le_refl _))
  have K1 := Lib.hid ((Kept.refl N b w).wrote hw1 (by omega))
  have O1 := Lib.hid (own_wrote HO.out hw1 (by omega))
  clear s1 hw1
  obtain rfl | rfl | rfl : v = 0 ∨ v = 1 ∨ v = 2 := by omega
  · go_wp2_with fail
    refine (among_c b A n c X (K + 2) w1.heap.size 5 5 (fun j => ([-1, 99, 100, 3000, 3001] : List Int).getD j 0) _ hn (by omega) HA.out (S1.out.of_block (Go.Deep.blk_alloc_lt _ _ _ S1.out.lt) (by simp)) (X1.out.below (K := w1.heap.size) (by go_grown) (Nat.le_refl _)) (by omega) (by omega) (by omega) (by simp) (intsG_lit [-1, 99, 100, 3000, 3001] _ _)).mono ?_
    rintro e w2 ⟨j, hj, rfl, s2, hw2⟩
    generalize (fun j => ([-1, 99, 100, 3000, 3001] : List Int).getD j 0) j = y
    have z2 := hw2.size
    simp at z2
    have S2 := Lib.hid s2
    have K2 := Lib.hid ((K1.out.alloc (by omega) _).wrote hw2 (by omega))
    have O2 := Lib.hid (own_wrote (O1.out.alloc _) hw2 (by omega))
    have cc := O2.out.cell (j := 0) (by omega)
    have ff := O2.out.frozen 0
    have hne : b ≠ g := by omega
    clear s2 hw2 hj
    go_wp2
    go_end0
    exact ⟨_, rfl, O2.out.set 0 y, (S2.out.mono (by omega)).set (a := ⟨g, 0, none⟩) hne _, K2.out.set (a := ⟨g, 0, none⟩) hN _⟩
  · go_wp2_with fail
    refine (among_c b A n c X (K + 2) w1.heap.size 6 6 (fun j => ([-1, 9, 10, 2000, 2001, -9223372036854775808] : List Int).getD j 0) _ hn (by omega) HA.out (S1.out.of_block (Go.Deep.blk_alloc_lt _ _ _ S1.out.lt) (by simp)) (X1.out.below (K := w1.heap.size) (by go_grown) (Nat.le_refl _)) (by omega) (by omega) (by omega) (by simp) (intsG_lit [-1, 9, 10, 2000, 2001, -9223372036854775808] _ _)).mono ?_
    rintro e w2 ⟨j, hj, rfl, s2, hw2⟩
    generalize (fun j => ([-1, 9, 10, 2000, 2001, -9223372036854775808] : List Int).getD j 0) j = y
    have z2 := hw2.size
    simp at z2
    have S2 := Lib.hid s2
    have K2 := Lib.hid ((K1.out.alloc (by omega) _).wrote hw2 (by omega))
    have O2 := Lib.hid (own_wrote (O1.out.alloc _) hw2 (by omega))
    have cc := O2.out.cell (j := 1) (by omega)
    have ff := O2.out.frozen 1
    have hne : b ≠ g := by omega
    clear s2 hw2 hj
    go_wp2
    go_end0
    exact ⟨_, rfl, O2.out.set 1 y, (S2.out.mono (by omega)).set (a := ⟨g, 1, none⟩) hne _, K2.out.set (a := ⟨g, 1, none⟩) hN _⟩
  · go_wp2_with fail
    refine (among_c b A n c X (K + 2) w1.heap.size 5 5 (fun j => ([-1, 0, 1, 50000, 50001] : List Int).getD j 0) _ hn (by omega) HA.out (S1.out.of_block (Go.Deep.blk_alloc_lt _ _ _ S1.out.lt) (by simp)) (X1.out.below (K := w1.heap.size) (by go_grown) (Nat.le_refl _)) (by omega) (by omega) (by omega) (by simp) (intsG_lit [-1, 0, 1, 50000, 50001] _ _)).mono ?_
    rintro e w2 ⟨j, hj, rfl, s2, hw2⟩
    generalize (fun j => ([-1, 0, 1, 50000, 50001] : List Int).getD j 0) j = y
    have z2 := hw2.size
    simp at z2
    have S2 := Lib.hid s2
    have K2 := Lib.hid ((K1.out.alloc (by omega) _).wrote hw2 (by omega))
    have O2 := Lib.hid (own_wrote (O1.out.alloc _) hw2 (by omega))
    have cc := O2.out.cell (j := 2) (by omega)
    have ff := O2.out.frozen 2
    have hne : b ≠ g := by omega
    clear s2 hw2 hj
    go_wp2
    go_end0
    exact ⟨_, rfl, O2.out.set 2 y, (S2.out.mono (by omega)).set (a := ⟨g, 2, none⟩) hne _, K2.out.set (a := ⟨g, 2, none⟩) hN _⟩

end Go.Proofs.Ytcpaenmhnoagdaa.src
