/-
  The laws' own girths and thicknesses.
-/
import Derived.Test.YtcpaenmhnoagdaaKept
namespace Go.Proofs.Ytcpaenmhnoagdaa.src
open Go.ChangeShapes Go.WideShapes Go.ChangeAt Go.RowKit Go.Proofs.Ytcpaenmhnoagdaa.mem
set_option linter.unusedVariables false

theorem intsG_lit (l : List Int) (W : World) (E : TypeId) : Ints (W.alloc (.cells (l.map (Value.int .i64)).toArray E)) W.heap.size 0 l.length (fun j => l.getD j 0) := fun i hi => by
  have hh : (W.alloc (.cells (l.map (Value.int .i64)).toArray E)).heap[W.heap.size]? = some (.cells (l.map (Value.int .i64)).toArray E) := Go.Deep.blk_alloc_new _ _
  unfold World.cell?
  rw [hh]
  simp [List.getD, hi]

set_option maxHeartbeats 1000000 in
theorem dgirth_c (b : Nat) (A : Option Addr) (n c : Nat) (X : Nat → Int) (K : Int) (w : World) (hn : n ≤ 4096) (hK : K ≤ 700000000) (hA : 0 < n → ∀ x o, A = some ⟨x, o, none⟩ → x < b) (hs : Src w b A n c K) (hx : Sb w A n X) :
    Calls Try.prog 75 #[.pointer (some ⟨b, 0, none⟩)] w fun e w' => ∃ y : Int, e = .returned (.int .i64 y) ∧ -1 ≤ y ∧ y ≤ 2001 ∧ Src w' b A n c (K + 4) ∧ Kept w.heap.size b w w' := by
  have hlt := hs.lt
  have HP := Lib.hid (one_c b A n c X K 8 7 w hn (by omega) (by omega) (by omega) hA hs hx)
  have HX := Lib.hid hx
  have HA := Lib.hid hA
  clear hs hx hA
  go_enter Try.func75, Try.ntmps75
  go_wp2_with fail
  refine HP.out.mono ?_
  rintro e w1 ⟨r, rfl, s1, hw1⟩
  have S1 := Lib.hid s1
  have z1 := hw1.size
  have X1 := Lib.hid (HX.out.wrote hw1 HA.out (Nat.le_refl _))
  have K1 := Lib.hid ((Kept.refl w.heap.size b w).wrote hw1 (Nat.le_refl _))
  clear s1 hw1
  cases r
  · go_wp2_with fail
    refine (pick_c b A n c X (K + 2) 900 899 w1 hn (by omega) (by omega) (by omega) HA.out S1.out X1.out).mono ?_
    rintro e w2 ⟨v, rfl, v0, v1, s2, hw2⟩
    have S2 := Lib.hid s2
    clear s2
    go_wp2
    go_ret
    exact ⟨200 + v, rfl, by omega, by omega, S2.out.mono (by omega), K1.out.wrote hw2 (Nat.le_refl _)⟩
  · go_wp2_with fail
    refine (among_c b A n c X (K + 2) w1.heap.size 5 5 (fun j => ([-1, 9, 10, 2000, 2001] : List Int).getD j 0) _ hn (by omega) HA.out (S1.out.of_block (Go.Deep.blk_alloc_lt _ _ _ S1.out.lt) (by simp)) (X1.out.below (K := w1.heap.size) (by go_grown) (Nat.le_refl _)) (by omega) (by omega) (by omega) (by simp) (intsG_lit [-1, 9, 10, 2000, 2001] _ _)).mono ?_
    rintro e w2 ⟨j, hj, rfl, s2, hw2⟩
    obtain ⟨y, hy, y0, y1⟩ : ∃ y, (fun j => ([-1, 9, 10, 2000, 2001] : List Int).getD j 0) j = y ∧ -1 ≤ y ∧ y ≤ 2001 := ⟨_, rfl, by
      have h5 : j = 0 ∨ j = 1 ∨ j = 2 ∨ j = 3 ∨ j = 4 := by omega
      rcases h5 with rfl | rfl | rfl | rfl | rfl <;> decide, by
      have h5 : j = 0 ∨ j = 1 ∨ j = 2 ∨ j = 3 ∨ j = 4 := by omega
      rcases h5 with rfl | rfl | rfl | rfl | rfl <;> decide⟩
    rw [hy]
    have S2 := Lib.hid s2
    have K2 := Lib.hid ((K1.out.alloc (Nat.le_refl _) _).wrote hw2 (Nat.le_refl _))
    clear s2 hw2 hy
    go_wp2
    go_ret
    exact ⟨y, rfl, y0, y1, S2.out.mono (by omega), K2.out⟩

set_option maxHeartbeats 1000000 in
theorem dthick_c (b : Nat) (A : Option Addr) (n c : Nat) (X : Nat → Int) (K : Int) (w : World) (hn : n ≤ 4096) (hK : K ≤ 700000000) (hA : 0 < n → ∀ x o, A = some ⟨x, o, none⟩ → x < b) (hs : Src w b A n c K) (hx : Sb w A n X) :
    Calls Try.prog 77 #[.pointer (some ⟨b, 0, none⟩)] w fun e w' => ∃ y : Int, e = .returned (.int .i64 y) ∧ -1 ≤ y ∧ y ≤ 301 ∧ Src w' b A n c (K + 4) ∧ Kept w.heap.size b w w' := by
  have hlt := hs.lt
  have HP := Lib.hid (one_c b A n c X K 8 7 w hn (by omega) (by omega) (by omega) hA hs hx)
  have HX := Lib.hid hx
  have HA := Lib.hid hA
  clear hs hx hA
  go_enter Try.func77, Try.ntmps77
  go_wp2_with fail
  refine HP.out.mono ?_
  rintro e w1 ⟨r, rfl, s1, hw1⟩
  have S1 := Lib.hid s1
  have z1 := hw1.size
  have X1 := Lib.hid (HX.out.wrote hw1 HA.out (Nat.le_refl _))
  have K1 := Lib.hid ((Kept.refl w.heap.size b w).wrote hw1 (Nat.le_refl _))
  clear s1 hw1
  cases r
  · go_wp2_with fail
    refine (pick_c b A n c X (K + 2) 90 89 w1 hn (by omega) (by omega) (by omega) HA.out S1.out X1.out).mono ?_
    rintro e w2 ⟨v, rfl, v0, v1, s2, hw2⟩
    have S2 := Lib.hid s2
    clear s2
    go_wp2
    go_ret
    exact ⟨30 + v, rfl, by omega, by omega, S2.out.mono (by omega), K1.out.wrote hw2 (Nat.le_refl _)⟩
  · go_wp2_with fail
    refine (among_c b A n c X (K + 2) w1.heap.size 5 5 (fun j => ([-1, 0, 1, 300, 301] : List Int).getD j 0) _ hn (by omega) HA.out (S1.out.of_block (Go.Deep.blk_alloc_lt _ _ _ S1.out.lt) (by simp)) (X1.out.below (K := w1.heap.size) (by go_grown) (Nat.le_refl _)) (by omega) (by omega) (by omega) (by simp) (intsG_lit [-1, 0, 1, 300, 301] _ _)).mono ?_
    rintro e w2 ⟨j, hj, rfl, s2, hw2⟩
    obtain ⟨y, hy, y0, y1⟩ : ∃ y, (fun j => ([-1, 0, 1, 300, 301] : List Int).getD j 0) j = y ∧ -1 ≤ y ∧ y ≤ 301 := ⟨_, rfl, by
      have h5 : j = 0 ∨ j = 1 ∨ j = 2 ∨ j = 3 ∨ j = 4 := by omega
      rcases h5 with rfl | rfl | rfl | rfl | rfl <;> decide, by
      have h5 : j = 0 ∨ j = 1 ∨ j = 2 ∨ j = 3 ∨ j = 4 := by omega
      rcases h5 with rfl | rfl | rfl | rfl | rfl <;> decide⟩
    rw [hy]
    have S2 := Lib.hid s2
    have K2 := Lib.hid ((K1.out.alloc (Nat.le_refl _) _).wrote hw2 (Nat.le_refl _))
    clear s2 hw2 hy
    go_wp2
    go_ret
    exact ⟨y, rfl, y0, y1, S2.out.mono (by omega), K2.out⟩

set_option maxHeartbeats 1000000 in
theorem areaD_c (A : Option Addr) (n c : Nat) (X : Nat → Int) (w : World) (hn : n ≤ 4096) (hx : Sb w A n X) :
    Calls Try.prog 41 #[.slice A n c] w fun e w' => ∃ y : Int, e = .returned (.int .i64 y) ∧ -1 ≤ y ∧ y ≤ 2001 ∧ Below w.heap.size w w' := by
  have HX := Lib.hid hx
  have HA := Lib.hid (hx.low (Nat.le_refl w.heap.size))
  clear hx
  go_enter Try.func41, Try.ntmps41
  go_wp2_with fail
  refine (from_c A n c _).mono ?_
  rintro e w1 ⟨rfl, s1, hb1⟩
  have S1 := Lib.hid s1
  have B1 := Lib.hid hb1
  have z1 := s1.lt
  clear s1 hb1
  go_wp2_with fail
  refine (dgirth_c w.heap.size A n c X 0 w1 hn (by omega) HA.out S1.out (HX.out.below B1.out (Nat.le_refl _))).mono ?_
  rintro e w2 ⟨y, rfl, y0, y1, s2, k2⟩
  have B2 := Lib.hid (B1.out.trans ((k2.mono (M := w.heap.size) (by omega)).below (by omega)))
  clear s2 k2
  go_wp2
  go_ret
  exact ⟨y, rfl, y0, y1, B2.out⟩

set_option maxHeartbeats 1000000 in
theorem rodsD_c (A : Option Addr) (n c : Nat) (X : Nat → Int) (w : World) (hn : n ≤ 4096) (hx : Sb w A n X) :
    Calls Try.prog 42 #[.slice A n c] w fun e w' => ∃ y t : Int, e = .returned (.tuple #[.int .i64 y, .int .i64 t]) ∧ -1 ≤ y ∧ y ≤ 2001 ∧ -1 ≤ t ∧ t ≤ 301 ∧ Below w.heap.size w w' := by
  have HX := Lib.hid hx
  have HA := Lib.hid (hx.low (Nat.le_refl w.heap.size))
  clear hx
  go_enter Try.func42, Try.ntmps42
  go_wp2_with fail
  refine (from_c A n c _).mono ?_
  rintro e w1 ⟨rfl, s1, hb1⟩
  have S1 := Lib.hid s1
  have B1 := Lib.hid hb1
  have z1 := s1.lt
  clear s1 hb1
  go_wp2_with fail
  refine (dgirth_c w.heap.size A n c X 0 w1 hn (by omega) HA.out S1.out (HX.out.below B1.out (Nat.le_refl _))).mono ?_
  rintro e w2 ⟨y, rfl, y0, y1, s2, k2⟩
  have z2 := k2.size
  have S2 := Lib.hid s2
  have B2 := Lib.hid (B1.out.trans ((k2.mono (M := w.heap.size) (by omega)).below (by omega)))
  clear s2 k2
  go_wp2_with fail
  refine (dthick_c w.heap.size A n c X (0 + 4) w2 hn (by omega) HA.out S2.out (HX.out.below B2.out (Nat.le_refl _))).mono ?_
  rintro e w3 ⟨t, rfl, t0, t1, s3, k3⟩
  have B3 := Lib.hid (B2.out.trans ((k3.mono (M := w.heap.size) (by omega)).below (by omega)))
  clear s3 k3
  go_wp2
  go_returns
  exact ⟨y, t, rfl, y0, y1, t0, t1, B3.out⟩

end Go.Proofs.Ytcpaenmhnoagdaa.src
