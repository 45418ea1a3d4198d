/-
  What FnAreas draws, and pairs of answers.
-/
import Derived.Test.YtcpaenmhnoagdaaDrawU
import Derived.Test.YtcpaenmhnoagdaaAreas
import Derived.Test.YtcpaenmhnoagdaaWeigh
namespace Go.Proofs.Ytcpaenmhnoagdaa.src
open Go.ChangeShapes Go.WideShapes Go.ChangeAt Go.RowKit Go.Proofs.Ytcpaenmhnoagdaa.mem Go.Proofs.Ytcpaenmhnoagdaa.rod
set_option linter.unusedVariables false

set_option maxHeartbeats 1000000 in
theorem weightD_c (A : Option Addr) (n c : Nat) (X : Nat → Int) (w : World) (hn : n ≤ 4096) (hx : Sb w A n X) :
    Calls Try.prog 43 #[.slice A n c] w fun e w' => ∃ (P : Option Addr) (k d : Nat) (Y : Nat → Int) (l : Int), e = .returned (.tuple #[.slice P k d, .int .i64 l]) ∧ k ≤ 31 ∧ k ≤ d ∧ d ≤ maxLen ∧ Row w' w.heap.size w'.heap.size P k 3 57 Y ∧ Below w.heap.size w w' := by
  have HX := Lib.hid hx
  have HA := Lib.hid (hx.low (Nat.le_refl w.heap.size))
  clear hx
  go_enter Try.func43, Try.ntmps43
  go_wp2_with fail
  refine (from_c A n c _).mono ?_
  rintro e w1 ⟨rfl, s1, hb1⟩
  have S1 := Lib.hid s1
  have B1 := Lib.hid hb1
  have z1 := s1.lt
  clear s1 hb1
  go_wp2_with fail
  refine (drawU_c w.heap.size A n c X 0 w1 hn (by omega) HA.out S1.out (HX.out.below B1.out (Nat.le_refl _))).mono ?_
  rintro e w2 ⟨P, k, d, Y, rfl, k31, kd, dm, hr, s2, k2⟩
  have z2 := k2.size
  have S2 := Lib.hid s2
  have R2 := Lib.hid hr
  have B2 := Lib.hid (B1.out.trans ((k2.mono (M := w.heap.size) (by omega)).below (by omega)))
  clear hr s2 k2
  go_wp2_with fail
  refine (among_c w.heap.size A n c X (0 + 300) w2.heap.size 8 8 (fun j => ([900, 1200, 1500, 1000, -1, 99, 3000, 3001] : List Int).getD j 0) _ hn (by omega) HA.out (S2.out.of_block (Go.Deep.blk_alloc_lt _ _ _ S2.out.lt) (by simp)) ((HX.out.below B2.out (Nat.le_refl _)).below (K := w2.heap.size) (by go_grown) (Nat.le_refl _)) (by omega) (by omega) (by omega) (by simp) (intsG_lit [900, 1200, 1500, 1000, -1, 99, 3000, 3001] _ _)).mono ?_
  rintro e w3 ⟨j, hj, rfl, s3, hw3⟩
  generalize (fun j => ([900, 1200, 1500, 1000, -1, 99, 3000, 3001] : List Int).getD j 0) j = l
  have z3 := hw3.size
  simp at z3
  have R3 := Lib.hid (show Row w3 w.heap.size w3.heap.size P k 3 57 Y from fun hk => by
    obtain ⟨g, e, h1, h2, h3⟩ := R2.out hk
    exact ⟨g, e, by omega, by omega, own_wrote (h3.alloc _) hw3 (by omega)⟩)
  have B3 := Lib.hid (show Below w.heap.size w w3 from (Below.alloc B2.out (by omega) _).trans (hw3.below (B := w.heap.size) (by simp; omega) (Nat.le_refl _)))
  clear s3 hw3 hj
  go_wp2
  go_returns
  exact ⟨P, k, d, Y, l, rfl, k31, kd, dm, R3.out, B3.out⟩

theorem frac_eq {x : Int} (h0 : 0 ≤ x) : x / gcdI x 88 * 88 = x * (88 / gcdI x 88) ∧ 0 ≤ x / gcdI x 88 ∧ x / gcdI x 88 ≤ x ∧ 1 ≤ 88 / gcdI x 88 ∧ 88 / gcdI x 88 ≤ 88 := by
  have g1 : 1 ≤ gcdI x 88 := gcdI_pos (by omega)
  obtain ⟨a, ha⟩ : gcdI x 88 ∣ x := Int.gcd_dvd_left ..
  obtain ⟨b, hb⟩ : gcdI x 88 ∣ 88 := Int.gcd_dvd_right ..
  generalize gcdI x 88 = d at *
  have e1 : x / d = a := by rw [ha]; exact Int.mul_ediv_cancel_left _ (by omega)
  have e2 : 88 / d = b := by rw [hb]; exact Int.mul_ediv_cancel_left _ (by omega)
  have b1 : 1 ≤ b := by
    rcases Int.lt_or_le 0 b with h | h
    · omega
    · have := Int.mul_nonpos_of_nonneg_of_nonpos (a := d) (b := b) (by omega) h; omega
  refine ⟨?_, Int.ediv_nonneg h0 (by omega), Int.ediv_le_self _ h0, by omega, Int.ediv_le_self _ (by omega)⟩
  rw [e1, e2]
  calc a * 88 = a * (d * b) := by rw [← hb]
    _ = d * a * b := by rw [← Int.mul_assoc, Int.mul_comm a d]
    _ = x * b := by rw [← ha]
def AreaIs (g N D cd : Int) : Prop := (cd = 0 ∧ 10 ≤ g ∧ g ≤ 2000 ∧ N * 88 = 7 * g * g * D ∧ 0 ≤ N ∧ N ≤ 28000000 ∧ 1 ≤ D ∧ D ≤ 88) ∨ cd = 2
theorem area_any (g : Int) : ∃ N D cd, (∀ W, Calls Try.prog 21 #[.int .i64 g] W fun e w' => e = .returned (.tuple #[.agg #[.int .i64 N, .int .i64 D], .int .i64 cd]) ∧ Below W.heap.size W w') ∧
    (∀ W, Calls Try.prog 20 #[.int .i64 g] W fun e w' => e = .returned (.tuple #[.agg #[.int .i64 N, .int .i64 D], .int .i64 cd]) ∧ Below W.heap.size W w') ∧ AreaIs g N D cd := by
  cases h : inB g 10 2000
  · exact ⟨0, 0, 2, fun W => areaOf_i_no g W h, fun W => areaOf_s_no g W h, .inr rfl⟩
  · obtain ⟨a1, a2⟩ := inB_of h
    obtain ⟨b1, b2⟩ := area_bd a1 a2
    obtain ⟨e1, e2, e3, e4, e5⟩ := frac_eq b1
    exact ⟨_, _, 0, fun W => areaOf_i g W h, fun W => areaOf_s g W h, .inl ⟨rfl, a1, a2, e1, e2, by omega, e4, e5⟩⟩
theorem rin_mono {g t : Int} (g1 : 10 ≤ g) (g2 : g + 1 ≤ 2000) (t1 : 1 ≤ t) (t2 : t ≤ 300) : rin g t ≤ rin (g + 1) t := by
  obtain ⟨_, _, _, _, _, _, b3, _⟩ := rin_bd g1 (by omega : g ≤ 2000) t1 t2
  unfold rin
  exact Int.ediv_le_ediv (by omega) (Int.mul_le_mul (by omega) (by omega) (by omega) (by omega))
def RodsAre (g t v cd : Int) : Prop := (cd = 0 ∧ 10 ≤ g ∧ g ≤ 2000 ∧ 1 ≤ t ∧ t ≤ 300 ∧ v = rin g t) ∨ cd = 2
theorem rods_any (g t : Int) : ∃ v cd, (∀ W, Calls Try.prog 24 #[.int .i64 g, .int .i64 t] W fun e w' => e = .returned (.tuple #[.int .i64 v, .int .i64 cd]) ∧ Below W.heap.size W w') ∧
    (∀ W, Calls Try.prog 23 #[.int .i64 g, .int .i64 t] W fun e w' => e = .returned (.tuple #[.int .i64 v, .int .i64 cd]) ∧ Below W.heap.size W w') ∧ RodsAre g t v cd := by
  refine ⟨_, _, fun W => rodsIn_i g t W, fun W => rodsIn_s g t W, ?_⟩
  cases h1 : inB g 10 2000
  · exact .inr (by unfold rodsIn; rw [h1]; rfl)
  cases h2 : inB t 1 300
  · exact .inr (by unfold rodsIn; rw [h1, h2]; rfl)
  obtain ⟨a1, a2⟩ := inB_of h1
  obtain ⟨b1, b2⟩ := inB_of h2
  exact .inl ⟨by unfold rodsIn; rw [h1, h2]; rfl, a1, a2, b1, b2, by unfold rodsIn; rw [h1, h2]; rfl⟩
def WeighIs (k : Nat) (Y : Nat → Int) (l v cd : Int) : Prop := (cd = 0 ∧ v = wol Y l k ∧ k ≤ 30 ∧ allU Y k = true) ∨ (1 ≤ cd ∧ cd ≤ 2)
theorem weigh_any (P : Option Addr) (k d : Nat) (Y : Nat → Int) (l : Int) (hk : k ≤ 31) : ∃ v cd, (∀ W, Sl W P k 3 Y → Calls Try.prog 32 #[.slice P k d, .int .i64 l] W fun e w' => e = .returned (.tuple #[.int .i64 v, .int .i64 cd]) ∧ Below W.heap.size W w') ∧
    (∀ W, Sl W P k 3 Y → Calls Try.prog 31 #[.slice P k d, .int .i64 l] W fun e w' => e = .returned (.tuple #[.int .i64 v, .int .i64 cd]) ∧ Below W.heap.size W w') ∧ WeighIs k Y l v cd := by
  have hm : k ≤ maxLen := by unfold maxLen; omega
  cases h1 : listU k Y
  · exact ⟨0, 1, fun W h => weigh_i_no P k d Y l 1 W hm h (.inl ⟨h1, rfl⟩), fun W h => weigh_s_no P k d Y l 1 W hm h (.inl ⟨h1, rfl⟩), .inr ⟨by omega, by omega⟩⟩
  cases h2 : inB l 100 3000
  · exact ⟨0, 2, fun W h => weigh_i_no P k d Y l 2 W hm h (.inr ⟨h1, h2, rfl⟩), fun W h => weigh_s_no P k d Y l 2 W hm h (.inr ⟨h1, h2, rfl⟩), .inr ⟨by omega, by omega⟩⟩
  · obtain ⟨a, b⟩ := listU_of h1
    exact ⟨_, 0, fun W h => weigh_i P k d Y l W hm h h1 h2, fun W h => weigh_s P k d Y l W hm h h1 h2, .inl ⟨rfl, rfl, a, b⟩⟩

end Go.Proofs.Ytcpaenmhnoagdaa.src
