/-
  The laws' own beds: a new one.
-/
import Derived.Test.YtcpaenmhnoagdacKept
namespace Go.Proofs.Ytcpaenmhnoagdac.src
open Go.ChangeShapes Go.WideShapes Go.ChangeAt Go.RowKit Go.Proofs.Ytcpaenmhnoagdac.mem
set_option linter.unusedVariables false

/-- the answer is a bed of the call's own, and the source lies on -/
def DrawnBed (N : Nat) (w : World) (b : Nat) (A : Option Addr) (n c : Nat) (K : Int) (e : Ending) (w' : World) : Prop :=
  ∃ (P : Option Addr) (m d : Nat) (Y : Nat → Int) (a : Int), e = .returned (.agg #[.slice P m d, .int .i64 a]) ∧ m ≤ 6 ∧ m ≤ d ∧ d ≤ maxLen ∧ Row w' N w'.heap.size P m 1 2 Y ∧ Src w' b A n c K ∧ Kept w.heap.size b w w'

/-- between two rounds -/
def Growing (w wr : World) (b : Nat) (A : Option Addr) (n c : Nat) (K : Int) (k i : Nat) (t : Int) (v : Value) (Y : Nat → Int) : Prop :=
  i + k ≤ 4 ∧ 1 ≤ i + k ∧ 0 ≤ t ∧ t ≤ 40 + 60 * i ∧ wr.ownsRow w.heap.size 2 1 v i (iC Y i) ∧ wr.heap[w.heap.size]? = some (.cells #[.slice none 0 0, .int .i64 0] 26 (0, 0)) ∧ wr.heap[w.heap.size + 1 + 1]? = some (.cells #[v, .int .i64 0] 26 (0, 0)) ∧ Src wr b A n c (K + 4 + 2 * i) ∧ Kept w.heap.size b w wr

set_option maxHeartbeats 8000000 in
set_option maxRecDepth 100000 in
theorem newBed_c (b : Nat) (A : Option Addr) (n c : Nat) (X : Nat → Int) (K : Int) (w : World) (hn : n ≤ 4096) (hK : K ≤ 800000000) (hA : 0 < n → ∀ x o, A = some ⟨x, o, none⟩ → x < b) (hs : Src w b A n c K) (hx : Sb w A n X) :
    Calls Try.prog 100 #[.pointer (some ⟨b, 0, none⟩)] w fun e w' => ∃ (g m d : Nat) (Y : Nat → Int) (a : Int), e = .returned (.agg #[.slice (some ⟨g, 0, none⟩) m d, .int .i64 a]) ∧ 1 ≤ m ∧ m ≤ 4 ∧ m ≤ d ∧ d ≤ maxLen ∧ w.heap.size ≤ g ∧ mem.Own w' g 2 m Y ∧ Src w' b A n c (K + 14) ∧ Kept w.heap.size b w w' := by
  have hlt := hs.lt
  have HS := Lib.hid hs
  have KEY := Lib.hid (fun (J m h : Int) (wr : World) (h1 : J ≤ 900000000) (h2 : m - 1 ≤ h) (h3 : 0 ≤ h) (h4 : Src wr b A n c J) (h5 : Kept w.heap.size b w wr) => pick_c b A n c X J m h wr hn h1 h2 h3 hA h4 (hx.kept h5 hA (by omega)))
  obtain ⟨i0, hi0, hz0, hz1, hz2⟩ := info_parts nums.info_num
  have hne0 : b ≠ w.heap.size := by omega
  have hne2 : b ≠ w.heap.size + 1 + 1 := by omega
  obtain ⟨W0, hW0⟩ : ∃ W, W = (((w.alloc (.cells #[.slice none 0 0, .int .i64 0] 26)).alloc (.cells #[] 2)).alloc (.cells #[.slice (some ⟨w.heap.size + 1, 0, none⟩) 0 0, .int .i64 0] 26)) := ⟨_, rfl⟩
  have zW : w.heap.size + 1 + 1 < W0.heap.size := by rw [hW0]; simp
  have hG0 : Growing w W0 b A n c (K - 4) 1 0 0 (.slice (some ⟨w.heap.size + 1, 0, none⟩) 0 0) (fun _ => 0) := by
    refine ⟨by omega, by omega, by omega, by omega, ?_, ?_, ?_, ?_, ?_⟩
    · have h0 := owns_new0 (w.alloc (.cells #[.slice none 0 0, .int .i64 0] 26)) 2 1 w.heap.size (by simp)
      rw [World.size_alloc] at h0
      rw [hW0]
      exact h0.alloc _
    · rw [hW0]
      exact (Go.Deep.blk_alloc_lt _ _ _ (by simp; omega)).trans ((Go.Deep.blk_alloc_lt _ _ _ (by simp)).trans (Go.Deep.blk_alloc_new _ _))
    · rw [hW0]
      have h2 := Go.Deep.blk_alloc_new (((w.alloc (.cells #[.slice none 0 0, .int .i64 0] 26)).alloc (.cells #[] 2))) (.cells #[.slice (some ⟨w.heap.size + 1, 0, none⟩) 0 0, .int .i64 0] 26)
      rw [World.size_alloc, World.size_alloc] at h2
      exact h2
    · rw [hW0]
      exact (hs.below (B := w.heap.size) (by go_grown) hlt).mono (by omega)
    · rw [hW0]
      exact (((Kept.refl _ _ _).alloc (Nat.le_refl _) _).alloc (Nat.le_refl _) _).alloc (Nat.le_refl _) _
  clear hs hx hA
  go_enter Try.func100, Try.ntmps100
  go_wp2_with fail
  rw [← hW0]
  clear hW0
  obtain ⟨_, _, _, _, ho, r0, r2, hs0, hk0⟩ := hG0
  refine (KEY.out K 40 39 _ (by omega) (by omega) (by omega) (hs0.mono (by omega)) hk0).mono ?_
  rintro e w1 ⟨t0, rfl, t00, t01, s1, hw1⟩
  have o1 := owns_wrote1 ho hw1 hlt
  have k1 := hk0.wrote hw1 (Nat.le_refl _)
  have x0 := (hw1.block w.heap.size (by omega) (by omega)).trans r0
  have x2 := (hw1.block (w.heap.size + 1 + 1) (by omega) (by omega)).trans r2
  have z1 := hw1.size
  have X0 := Lib.hid x0
  have X2 := Lib.hid x2
  have O1 := Lib.hid o1
  have S1 := Lib.hid s1
  have K1 := Lib.hid k1
  clear ho r0 r2 hs0 hk0 hw1 x0 x2 o1 s1 k1
  go_wp2_with fail
  refine (KEY.out (K + 2) 4 3 _ (by omega) (by omega) (by omega) S1.out K1.out).mono ?_
  rintro e w2 ⟨q0, rfl, q00, q01, s2, hw2⟩
  obtain ⟨k0, rfl⟩ : ∃ k0 : Nat, q0 = k0 := ⟨q0.toNat, by omega⟩
  have HG := Lib.hid (show Growing w w2 b A n c K (1 + k0) 0 t0 (.slice (some ⟨w.heap.size + 1, 0, none⟩) 0 0) (fun _ => 0) from
    ⟨by omega, by omega, t00, by omega, owns_wrote1 O1.out hw2 hlt, (hw2.block w.heap.size (by omega) (by omega)).trans X0.out, (hw2.block (w.heap.size + 1 + 1) (by omega) (by omega)).trans X2.out, s2.mono (by omega), K1.out.wrote hw2 (Nat.le_refl _)⟩)
  clear s2 hw2
  go_wp2_with fail
  go_loopw [5, 4] (fun s u wr => ∃ (k i : Nat) (t : Int) (v : Value) (Y : Nat → Int), s = .int .i64 k ∧ u = .int .i64 t ∧ Growing w wr b A n c K k i t v Y) (fun s _ _ => (intOf s).toNat)
  case atStart => exact ⟨1 + k0, 0, t0, _, _, by go_num, rfl, HG.out⟩
  case round =>
    obtain ⟨k, i, t, v, Y, rfl, rfl, hik, hik1, ht0, ht1, ho, r0, r2, hs, hk⟩ := hrel
    have zk := hk.size
    have zr2 : w.heap.size + 1 + 1 < wr.heap.size := (Array.getElem?_eq_some_iff.1 r2).1
    obtain ⟨P, d, rfl, hd1, hd2, hrow⟩ := own_of_owns ho
    have cv : wr.cell? ⟨w.heap.size + 1 + 1, 0, none⟩ = some (.slice P i d) := by simp [World.cell?, r2]
    have R0 := Lib.hid r0
    have R2 := Lib.hid r2
    have HO := Lib.hid ho
    have HSr := Lib.hid hs
    have HK := Lib.hid hk
    clear r0 r2 ho hs hk
    by_cases hk0 : 0 < k
    · clear hrow
      have hk' : (0 : Int) < (k : Int) := by omega
      have hl1 : i + 1 ≤ maxLen := by unfold maxLen; omega
      have hl2 : (i + 1) * 8 ≤ 140737488355328 := by omega
      have cvA : ∀ X, (wr.alloc X).cell? ⟨w.heap.size + 1 + 1, 0, none⟩ = some (.slice P i d) := fun X => ((Below.alloc (Below.refl wr.heap.size wr) (Nat.le_refl _) X).cell (p := ⟨w.heap.size + 1 + 1, 0, none⟩) zr2).trans cv
      go_wp2_with (at_builtin; refine wpList_append_own _ rfl _ _ 24 rfl w.heap.size 2 i0 _ 1 8 Try.underlying24 hi0 hz0 hz1 hz2 rfl (by decide) _ _ _ rfl (HO.out.alloc _) ⟨wr.heap.size, 0, none⟩ 1 1 [.int .i64 t] rfl rfl ?c1 ?c2 hl1 hl2 ?c5 ?_)
      case c1 => intro j y hj; rcases j with _ | j <;> simp at hj <;> subst hj <;> go_simp
      case c2 => intro y hy; simp at hy; subst hy; rfl
      case c5 => simp; omega
      intro v' w6 hown6 hgrow6 _
      have h6 : w6.ownsRow w.heap.size 2 1 v' (i + 1) (iC (snoc Y i t) (i + 1)) := by rw [iC_snoc]; exact hown6
      obtain ⟨P6, d6, rfl, _, _, _⟩ := own_of_owns h6
      have y0 : w6.heap[w.heap.size]? = some (.cells #[.slice none 0 0, .int .i64 0] 26 (0, 0)) := (hgrow6.block w.heap.size (by simp; omega) (fun e => owns_ne HO.out R0.out (by decide) e.symm)).trans ((Go.Deep.blk_alloc_lt _ _ _ (by omega)).trans R0.out)
      have y2 : w6.heap[w.heap.size + 1 + 1]? = some (.cells #[.slice P i d, .int .i64 0] 26 (0, 0)) := (hgrow6.block (w.heap.size + 1 + 1) (by simp; omega) (fun e => owns_ne HO.out R2.out (by decide) e.symm)).trans ((Go.Deep.blk_alloc_lt _ _ _ zr2).trans R2.out)
      have fz : w6.frozen? ⟨w.heap.size + 1 + 1, 0, none⟩ = false := by simp [World.frozen?, y2]
      have cy : w6.cell? ⟨w.heap.size + 1 + 1, 0, none⟩ = some (.slice P i d) := by simp [World.cell?, y2]
      have z6 := hgrow6.size
      simp only [World.size_alloc] at z6
      obtain ⟨W7, hW7⟩ : ∃ W, W = w6.setCell ⟨w.heap.size + 1 + 1, 0, none⟩ (.slice P6 (i + 1) d6) := ⟨_, rfl⟩
      have O7 := Lib.hid (show W7.ownsRow w.heap.size 2 1 (.slice P6 (i + 1) d6) (i + 1) (iC (snoc Y i t) (i + 1)) from by rw [hW7]; exact owns_set h6 (owns_ne h6 y2 (by decide)) _)
      have Y0 := Lib.hid (show W7.heap[w.heap.size]? = some (.cells #[.slice none 0 0, .int .i64 0] 26 (0, 0)) from by rw [hW7]; exact (Go.Deep.blk_setCell_other _ _ _ _ (by show w.heap.size ≠ w.heap.size + 1 + 1; omega)).trans y0)
      have Y2 := Lib.hid (show W7.heap[w.heap.size + 1 + 1]? = some (.cells #[.slice P6 (i + 1) d6, .int .i64 0] 26 (0, 0)) from by rw [hW7]; simp [World.setCell, Array.getElem?_modify, y2])
      have S7 := Lib.hid (show Src W7 b A n c (K + 4 + 2 * i) from by
        rw [hW7]
        exact (((HSr.out.below (B := wr.heap.size) (by go_grown) (by omega)).of_block (hgrow6.block b (by simp; omega) (fun e => by have := owns_ge HO.out b e.symm; omega)) hgrow6.size).set (a := ⟨w.heap.size + 1 + 1, 0, none⟩) hne2 _))
      have K7 := Lib.hid (show Kept w.heap.size b w W7 from by
        rw [hW7]
        exact Kept.set ((HK.out.alloc (Nat.le_refl _) _).grown (Nat.le_refl _) hgrow6 (owns_ge HO.out)) (a := ⟨w.heap.size + 1 + 1, 0, none⟩) (by show w.heap.size ≤ w.heap.size + 1 + 1; omega) _)
      have z7 : w.heap.size + 1 + 1 < W7.heap.size := (Array.getElem?_eq_some_iff.1 Y2.out).1
      clear hown6 hgrow6 h6 y0 y2 cv cvA
      go_wp2_with fail
      rw [← hW7]
      clear hW7
      refine (KEY.out (K + 4 + 2 * i) 60 59 _ (by omega) (by omega) (by omega) S7.out K7.out).mono ?_
      rintro e w8 ⟨q, rfl, q0, q1, s8, hw8⟩
      have HG8 := Lib.hid (show Growing w w8 b A n c K (k - 1) (i + 1) (t + q) (.slice P6 (i + 1) d6) (snoc Y i t) from
        ⟨by omega, by omega, by omega, by omega, owns_wrote1 O7.out hw8 hlt, (hw8.block w.heap.size (by omega) (by omega)).trans Y0.out, (hw8.block (w.heap.size + 1 + 1) z7 (by omega)).trans Y2.out, s8.mono (by omega), K7.out.wrote hw8 (Nat.le_refl _)⟩)
      clear s8 hw8
      go_wp2
      go_roundw
      case rel => exact ⟨k - 1, i + 1, t + q, _, _, by go_num, rfl, HG8.out⟩
      case measure => simp [intOf]; omega
    · obtain rfl : k = 0 := by omega
      obtain ⟨g, rfl, hB, hglt, hown⟩ := hrow (by omega)
      have hi4 : (i : Int) ≤ 4 := by omega
      clear hrow hown
      go_wp2_with fail
      refine (KEY.out (K + 4 + 2 * i) ((i : Int) + 1) 4 _ (by omega) (by omega) (by omega) HSr.out HK.out).mono ?_
      rintro e w9 ⟨a, rfl, a0, a1, s9, hw9⟩
      have r0 := (hw9.block w.heap.size (by omega) (by omega)).trans R0.out
      have r2 := (hw9.block (w.heap.size + 1 + 1) zr2 (by omega)).trans R2.out
      have o9 := owns_wrote1 HO.out hw9 hlt
      have z9 := hw9.size
      have c0 : w9.cell? ⟨w.heap.size, 0, none⟩ = some (.slice none 0 0) := by simp [World.cell?, r0]
      have c1 : w9.cell? ⟨w.heap.size, 1, none⟩ = some (.int .i64 0) := by simp [World.cell?, r0]
      have f0 : w9.frozen? ⟨w.heap.size, 0, none⟩ = false := by simp [World.frozen?, r0]
      have f1 : w9.frozen? ⟨w.heap.size, 1, none⟩ = false := by simp [World.frozen?, r0]
      have d0 : w9.cell? ⟨w.heap.size + 1 + 1, 0, none⟩ = some (.slice (some ⟨g, 0, none⟩) i d) := by simp [World.cell?, r2]
      have d1 : w9.cell? ⟨w.heap.size + 1 + 1, 1, none⟩ = some (.int .i64 0) := by simp [World.cell?, r2]
      have g1 : w9.frozen? ⟨w.heap.size + 1 + 1, 1, none⟩ = false := by simp [World.frozen?, r2]
      have n0 := owns_ne o9 r0 (by decide)
      have n2 := owns_ne o9 r2 (by decide)
      have hz2 : w.heap.size + 1 + 1 < w9.heap.size := by omega
      have hn02 : w.heap.size ≠ w.heap.size + 1 + 1 := by omega
      have S9 := Lib.hid s9
      have K9 := Lib.hid (HK.out.wrote hw9 (Nat.le_refl _))
      have O9 := Lib.hid o9
      have N0 := Lib.hid n0
      have N2 := Lib.hid n2
      clear s9 hw9 r0 r2 o9 n0 n2
      go_wp2
      refine bodyPost_ret (v := .agg #[.slice (some ⟨g, 0, none⟩) i d, .int .i64 a]) (by simp [results, Try.results100, go_sem, c0, c1]) rfl ?_
      have of := owns_set (owns_set (owns_set O9.out (a := ⟨w.heap.size + 1 + 1, 1, none⟩) N2.out (.int .i64 a)) (a := ⟨w.heap.size, 0, none⟩) N0.out (.slice (some ⟨g, 0, none⟩) i d)) (a := ⟨w.heap.size, 1, none⟩) N0.out (.int .i64 a)
      obtain ⟨P', d', e', _, _, hrow'⟩ := own_of_owns of
      cases e'
      obtain ⟨g', eg, _, _, hown'⟩ := hrow' (by omega)
      cases eg
      refine ⟨g, i, d, Y, a, rfl, by omega, by omega, hd1, hd2, hB, hown'.le (by omega), ((((S9.out.mono (by omega)).set (a := ⟨w.heap.size + 1 + 1, 1, none⟩) hne2 _).set (a := ⟨w.heap.size, 0, none⟩) hne0 _).set (a := ⟨w.heap.size, 1, none⟩) hne0 _), ?_⟩
      exact Kept.set (Kept.set (Kept.set K9.out (a := ⟨w.heap.size + 1 + 1, 1, none⟩) (by show w.heap.size ≤ w.heap.size + 1 + 1; omega) _) (a := ⟨w.heap.size, 0, none⟩) (Nat.le_refl _) _) (a := ⟨w.heap.size, 1, none⟩) (Nat.le_refl _) _
end Go.Proofs.Ytcpaenmhnoagdac.src
