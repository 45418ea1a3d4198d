/-
  Contract of the joins above others, of the program. No condition of a statement lies here.
-/
import Derived.Test.YtjemhkjfahoelaaJd
namespace Go.Proofs.Ytjemhkjfahoelaa.jns
open Go.ChangeShapes Go.WideShapes Go.ChangeAt Go.RowKit Go.Proofs.Ytjemhkjfahoelaa.mem Go.Proofs.Ytjemhkjfahoelaa.rod Go.Proofs.Ytjemhkjfahoelaa.nums
set_option linter.unusedVariables false
set_option maxRecDepth 100000

set_option maxHeartbeats 4000000 in
theorem above_i (st bs : Int) (A : Option Addr) (n c : Nat) (X : Nat → Int) (w : World) (s0 : 3 ≤ st) (s1 : st ≤ 60) (R : Rds n X) (hr : Sl w A n 1 X) :
    Calls Try.prog 42 #[.agg #[.int .i64 st, .slice A n c, .int .i64 bs]] w (fun e w' => ∃ A' c', e = .returned (.slice A' (abv X st bs n).length c') ∧ (abv X st bs n).length ≤ c' ∧ c' ≤ maxLen ∧ Row w' w.heap.size w'.heap.size A' (abv X st bs n).length 1 2 (fun j => (abv X st bs n).getD j 0) ∧ Below w.heap.size w w') := by
  have HR := Lib.hid hr
  clear hr
  have hn := R.le
  obtain ⟨i0, hi0, hz0, hz1, hz2⟩ := info_parts info_num
  go_enter Try.func42, Try.ntmps42
  go_wp2_with fail
  refine (places_i st A n c X _ R (HR.out.below (K := w.heap.size) (by go_grown) (Nat.le_refl _))).mono ?_
  rintro e w1 ⟨A1, c1, rfl, k1, k2, hrow, hb1⟩
  have z1 := hb1.size
  try simp at z1
  have q0 : w1.cell? ⟨w.heap.size, 0, none⟩ = some (.int .i64 st) := by rw [(bcell hb1).1 _ _ (by first | (simp; done) | (simp; omega))]; go_simp
  have q2 : w1.cell? ⟨w.heap.size, 2, none⟩ = some (.int .i64 bs) := by rw [(bcell hb1).1 _ _ (by first | (simp; done) | (simp; omega))]; go_simp
  have g1 : Below w.heap.size w w1 := Below.trans (by go_grown) (hb1.mono (by first | (simp; done) | (simp; omega)))
  have HRW := Lib.hid (hrow.wide (lo' := w.heap.size + 1) (by first | (simp; done) | (simp; omega)) (Nat.le_refl _))
  have HQ := Lib.hid (show w1.cell? ⟨w.heap.size, 0, none⟩ = some (.int .i64 st) ∧ w1.cell? ⟨w.heap.size, 2, none⟩ = some (.int .i64 bs) from ⟨q0, q2⟩)
  have HG1 := Lib.hid g1
  clear hrow hb1 q0 q2 g1
  go_wp2_with fail
  go_loopw [3, 17] (fun v s wr => ∃ k : Nat, k ≤ n - 1 ∧ s = .int .i64 k ∧ Hid (wr.ownsRow w1.heap.size 2 1 v (idxs (abvB X st bs) k).length ((idxs (abvB X st bs) k).map (Value.int .i64))) ∧ Below w1.heap.size w1 wr) (fun _ s _ => n - (intOf s).toNat)
  case atStart => exact ⟨0, by omega, rfl, owns_nil _ _ _, Below.refl _ _⟩
  case round =>
    obtain ⟨k, hk, rfl, hown, hbl⟩ := hrel
    have HB := Lib.hid hbl
    have hzz := hbl.size
    clear hbl
    by_cases hlt : k < n - 1
    · have hlt' : (k : Int) < ((n - 1 : Nat) : Int) := by omega
      have hk0 : (0 : Int) ≤ (k : Int) := by omega
      obtain ⟨g, rfl, g1, g2, ho⟩ := HRW.out (by omega)
      rw [Nat.mul_one] at ho
      have HI := Lib.hid (fun j (hj : j < n - 1) => ho.cell hj)
      have h0 := (HB.out.cell (p := ⟨g, k, none⟩) g2).trans (HI.out k hlt)
      have pp := ps_top R (k := k + 1) (by omega)
      have HPS := Lib.hid (fun j (hj : j < n - 1) => ps_top R (k := j + 1) (by omega))
      have hkc : (k : Int) ≤ (c1 : Int) := by omega
      clear ho
      obtain ⟨pp0, pp1⟩ := pp
      have HAB := Lib.hid (show anyB (nearB (fun j => ps X (j + 1)) (ps X (k + 1)) st bs) k = abvB X st bs k from rfl)
      generalize hP : ps X (k + 1) = q at *
      have HP := Lib.hid hP
      clear hP
      go_wp2_with fail
      refine (containsF_i g k c1 (fun j => ps X (j + 1)) q st bs wr.heap.size w.heap.size _ (by omega) (fun j hj => HPS.out j (by omega)) pp0 pp1 s0 s1 ?ca ?cb ?cc ?cd).mono ?_
      case ca => exact fun j hj => ((HB.out.alloc hzz _).cell (p := ⟨g, j, none⟩) g2).trans (HI.out j (by omega))
      case cb => go_simp
      case cc => exact ((HB.out.alloc hzz _).cell (p := ⟨w.heap.size, 0, none⟩) (show w.heap.size < w1.heap.size by omega)).trans HQ.out.1
      case cd => exact ((HB.out.alloc hzz _).cell (p := ⟨w.heap.size, 2, none⟩) (show w.heap.size < w1.heap.size by omega)).trans HQ.out.2
      rintro e w2 ⟨rfl, hd2⟩
      rw [HAB.out]
      have hown2 : w2.ownsRow w1.heap.size 2 1 u3 (idxs (abvB X st bs) k).length ((idxs (abvB X st bs) k).map (Value.int .i64)) := by obtain ⟨m, rfl⟩ := hd2; exact hown.out.alloc _
      have hb2 : Below w1.heap.size w1 w2 := by obtain ⟨m, rfl⟩ := hd2; exact drewN_below (HB.out.alloc hzz _) m
      have HO2 := Lib.hid hown2
      have HB2 := Lib.hid hb2
      have zz2 := hb2.size
      clear hd2 hown2 hb2
      cases hv : abvB X st bs k
      · have HN := Lib.hid (idxs_no hv)
        clear hv
        go_wp2
        go_roundw
        case rel => exact ⟨k + 1, by omega, by go_num, by rw [HN.out]; exact HO2.out, HB2.out⟩
        case measure => simp [intOf]; omega
      · have HN := Lib.hid (idxs_yes hv)
        have hlen := idxs_len (abvB X st bs) k
        have hl1 : (idxs (abvB X st bs) k).length + 1 ≤ maxLen := by unfold maxLen; omega
        have hl2 : ((idxs (abvB X st bs) k).length + 1) * 8 ≤ 140737488355328 := by omega
        clear hv
        generalize hL : idxs (abvB X st bs) k = l at *
        have HL := Lib.hid hL
        clear hL
        go_wp2_with (at_builtin; refine wpList_append_own _ rfl _ _ 22 rfl w1.heap.size 2 i0 (.int .i64 0) 1 8 Try.underlying22 hi0 hz0 hz1 hz2 rfl (by decide) _ _ _ rfl (HO2.out.alloc _) ⟨w2.heap.size, 0, none⟩ 1 1 [.int .i64 (k : Nat)] rfl rfl ?c1 ?c2 hl1 hl2 ?c5 ?_)
        case c1 => intro j u hj; rcases j with _ | j <;> simp at hj; subst hj; go_simp
        case c2 => intro u hu; simp at hu; subst hu; rfl
        case c5 => simp <;> omega
        intro v' w3 hown3 hgrow3 _
        have g3 : Below w1.heap.size w1 w3 := Below.grown (HB2.out.alloc zz2 _) hgrow3 (by simp; omega) (owns_block HO2.out)
        have HO := Lib.hid (owns_snoc hown3)
        clear hown3 hgrow3
        go_wp2
        go_roundw
        case rel => exact ⟨k + 1, by omega, by go_num, by rw [HN.out]; exact HO.out, g3⟩
        case measure => simp [intOf]; omega
    · obtain rfl : n - 1 = k := by omega
      obtain ⟨A', c', rfl, hc1, hc2, hrow⟩ := row_of_owns hown.out
      have HW := Lib.hid (hrow.wide (lo' := w.heap.size) (by omega) (Nat.le_refl _))
      have g9 := Lib.hid (HG1.out.trans (HB.out.mono HG1.out.size))
      clear hrow
      go_wp2
      go_ret
      exact ⟨_, _, rfl, hc1, hc2, HW.out, g9.out⟩

end Go.Proofs.Ytjemhkjfahoelaa.jns
