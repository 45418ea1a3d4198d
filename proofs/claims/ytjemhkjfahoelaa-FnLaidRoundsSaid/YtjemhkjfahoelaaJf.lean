/-
  Contract of the joins above others, of the model. No condition of a statement lies here.
-/
import Derived.BigQuiet
import Derived.Deep.QuietTactic
import Derived.Test.YtjemhkjfahoelaaJb
namespace Go.Proofs.Ytjemhkjfahoelaa.jns
open Go.ChangeShapes Go.WideShapes Go.ChangeAt Go.RowKit Go.Proofs.Ytjemhkjfahoelaa.mem Go.Proofs.Ytjemhkjfahoelaa.rod Go.Proofs.Ytjemhkjfahoelaa.nums
set_option linter.unusedVariables false
set_option maxRecDepth 100000

set_option maxHeartbeats 4000000 in
theorem above_s (st bs : Int) (A : Option Addr) (n c : Nat) (X : Nat → Int) (w : World) (s0 : 3 ≤ st) (s1 : st ≤ 60) (R : Rds n X) (hr : Sl w A n 1 X) :
    Calls Try.prog 40 #[.int .i64 st, .slice A n c, .int .i64 bs] w (fun e w' => ∃ A' c', e = .returned (.slice A' (abv X st bs n).length c') ∧ (abv X st bs n).length ≤ c' ∧ c' ≤ maxLen ∧ Row w' w.heap.size w'.heap.size A' (abv X st bs n).length 1 2 (fun j => (abv X st bs n).getD j 0) ∧ Below w.heap.size w w') := by
  have HR := Lib.hid hr
  clear hr
  have hn := R.le
  obtain ⟨i0, hi0, hz0, hz1, hz2⟩ := info_parts info_num
  go_enter Try.func40, Try.ntmps40
  go_wp2_with fail
  refine (joins_s A n c X _ R HR.out).mono ?_
  rintro e w1 ⟨A1, c1, rfl, k1, k2, hrow, hb1⟩
  have z1 := hb1.size
  have HRW := Lib.hid hrow
  have HG1 := Lib.hid hb1
  clear hrow hb1
  go_wp2_with fail
  go_loopw [8, 9] (fun v s wr => ∃ k : Nat, k ≤ n - 1 ∧ s = .int .i64 k ∧ Hid (wr.ownsRow w1.heap.size 2 1 v (idxs (abvB X st bs) k).length ((idxs (abvB X st bs) k).map (Value.int .i64))) ∧ Below w1.heap.size w1 wr) (fun _ s _ => n - (intOf s).toNat)
  case atStart => exact ⟨0, by omega, rfl, owns_empty w1 w1.heap.size 2 (Nat.le_refl _), by go_grown⟩
  case round =>
    obtain ⟨k, hk, rfl, hown, hbl⟩ := hrel
    have HB := Lib.hid hbl
    have hzz := hbl.size
    clear hbl
    by_cases hlt : k < n - 1
    · have hlt' : (k : Int) < ((n - 1 : Nat) : Int) := by omega
      have hk0 : (0 : Int) ≤ (k : Int) := by omega
      obtain ⟨g, rfl, g1, g2, ho⟩ := HRW.out (by omega)
      rw [Nat.mul_one] at ho
      have HI := Lib.hid (fun j (hj : j < n - 1) => (HB.out.cell (p := ⟨g, j, none⟩) g2).trans (ho.cell hj))
      have pp := ps_top R (k := k + 1) (by omega)
      have HPS := Lib.hid (fun j (hj : j < n - 1) => ps_top R (k := j + 1) (by omega))
      clear ho
      obtain ⟨pp0, pp1⟩ := pp
      rename World => wo
      go_wp2_with fail
      go_loopw [10, 11] (fun t s wr => ∃ q : Nat, q ≤ k ∧ s = .int .i64 q ∧ t = .bool (anyB (belB X st bs k) q) ∧ Drew wo wr) (fun _ s _ => k - (intOf s).toNat)
      case atStart => exact ⟨0, by omega, rfl, rfl, Drew.refl _⟩
      case round =>
        obtain ⟨q, hq, rfl, rfl, hd⟩ := hrel
        have HD := Lib.hid hd
        by_cases hqk : q < k
        · have hqk' : (q : Int) < (k : Int) := by omega
          have hq0 : (0 : Int) ≤ (q : Int) := by omega
          have hqn : (q : Int) < ((n - 1 : Nat) : Int) := by omega
          have h0 := hd.cell (HI.out k hlt)
          have h1 := hd.cell (HI.out q (by omega))
          obtain ⟨b0, b1⟩ := HPS.out q (by omega)
          have HS := Lib.hid (show anyB (belB X st bs k) (q + 1) = (anyB (belB X st bs k) q || decide (siz (ps X (k + 1) - ps X (q + 1) - st) ≤ bs)) from rfl)
          generalize ps X (k + 1) = a at *
          generalize ps X (q + 1) = b at *
          clear hd
          generalize hA : anyB (belB X st bs k) q = av at *
          have HAV := Lib.hid hA
          clear hA
          cases av
          · go_wp2_with fail
            go_quiet ((go_at_call 50; exact Calls.quiet_of_same ((size_s _ (by omega) (by omega) _).mono fun _ _ ⟨p, q⟩ => ⟨p, q.symm⟩)))
            go_wp2
            go_roundw
            case rel => exact ⟨q + 1, by omega, by go_num, by rw [HS.out]; rfl, HD.out.drewN _⟩
            case measure => simp [intOf]; omega
          · go_wp2_with fail
            go_quiet ((go_at_call 50; exact Calls.quiet_of_same ((size_s _ (by omega) (by omega) _).mono fun _ _ ⟨p, q⟩ => ⟨p, q.symm⟩)))
            go_wp2
            go_roundw
            case rel => exact ⟨q + 1, by omega, by go_num, by rw [HS.out]; rfl, HD.out.drewN _⟩
            case measure => simp [intOf]; omega
        · obtain rfl : q = k := by omega
          have HAB := Lib.hid (show anyB (belB X st bs q) q = abvB X st bs q from rfl)
          rw [HAB.out]
          have hown2 : wr.ownsRow w1.heap.size 2 1 u8 (idxs (abvB X st bs) q).length ((idxs (abvB X st bs) q).map (Value.int .i64)) := by obtain ⟨m, rfl⟩ := hd; exact hown.out
          have hb2 : Below w1.heap.size w1 wr := by obtain ⟨m, rfl⟩ := hd; exact drewN_below HB.out m
          have HO2 := Lib.hid hown2
          have HB2 := Lib.hid hb2
          have zz2 := hb2.size
          clear hd hown2 hb2
          cases hv : abvB X st bs q
          · have HN := Lib.hid (idxs_no hv)
            clear hv
            go_wp2
            go_roundw
            case rel => exact ⟨q + 1, by omega, by go_num, by rw [HN.out]; exact HO2.out, HB2.out⟩
            case measure => simp [intOf]; omega
          · have HN := Lib.hid (idxs_yes hv)
            have hlen := idxs_len (abvB X st bs) q
            have hl1 : (idxs (abvB X st bs) q).length + 1 ≤ maxLen := by unfold maxLen; omega
            have hl2 : ((idxs (abvB X st bs) q).length + 1) * 8 ≤ 140737488355328 := by omega
            clear hv
            generalize hL : idxs (abvB X st bs) q = l at *
            have HL := Lib.hid hL
            clear hL
            go_wp2_with (at_builtin; refine wpList_append_own _ rfl _ _ 22 rfl w1.heap.size 2 i0 (.int .i64 0) 1 8 Try.underlying22 hi0 hz0 hz1 hz2 rfl (by decide) _ _ _ rfl (HO2.out.alloc _) ⟨wr.heap.size, 0, none⟩ 1 1 [.int .i64 (q : Nat)] rfl rfl ?c1 ?c2 hl1 hl2 ?c5 ?_)
            case c1 => intro j u hj; rcases j with _ | j <;> simp at hj; subst hj; go_simp
            case c2 => intro u hu; simp at hu; subst hu; rfl
            case c5 => simp <;> omega
            intro v' w3 hown3 hgrow3 _
            have g3 : Below w1.heap.size w1 w3 := Below.grown (HB2.out.alloc zz2 _) hgrow3 (by simp; omega) (owns_block HO2.out)
            have HO := Lib.hid (owns_snoc hown3)
            clear hown3 hgrow3
            go_wp2
            go_roundw
            case rel => exact ⟨q + 1, by omega, by go_num, by rw [HN.out]; exact HO.out, g3⟩
            case measure => simp [intOf]; omega
    · obtain rfl : n - 1 = k := by omega
      obtain ⟨A', c', rfl, hc1, hc2, hrow⟩ := row_of_owns hown.out
      have HW := Lib.hid (hrow.wide (lo' := w.heap.size) (by omega) (Nat.le_refl _))
      have g9 := Lib.hid (HG1.out.trans (HB.out.mono HG1.out.size))
      clear hrow
      go_wp2
      go_ret
      exact ⟨_, _, rfl, hc1, hc2, HW.out, g9.out⟩

end Go.Proofs.Ytjemhkjfahoelaa.jns
