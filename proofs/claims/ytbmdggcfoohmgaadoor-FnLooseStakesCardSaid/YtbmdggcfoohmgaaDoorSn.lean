/-
  The program's numbers of stakes with which a weave is sound, as a function to range over.
-/
import Derived.Test.YtbmdggcfoohmgaaDoorWz
import Derived.Test.YtbmdggcfoohmgaaDoorRk
import Derived.Shelf.Abstract
namespace Go.Proofs.YtbmdggcfoohmgaaDoor.sn
open Go.ChangeShapes Go.WideShapes Go.ChangeAt Go.RowKit
open Go.Proofs.YtbmdggcfoohmgaaDoor.mem Go.Proofs.YtbmdggcfoohmgaaDoor.rod Go.Proofs.YtbmdggcfoohmgaaDoor.wv Go.Proofs.YtbmdggcfoohmgaaDoor.wk Go.Proofs.YtbmdggcfoohmgaaDoor.rf Go.Proofs.YtbmdggcfoohmgaaDoor.rk
set_option linter.unusedVariables false
theorem wide_fn (f : Nat) : Fence.wide.fn f = True := rfl
theorem wide_depth : Fence.wide.depth = none := rfl
theorem wideR_fn (l f : Nat) : (Fence.wide.inRound l).fn f = True := rfl
theorem wideR_depth (l : Nat) : (Fence.wide.inRound l).depth = none := rfl
attribute [local go_sem] Oper.semAt_some wide_fn wide_depth wideR_fn wideR_depth

def sndV (x : Nat) : Array Value := #[.int .i64 (x : Int)]
/-- from one number to the next one with which the weave is sound -/
def Snd (f : Nat → Int) (n fl hi : Nat) (s x s' : Nat) : Prop := s ≤ x ∧ x ≤ hi ∧ soundB f n x fl = true ∧ (∀ y, s ≤ y → y < x → soundB f n y fl = false) ∧ s' = x + 1
/-- there is none from there on -/
def Non (f : Nat → Int) (n fl hi : Nat) (s : Nat) : Prop := ∀ y, s ≤ y → y ≤ hi → soundB f n y fl = false
/-- what the closure has captured -/
def Cap (bl bh bs bf : Nat) (s : ByteArray) (fl lo hi : Nat) (W : World) : Prop :=
  W.cell? ⟨bl, 0, none⟩ = some (.int .i64 (lo : Int)) ∧ W.cell? ⟨bh, 0, none⟩ = some (.int .i64 (hi : Int)) ∧ W.cell? ⟨bs, 0, none⟩ = some (.string s) ∧ W.cell? ⟨bf, 0, none⟩ = some (.int .i64 (fl : Int))
theorem Cap.below {bl bh bs bf fl lo hi K : Nat} {s : ByteArray} {w W : World} (h : Cap bl bh bs bf s fl lo hi w) (hb : Below K w W) (h1 : bl < K) (h2 : bh < K) (h3 : bs < K) (h4 : bf < K) : Cap bl bh bs bf s fl lo hi W :=
  ⟨(hb.cell (p := ⟨bl, 0, none⟩) h1).trans h.1, (hb.cell (p := ⟨bh, 0, none⟩) h2).trans h.2.1, (hb.cell (p := ⟨bs, 0, none⟩) h3).trans h.2.2.1, (hb.cell (p := ⟨bf, 0, none⟩) h4).trans h.2.2.2⟩

theorem sound_c (s : ByteArray) (fl lo hi : Int) (w : World) :
    Calls Tryd.prog 73 #[.string s, .int .i64 fl, .int .i64 lo, .int .i64 hi] w fun e w' =>
      e = .returned (.func (.func 135) #[] #[.pointer (some ⟨w.heap.size + 1 + 1, 0, none⟩), .pointer (some ⟨w.heap.size + 1 + 1 + 1, 0, none⟩), .pointer (some ⟨w.heap.size, 0, none⟩), .pointer (some ⟨w.heap.size + 1, 0, none⟩)]) ∧
      w' = (((w.alloc (.cells #[.string s] 9)).alloc (.cells #[.int .i64 fl] 2)).alloc (.cells #[.int .i64 lo] 2)).alloc (.cells #[.int .i64 hi] 2) := by
  go_enter Tryd.func73, Tryd.ntmps73
  go_wp2
  go_ret
  exact ⟨rfl, rfl⟩

set_option maxHeartbeats 8000000 in
set_option maxRecDepth 100000 in
theorem sound_it (s : ByteArray) (fl lo hi bl bh bs bf N : Nat) (w : World) (hst : strokeB s = true) (hl : 3 ≤ lo) (hl2 : lo ≤ 60) (hh : hi ≤ 60) (hf : fl ≤ 12) (hcap : Cap bl bh bs bf s fl lo hi w) (k1 : bl < w.heap.size) (k2 : bh < w.heap.size) (k3 : bs < w.heap.size) (k4 : bf < w.heap.size) :
    IterK Fence.wide N Tryd.prog 135 #[.pointer (some ⟨bl, 0, none⟩), .pointer (some ⟨bh, 0, none⟩), .pointer (some ⟨bs, 0, none⟩), .pointer (some ⟨bf, 0, none⟩)] sndV (Snd (byteAt s) s.size fl hi) (Non (byteAt s) s.size fl hi) lo (Cap bl bh bs bf s fl lo hi) w := by
  intro l J Jx W hW hKp hJ hJx hY h0
  have c1 := (hcap.below hW k1 k2 k3 k4).1
  have HKP := Lib.hid hKp
  have HJ := Lib.hid hJ
  have HJx := Lib.hid hJx
  have HY := Lib.hid hY
  have H0 := Lib.hid h0
  have HS := Lib.hid hst
  have zW := hW.size
  clear hcap hKp hJ hJx hY h0 hst
  refine callsIn_of_wp Tryd.func135 rfl trivial ?_ rfl
  simp only [Tryd.ntmps135, List.size_toArray, List.length_cons, List.length_nil, Nat.reduceAdd, Nat.reduceSub, Array.replicate_succ, Array.replicate_zero, List.push_toArray, List.append_toArray, List.nil_append, List.cons_append]
  gi_wp2_with fail
  gi_loopw [6] (fun v wr => ∃ k st : Nat, v = .int .i64 (k : Int) ∧ st ≤ k ∧ lo ≤ k ∧ k ≤ 61 ∧ Hid (∀ y, st ≤ y → y < k → soundB (byteAt s) s.size y fl = false) ∧ Hid (J st wr) ∧ W.heap.size ≤ wr.heap.size) (fun v _ => 61 - (intOf v).toNat)
  case atStart => exact ⟨lo, lo, rfl, Nat.le_refl _, Nat.le_refl _, by omega, Lib.hid (fun y a b => absurd a (by omega)), H0, Nat.le_refl _⟩
  case round =>
    obtain ⟨k, st, rfl, hs1, hs2, hs3, hno, hj, hsz⟩ := hrel
    have hcp := HKP.out st wr hj.out
    have q2 := hcp.2.1
    have q3 := hcp.2.2.1
    have q4 := hcp.2.2.2
    clear hcp
    have l2 : bh < wr.heap.size := by omega
    have l3 : bs < wr.heap.size := by omega
    have l4 : bf < wr.heap.size := by omega
    by_cases hlt : k ≤ hi
    · have hlt' : (k : Int) ≤ (hi : Int) := by omega
      have HI := Lib.hid (fun W => isSoundW_i s k fl W HS.out (by omega) (by omega) hf)
      cases hsd : soundB (byteAt s) s.size k fl
      · rw [hsd] at HI
        have HN := Lib.hid (show ∀ y, st ≤ y → y < k + 1 → soundB (byteAt s) s.size y fl = false from fun y a b => by
          by_cases e : y = k
          · rw [e]; exact hsd
          · exact hno.out y a (by omega))
        clear hsd
        gi_wp2_with (gi_at_call 121; refine ((callsIn_wide (n := _)).2 (HI.out _)).mono ?_; rintro e w2 ⟨rfl, hb⟩; have z2 := hb.size; simp at z2; have g2 : Below W.heap.size wr w2 := Below.trans ((Below.refl _ _).alloc hsz _) (hb.mono (by simp; omega)); have J2 := Lib.hid (HJ.out st wr w2 g2 hj.out); clear hb)
        go_roundw
        case rel => exact ⟨k + 1, st, by go_num, by omega, by omega, by omega, HN, J2, by omega⟩
        case measure => simp [intOf]; omega
      · rw [hsd] at HI
        have HSD := Lib.hid hsd
        clear hsd
        gi_wp2_with (gi_at_call 121; refine ((callsIn_wide (n := _)).2 (HI.out _)).mono ?_; rintro e w2 ⟨rfl, hb⟩; have z2 := hb.size; simp at z2; have g2 : Below W.heap.size wr w2 := Below.trans ((Below.refl _ _).alloc hsz _) (hb.mono (by simp; omega)); have J2 := Lib.hid (HJ.out st wr w2 g2 hj.out); clear hb; obtain ⟨fn, tmps, assign, body, hy, hR⟩ := HY.out st k (k + 1) w2 J2.out ⟨hs1, hlt, HSD.out, hno.out, rfl⟩ (by omega); dsimp only [sndV] at hy)
        refine hR.mono ?_
        rintro e w5 ⟨hor, hfr⟩
        have s5 := hfr.size
        clear hfr
        rcases hor with ⟨rfl, hJ5⟩ | ⟨rfl, hJx5⟩
        · have J5 := Lib.hid hJ5
          clear hJ5
          gi_wp2
          go_roundw
          case rel => exact ⟨k + 1, k + 1, by go_num, by omega, by omega, by omega, Lib.hid (fun y a b => absurd a (by omega)), J5, by omega⟩
          case measure => simp [intOf]; omega
        · gi_wp2
          refine bodyPost_ret (results_none rfl _ _ _) rfl ?_
          exact ⟨⟨_, rfl⟩, .inr hJx5⟩
    · have hlt' : ¬ (k : Int) ≤ (hi : Int) := by omega
      gi_wp2
      go_end0
      exact ⟨⟨_, rfl⟩, .inl ⟨st, fun y a b => hno.out y a (by omega), hj.out⟩⟩

end Go.Proofs.YtbmdggcfoohmgaaDoor.sn
