/-
  FirstWord and SameBorder, of the model and of the program. No condition of a statement lies here.
-/
import Derived.Test.YtgfnagkelhbplaaVb
import Derived.Test.YtgfnagkelhbplaaVf
import Derived.Test.YtgfnagkelhbplaaNums
import Derived.Test.YtgfnagkelhbplaaOwnV
import Derived.BigQuiet
import Derived.Deep.QuietTactic
namespace Go.Proofs.Ytgfnagkelhbplaa.brd
open Go.ChangeShapes Go.WideShapes Go.ChangeAt Go.RowKit Go.Proofs.Ytgfnagkelhbplaa.mem Go.Proofs.Ytgfnagkelhbplaa.rod Go.Proofs.Ytgfnagkelhbplaa.nums
set_option linter.unusedVariables false
set_option linter.unusedSimpArgs false
set_option maxRecDepth 100000

set_option maxHeartbeats 2000000 in
theorem firstW_s (l : List Bool) (w : World) (h1 : 1 ≤ l.length) (h8 : l.length ≤ 8) :
    Calls Try.prog 66 #[.string (toB l)] w fun e w' => e = .returned (.string (toB (first l))) ∧ Drew w w' := by
  have HF := Lib.hid (show first l = firstF l (l.length - 1) from rfl)
  have hsz := toB_size l
  obtain ⟨s, hs⟩ : ∃ s, s = toB l := ⟨_, rfl⟩
  have HR := Lib.hid (fun k (hk : k ≤ l.length) => toB_rot l hk)
  have HS0 := Lib.hid (show toB (firstF l 0) = s by rw [hs]; rfl)
  rw [← hs] at hsz HR ⊢
  have HSZ := Lib.hid hsz
  clear hs
  have hz1 : 1 ≤ s.size := by omega
  have hz8 : s.size ≤ 8 := by omega
  go_enter Try.func66, Try.ntmps66
  go_wp2_with fail
  go_loopw [4, 3] (fun t b wr => ∃ k : Nat, 1 ≤ k ∧ k ≤ s.size ∧ t = .int .i64 (k : Int) ∧ b = .string (toB (firstF l (k - 1))) ∧ Drew w wr) (fun t _ _ => s.size - (intOf t).toNat)
  case atStart => exact ⟨1, by omega, hz1, rfl, by rw [HS0.out], Drew.refl _⟩
  case round =>
    obtain ⟨k, hk1, hk, rfl, rfl, hd⟩ := hrel
    by_cases hlt : k < s.size
    · have hlt' : (k : Int) < (s.size : Int) := by omega
      have hk0 : (0 : Int) ≤ (k : Int) := by omega
      have hk2 : (k : Int) ≤ (s.size : Int) := by omega
      have hx := HR.out k (by omega)
      rw [← hsz] at hx
      have hl := toB_less (rot l k) (firstF l (k - 1))
      have HN := Lib.hid (show firstF l k = if ltL (rot l k) (firstF l (k - 1)) then rot l k else firstF l (k - 1) by
        obtain ⟨j, rfl⟩ : ∃ j, k = j + 1 := ⟨k - 1, by omega⟩
        rfl)
      have HX := Lib.hid hx
      cases hq : ltL (rot l k) (firstF l (k - 1))
      · rw [hq] at hl
        rw [← hx] at hl
        have HN2 := Lib.hid (show toB (firstF l (k - 1)) = toB (firstF l (k + 1 - 1)) by rw [Nat.add_sub_cancel, HN.out, hq]; rfl)
        clear hx hq hsz
        generalize toB (firstF l (k - 1)) = B at *
        go_wp2_with fail
        go_quiet (fail)
        go_wp2
        go_roundw
        case rel => exact ⟨k + 1, by omega, by omega, by go_num, by rw [← HN2.out], hd.drewN _⟩
        case measure => simp [intOf]; omega
      · rw [hq] at hl
        rw [← hx] at hl
        have HN2 := Lib.hid (show s.extract k s.size ++ s.extract 0 k = toB (firstF l (k + 1 - 1)) by rw [hx, Nat.add_sub_cancel, HN.out, hq]; rfl)
        clear hx hq hsz
        generalize toB (firstF l (k - 1)) = B at *
        go_wp2_with fail
        go_quiet (fail)
        go_wp2
        go_roundw
        case rel => exact ⟨k + 1, by omega, by omega, by go_num, by rw [← HN2.out], hd.drewN _⟩
        case measure => simp [intOf]; omega
    · obtain rfl : k = s.size := by omega
      have HE := Lib.hid (show toB (firstF l (s.size - 1)) = toB (first l) by rw [HF.out, HSZ.out])
      clear hsz
      generalize toB (firstF l (s.size - 1)) = B at *
      go_wp2
      go_ret
      exact ⟨by rw [← HE.out]; rfl, hd⟩

theorem info_int : (Try.prog.info? 3).map (fun i => (i.zero, i.size, i.bytes)) = some (some (.int .i64 0), 1, 8) := by kernel_rfl
/-- the numbers of letters with which beginnings end as well, one more each -/
def OkE (N : Nat) (E : List Nat) : Prop := E.length = N + 1 ∧ ∀ j, j ≤ N → E.getD j 0 ≤ j
theorem getD_set {E : List Nat} {i j v : Nat} (hi : i < E.length) : (E.set i v).getD j 0 = if j = i then v else E.getD j 0 := by
  rw [List.getD_eq_getElem?_getD, List.getElem?_set]
  by_cases e : j = i
  · subst e; simp [hi]
  · rw [if_neg (fun h => e h.symm), if_neg e, List.getD_eq_getElem?_getD]
theorem OkE.start (N : Nat) : OkE N (0 :: List.replicate N 1) := by
  refine ⟨by simp, fun j hj => ?_⟩
  rcases j with _ | j
  · exact Nat.le_refl _
  · rw [List.getD_cons_succ, List.getD_eq_getElem?_getD, List.getElem?_replicate]
    split <;> simp
theorem OkE.set {N : Nat} {E : List Nat} (h : OkE N E) {i v : Nat} (hi : i ≤ N) (hv : v ≤ i) : OkE N (E.set i v) := by
  refine ⟨by rw [List.length_set]; exact h.1, fun j hj => ?_⟩
  rw [getD_set (by rw [h.1]; omega)]
  split
  · rename_i e; rw [e]; exact hv
  · exact h.2 j hj
theorem down_zero (T : List Bool) (E : List Nat) (i f b : Nat) : down T E i (f + 1) b 0 = (b, 0) := rfl
theorem down_same {T : List Bool} {E : List Nat} {i f b s : Nat} (h : T.getD i false = T.getD (b + s) false) : down T E i (f + 1) b (s + 1) = (b, s + 1) := by
  rw [down]; rw [h]; cases T.getD (b + s) false <;> rfl
theorem down_less {T : List Bool} {E : List Nat} {i f b s : Nat} (h1 : T.getD i false = false) (h2 : T.getD (b + s) false = true) : down T E i (f + 1) b (s + 1) = down T E i f (i - s) (E.getD s 0) := by
  rw [down]; rw [h1, h2]
theorem down_more {T : List Bool} {E : List Nat} {i f b s : Nat} (h1 : T.getD i false = true) (h2 : T.getD (b + s) false = false) : down T E i (f + 1) b (s + 1) = down T E i f b (E.getD s 0) := by
  rw [down]; rw [h1, h2]
theorem steps_zero (T : List Bool) (i b : Nat) (E : List Nat) : steps T i 0 b E = b := rfl
theorem steps_succ (T : List Bool) (i f b : Nat) (E : List Nat) : steps T i (f + 1) b E = steps T (i + 1) f (down T E i (i + 1) b (E.getD (i - b) 0)).1 (E.set (i - (down T E i (i + 1) b (E.getD (i - b) 0)).1 + 1) ((down T E i (i + 1) b (E.getD (i - b) 0)).2 + 1)) := rfl
theorem own_set_ends {w : World} {g N : Nat} {E : List Nat} (h : Own w g 3 (N + 1) (fun j => ((E.getD j 0 : Nat) : Int) - 1)) {i v : Nat} (hi : i < E.length) (x : Int) (hx : x = ((v : Nat) : Int) - 1) :
    Own (w.setCell ⟨g, i, none⟩ (.int .i64 x)) g 3 (N + 1) (fun j => (((E.set i v).getD j 0 : Nat) : Int) - 1) := by
  refine (h.set i x).congr fun j hj => ?_
  rw [getD_set hi]
  by_cases e : j = i
  · rw [if_pos e, if_pos e, hx]
  · rw [if_neg e, if_neg e]

set_option maxHeartbeats 8000000 in
theorem leastTurn_i (l : List Bool) (w : World) (h1 : 1 ≤ l.length) (h8 : l.length ≤ 8) :
    Calls Try.prog 68 #[.string (toB l)] w fun e w' => e = .returned (.int .i64 (booth l : Nat)) ∧ Below w.heap.size w w' := by
  have hmk := fun W => run_make_rows (P := Try.prog) 95 3 _ 1 8 Try.underlying95 info_int .i64 .i64 (2 * l.length + 1) (by omega) (by omega) W
  have hsz := toB_size l
  obtain ⟨T, hT⟩ : ∃ T, T = toB l ++ toB l := ⟨_, rfl⟩
  have hTl : T = toB (l ++ l) := by rw [hT]; exact toB_twice l
  have hTz : T.size = 2 * l.length := by rw [hTl, toB_size]; simp; omega
  have HAT := Lib.hid (fun i (h : i < T.size) => show ((T[i]'h).toNat : Int) = if (l ++ l).getD i false then 102 else 98 by subst hTl; exact toB_at h)
  have hBO : booth l = steps (l ++ l) 1 (2 * l.length - 1) 0 (0 :: List.replicate (2 * l.length) 1) := rfl
  have HBO := Lib.hid hBO
  obtain ⟨s, hs⟩ : ∃ s, s = toB l := ⟨_, rfl⟩
  rw [← hs] at hsz hT ⊢
  generalize booth l = Q at *
  generalize l ++ l = tw at *
  clear hs hTl hBO
  obtain ⟨N, hN⟩ : ∃ N, N = 2 * l.length := ⟨_, rfl⟩
  rw [← hN] at hTz HBO hmk
  have hN2 : 2 ≤ N := by omega
  have hN16 : N ≤ 16 := by omega
  have hsN : s.size + s.size = N := by omega
  have eN : (s.size : Int) + (s.size : Int) = (N : Int) := by omega
  rw [show ((N + 1 : Nat) : Int) = (N : Int) + 1 by omega] at hmk
  have hO : Own (w.alloc (Obj.cells (madeCells #[Value.int .i64 0] ((N + 1) * 1)) 3)) w.heap.size 3 (N + 1) (fun _ => 0) :=
    own_made _ _ _ _ _ (fun i hi => by match i, hi with | 0, _ => rfl) (by simp) (by omega)
  have HO := Lib.hid hO
  have HT := Lib.hid hT
  have HSN := Lib.hid hsN
  clear hN hsz hO hT
  rw [Nat.mul_one] at HO hmk
  go_enter Try.func68, Try.ntmps68
  go_upto_region 4 with fail
  have g1 : Below w.heap.size w (w.alloc (Obj.cells (madeCells #[Value.int .i64 0] (N + 1)) 3)) := by go_grown
  generalize w.alloc (Obj.cells (madeCells #[Value.int .i64 0] (N + 1)) 3) = w1 at *

  have c0 : w1.cell? ⟨w.heap.size, 0, none⟩ = some (.int .i64 0) := HO.out.cell (j := 0) (by omega)
  have f0 := HO.out.frozen 0
  have HB := Lib.hid g1
  have HO1 := Lib.hid (show Own (w1.setCell ⟨w.heap.size, 0, none⟩ (.int .i64 (-1))) w.heap.size 3 (N + 1) (fun j => (((0 :: List.replicate N 1 : List Nat).getD j 0 : Nat) : Int) - 1) by
    refine (HO.out.set 0 (-1)).congr fun j hj => ?_
    rcases j with _ | j
    · rfl
    · have : (0 :: List.replicate N 1 : List Nat).getD (j + 1) 0 = 1 := by rw [List.getD_cons_succ, List.getD_eq_getElem?_getD, List.getElem?_replicate, if_pos (by omega)]; rfl
      rw [this]; rfl)
  have HB1 := Lib.hid (show Below w.heap.size w (w1.setCell ⟨w.heap.size, 0, none⟩ (.int .i64 (-1))) from g1.setCell (Nat.le_refl _) _)

  clear g1 hmk HB
  go_wp2_with fail
  rw [← HT.out]
  have HE1 := Lib.hid (OkE.start N)
  clear c0 f0
  go_loopw [6, 4] (fun t bs wr => ∃ (i b : Nat) (E : List Nat), 1 ≤ i ∧ i ≤ N ∧ b + 1 ≤ i ∧ t = .int .i64 (i : Int) ∧ bs = .int .i64 (b : Int) ∧ Hid (OkE N E) ∧ Hid (steps tw i (N - i) b E = Q) ∧ Hid (Own wr w.heap.size 3 (N + 1) (fun j => ((E.getD j 0 : Nat) : Int) - 1)) ∧ Below w.heap.size w wr) (fun t _ _ => N - (intOf t).toNat)
  case atStart => exact ⟨1, 0, 0 :: List.replicate N 1, by omega, by omega, by omega, rfl, rfl, HE1, Lib.hid (by rw [HBO.out]), HO1, HB1.out⟩
  case round =>
    clear HO HO1 HB1 HE1 HBO
    obtain ⟨i, b, E, hi1, hiN, hbi, rfl, rfl, HE, HS, HO, hbl⟩ := hrel
    have HB := Lib.hid hbl
    clear hbl
    by_cases hlt : i < N
    · have hlt' : (i : Int) < (N : Int) := by omega
      have hi0 : (0 : Int) ≤ (i : Int) := by omega
      have hb0 : (0 : Int) ≤ (b : Int) := by omega
      have hsub : (i : Int) - (b : Int) = ((i - b : Nat) : Int) := by omega
      have q0 : wr.cell? ⟨w.heap.size, i - b, none⟩ = some (.int .i64 (((E.getD (i - b) 0 : Nat) : Int) - 1)) := HO.out.cell (j := i - b) (by omega)
      have hsle := HE.out.2 (i - b) (by omega)
      have HS2 := Lib.hid (show steps tw (i + 1) (N - (i + 1)) (down tw E i (i + 1) b (E.getD (i - b) 0)).1 (E.set (i - (down tw E i (i + 1) b (E.getD (i - b) 0)).1 + 1) ((down tw E i (i + 1) b (E.getD (i - b) 0)).2 + 1)) = Q by
        rw [← HS.out, show N - i = (N - (i + 1)) + 1 by omega, steps_succ])
      have hid1 : (i - b : Nat) < N + 1 := by omega
      clear HS
      generalize hs0 : E.getD (i - b) 0 = s0 at *
      generalize hD : down tw E i (i + 1) b s0 = D at *
      have HD := Lib.hid hD
      generalize hib : i - b = ib at *
      clear hD hs0
      go_wp2_with fail
      have HBI := Lib.hid (show b + s0 ≤ i by omega)
      have HS02 := Lib.hid (show s0 ≤ i by omega)
      clear q0 hsub hsle hid1 hib
      rename World => wo
      go_loopw [7, 4] (fun sm bs wi => ∃ (f c v : Nat), v < f ∧ c + v ≤ i ∧ sm = .int .i64 ((v : Int) - 1) ∧ bs = .int .i64 (c : Int) ∧ Hid (down tw E i f c v = D) ∧ Drew wo wi) (fun sm _ _ => (intOf sm + 1).toNat)
      case atStart => exact ⟨i + 1, b, s0, by have := HS02.out; omega, HBI.out, by first | rfl | go_num, rfl, HD, Drew.refl _⟩
      case round =>
        obtain ⟨f, c, v, hvf, hcv, rfl, rfl, HDD, hd⟩ := hrel
        have HDR := Lib.hid hd
        clear hd
        rcases v with _ | v
        · have HF := Lib.hid (show D = (c, 0) by rw [← HDD.out]; obtain ⟨f', rfl⟩ : ∃ f', f = f' + 1 := ⟨f - 1, by omega⟩; rfl)
          have hic : (i : Int) - (c : Int) = ((i - c : Nat) : Int) := by omega
          have hicN : i - c + 1 < N + 1 := by omega
          have q1 : ∃ y, wr.cell? ⟨w.heap.size, i - c + 1, none⟩ = some (.int .i64 y) := ⟨_, HDR.out.cell (HO.out.cell (j := i - c + 1) (by omega))⟩
          obtain ⟨y, q1⟩ := q1
          have hfz : wr.frozen? ⟨w.heap.size, i - c + 1, none⟩ = false := by obtain ⟨m, rfl⟩ := HDR.out; exact HO.out.frozen _
          rw [HF.out] at HS2
          have HS3 := Lib.hid HS2.out
          simp only at HS3
          have HO2 := Lib.hid (own_set_ends (w := wr) (v := 0 + 1) (by obtain ⟨m, rfl⟩ := HDR.out; exact HO.out) (i := i - c + 1) (by rw [HE.out.1]; omega) (0) (by omega))
          have HE2 := Lib.hid (HE.out.set (i := i - c + 1) (v := 0 + 1) (by omega) (by omega))
          have HB2 := Lib.hid (show Below w.heap.size w wr by obtain ⟨m, rfl⟩ := HDR.out; exact drewN_below HB.out m)
          have HW9 := Lib.hid (show (c : Nat) + 1 ≤ i + 1 by omega)
          generalize hic1 : i - c = ic at *
          go_wp2_with fail
          go_quiet (fail)
          go_wp2
          go_roundw
          case rel => exact ⟨i + 1, c, E.set (ic + 1) (0 + 1), by omega, by omega, HW9.out, by go_num, rfl, HE2, HS3, Lib.hid (HO2.out), Below.setCell (drewN_below HB2.out _) (Nat.le_refl _) _⟩
          case measure => simp [intOf]; omega
        · obtain ⟨f', rfl⟩ : ∃ f', f = f' + 1 := ⟨f - 1, by omega⟩
          have hsv : ((v + 1 : Nat) : Int) - 1 = (v : Int) := by omega
          rw [hsv]
          have hv0 : (0 : Int) ≤ (v : Int) := by omega
          have hj : (c : Int) + (v : Int) = ((c + v : Nat) : Int) := by omega
          have hjN : c + v < N := by omega
          have hiT : i < T.size := by omega
          have hjT : c + v < T.size := by omega
          have hi1 : (i : Int) < (T.size : Int) := by omega
          have hj1 : ((c + v : Nat) : Int) < (T.size : Int) := by omega
          have hi2 := HAT.out i hiT
          have hj2 := HAT.out (c + v) hjT
          have hqv : (i : Int) - (v : Int) = ((i - v : Nat) : Int) := by omega
          have hE := HE.out.2 v (by omega)
          have q0 : wr.cell? ⟨w.heap.size, v, none⟩ = some (.int .i64 (((E.getD v 0 : Nat) : Int) - 1)) := HDR.out.cell (HO.out.cell (j := v) (by omega))
          have HS1 := Lib.hid (fun h => down_same (T := tw) (E := E) (i := i) (f := f') (b := c) (s := v) h)
          have HSL := Lib.hid (fun h h' => down_less (T := tw) (E := E) (i := i) (f := f') (b := c) (s := v) h h')
          have HSM := Lib.hid (fun h h' => down_more (T := tw) (E := E) (i := i) (f := f') (b := c) (s := v) h h')
          generalize hjc : c + v = j at *
          clear hsv
          cases hx : tw.getD i false <;> cases hy : tw.getD j false
          · rw [hx] at hi2
            rw [hy] at hj2
            have n1 : (((T[i]'hiT).toNat : Int) != ((T[j]'hjT).toNat : Int)) = false := by rw [hi2, hj2]; rfl
            have n2 : (((T[i]'hiT).toNat : Int) == ((T[j]'hjT).toNat : Int)) = true := by rw [hi2, hj2]; rfl
            have HF := Lib.hid (show D = (c, v + 1) by rw [← HDD.out]; exact HS1.out (by rw [hx, hy]))
            clear hi2 hj2 hx hy q0 hE hqv HS1 HSL HSM hjc
            have hic : (i : Int) - (c : Int) = ((i - c : Nat) : Int) := by omega
            have hicN : i - c + 1 < N + 1 := by omega
            have q1 : ∃ y, wr.cell? ⟨w.heap.size, i - c + 1, none⟩ = some (.int .i64 y) := ⟨_, HDR.out.cell (HO.out.cell (j := i - c + 1) (by omega))⟩
            obtain ⟨y, q1⟩ := q1
            have hfz : wr.frozen? ⟨w.heap.size, i - c + 1, none⟩ = false := by obtain ⟨m, rfl⟩ := HDR.out; exact HO.out.frozen _
            rw [HF.out] at HS2
            have HS3 := Lib.hid HS2.out
            simp only at HS3
            have HO2 := Lib.hid (own_set_ends (w := wr) (v := v + 1 + 1) (by obtain ⟨m, rfl⟩ := HDR.out; exact HO.out) (i := i - c + 1) (by rw [HE.out.1]; omega) ((v : Int) + 1) (by omega))
            have HE2 := Lib.hid (HE.out.set (i := i - c + 1) (v := v + 1 + 1) (by omega) (by omega))
            have HB2 := Lib.hid (show Below w.heap.size w wr by obtain ⟨m, rfl⟩ := HDR.out; exact drewN_below HB.out m)
            have HW9 := Lib.hid (show (c : Nat) + 1 ≤ i + 1 by omega)
            generalize hic1 : i - c = ic at *
            go_wp2_with fail
            go_quiet (fail)
            go_wp2
            go_roundw
            case rel => exact ⟨i + 1, c, E.set (ic + 1) (v + 1 + 1), by omega, by omega, HW9.out, by go_num, rfl, HE2, HS3, Lib.hid (HO2.out), Below.setCell (drewN_below HB2.out _) (Nat.le_refl _) _⟩
            case measure => simp [intOf]; omega
          · rw [hx] at hi2
            rw [hy] at hj2
            have n1 : (((T[i]'hiT).toNat : Int) != ((T[j]'hjT).toNat : Int)) = true := by rw [hi2, hj2]; rfl
            have n2 : (((T[i]'hiT).toNat : Int) == ((T[j]'hjT).toNat : Int)) = false := by rw [hi2, hj2]; rfl
            have n3 : (((T[i]'hiT).toNat : Int) < ((T[j]'hjT).toNat : Int)) := by rw [hi2, hj2]; decide
            have HF := Lib.hid (show down tw E i f' (i - v) (E.getD v 0) = D by rw [← HDD.out]; exact (HSL.out hx hy).symm)
            have HLE := Lib.hid hE
            clear hi2 hj2 hx hy hE HS1 HSL HSM hjc
            generalize E.getD v 0 = ev at *
            generalize hqq : i - v = iv at *
            have HIV := Lib.hid hqq
            clear hqq
            go_wp2_with fail
            go_quiet (fail)
            go_wp2_with fail
            go_quiet (fail)
            go_wp2
            go_roundw
            case rel => exact ⟨f', iv, ev, by have := HLE.out; omega, by have := HLE.out; have := HIV.out; omega, by first | rfl | go_num, rfl, HF, by first | exact HDR.out.drewN _ | exact (HDR.out.drewN _).drewN _⟩
            case measure => have := HLE.out; simp [intOf]; omega
          · rw [hx] at hi2
            rw [hy] at hj2
            have n1 : (((T[i]'hiT).toNat : Int) != ((T[j]'hjT).toNat : Int)) = true := by rw [hi2, hj2]; rfl
            have n2 : (((T[i]'hiT).toNat : Int) == ((T[j]'hjT).toNat : Int)) = false := by rw [hi2, hj2]; rfl
            have n3 : ¬ (((T[i]'hiT).toNat : Int) < ((T[j]'hjT).toNat : Int)) := by rw [hi2, hj2]; decide
            have HF := Lib.hid (show down tw E i f' c (E.getD v 0) = D by rw [← HDD.out]; exact (HSM.out hx hy).symm)
            have HLE := Lib.hid hE
            clear hi2 hj2 hx hy hE HS1 HSL HSM hjc
            generalize E.getD v 0 = ev at *
            generalize hqq : i - v = iv at *
            have HIV := Lib.hid hqq
            clear hqq
            go_wp2_with fail
            go_quiet (fail)
            go_wp2_with fail
            go_quiet (fail)
            go_wp2
            go_roundw
            case rel => exact ⟨f', c, ev, by have := HLE.out; omega, by have := HLE.out; have := HIV.out; omega, by first | rfl | go_num, rfl, HF, by first | exact HDR.out.drewN _ | exact (HDR.out.drewN _).drewN _⟩
            case measure => have := HLE.out; simp [intOf]; omega
          · rw [hx] at hi2
            rw [hy] at hj2
            have n1 : (((T[i]'hiT).toNat : Int) != ((T[j]'hjT).toNat : Int)) = false := by rw [hi2, hj2]; rfl
            have n2 : (((T[i]'hiT).toNat : Int) == ((T[j]'hjT).toNat : Int)) = true := by rw [hi2, hj2]; rfl
            have HF := Lib.hid (show D = (c, v + 1) by rw [← HDD.out]; exact HS1.out (by rw [hx, hy]))
            clear hi2 hj2 hx hy q0 hE hqv HS1 HSL HSM hjc
            have hic : (i : Int) - (c : Int) = ((i - c : Nat) : Int) := by omega
            have hicN : i - c + 1 < N + 1 := by omega
            have q1 : ∃ y, wr.cell? ⟨w.heap.size, i - c + 1, none⟩ = some (.int .i64 y) := ⟨_, HDR.out.cell (HO.out.cell (j := i - c + 1) (by omega))⟩
            obtain ⟨y, q1⟩ := q1
            have hfz : wr.frozen? ⟨w.heap.size, i - c + 1, none⟩ = false := by obtain ⟨m, rfl⟩ := HDR.out; exact HO.out.frozen _
            rw [HF.out] at HS2
            have HS3 := Lib.hid HS2.out
            simp only at HS3
            have HO2 := Lib.hid (own_set_ends (w := wr) (v := v + 1 + 1) (by obtain ⟨m, rfl⟩ := HDR.out; exact HO.out) (i := i - c + 1) (by rw [HE.out.1]; omega) ((v : Int) + 1) (by omega))
            have HE2 := Lib.hid (HE.out.set (i := i - c + 1) (v := v + 1 + 1) (by omega) (by omega))
            have HB2 := Lib.hid (show Below w.heap.size w wr by obtain ⟨m, rfl⟩ := HDR.out; exact drewN_below HB.out m)
            have HW9 := Lib.hid (show (c : Nat) + 1 ≤ i + 1 by omega)
            generalize hic1 : i - c = ic at *
            go_wp2_with fail
            go_quiet (fail)
            go_wp2
            go_roundw
            case rel => exact ⟨i + 1, c, E.set (ic + 1) (v + 1 + 1), by omega, by omega, HW9.out, by go_num, rfl, HE2, HS3, Lib.hid (HO2.out), Below.setCell (drewN_below HB2.out _) (Nat.le_refl _) _⟩
            case measure => simp [intOf]; omega
    · obtain rfl : N = i := by omega
      have HF := Lib.hid (show b = Q by rw [← HS.out, Nat.sub_self]; rfl)
      go_wp2
      go_ret
      exact ⟨by rw [← HF.out]; rfl, HB.out⟩

set_option maxHeartbeats 1000000 in
theorem turn_i (l : List Bool) (k : Nat) (w : World) (h1 : 1 ≤ l.length) (h8 : l.length ≤ 8) (hk : k ≤ l.length) :
    Calls Try.prog 67 #[.string (toB l), .int .i64 (k : Int)] w fun e w' => e = .returned (.string (toB (rot l k))) ∧ Drew w w' := by
  have hr := toB_rot l hk
  have hsz := toB_size l
  rw [← hsz] at hr
  have HR := Lib.hid hr
  generalize toB l = s at *
  have hk' : (k : Int) ≤ (s.size : Int) := by omega
  have hk0 : (0 : Int) ≤ (k : Int) := by omega
  have hz8 : s.size ≤ 8 := by omega
  clear hr hsz
  go_enter Try.func67, Try.ntmps67
  go_wp2_with fail
  go_quiet (fail)
  go_wp2
  go_ret
  exact ⟨by rw [← HR.out]; rfl, (Drew.refl _).drewN _⟩

set_option maxHeartbeats 1000000 in
theorem first_s_no (s : ByteArray) (w : World) (hs : s.size ≤ 1048576) (hb : bendB s = false) :
    Calls Try.prog 28 #[.string s] w fun e w' => e = .returned (.tuple #[.string ⟨#[]⟩, .int .i64 7]) ∧ Below w.heap.size w w' := by
  have HO := Lib.hid (fun W => ok_s s W hs)
  rw [hb] at HO
  clear hb
  go_enter Try.func28, Try.ntmps28
  go_wp2_with (go_at_call 51; refine (HO.out _).mono ?_; rintro e w' ⟨rfl, rfl⟩)
  go_returns
  exact ⟨rfl, Below.refl _ _⟩

set_option maxHeartbeats 1000000 in
theorem first_s (s : ByteArray) (w : World) (hb : bendB s = true) :
    Calls Try.prog 28 #[.string s] w fun e w' => e = .returned (.tuple #[.string (toB (first (bits s))), .int .i64 0]) ∧ Below w.heap.size w w' := by
  obtain ⟨l, rfl, hl, h1, h8⟩ := bend_bits hb
  rw [hl]
  have HO := Lib.hid (fun W => ok_s (toB l) W (by rw [toB_size]; omega))
  have HF := Lib.hid (fun W => firstW_s l W h1 h8)
  rw [hb] at HO
  clear hb hl
  generalize toB l = s at *
  generalize toB (first l) = f at *
  go_enter Try.func28, Try.ntmps28
  go_wp2_with (go_at_call 51; refine (HO.out _).mono ?_; rintro e w' ⟨rfl, rfl⟩)
  refine (HF.out _).mono ?_
  rintro e w1 ⟨rfl, hd⟩
  have g1 : Below w.heap.size w w1 := by obtain ⟨m, rfl⟩ := hd; exact drewN_below (by go_grown) m
  clear hd
  go_wp2
  go_returns
  exact ⟨rfl, g1⟩

set_option maxHeartbeats 1000000 in
theorem first_i_no (s : ByteArray) (w : World) (hs : s.size ≤ 1048576) (hb : bendB s = false) :
    Calls Try.prog 29 #[.string s] w fun e w' => e = .returned (.tuple #[.string ⟨#[]⟩, .int .i64 7]) ∧ Below w.heap.size w w' := by
  have HO := Lib.hid (fun W => valid_i s W hs)
  rw [hb] at HO
  clear hb
  go_enter Try.func29, Try.ntmps29
  go_wp2_with (go_at_call 16; refine (HO.out _).mono ?_; rintro e w1 ⟨rfl, hb1⟩)
  go_returns
  exact ⟨rfl, hb1⟩

set_option maxHeartbeats 1000000 in
theorem first_i (s : ByteArray) (w : World) (hb : bendB s = true) :
    Calls Try.prog 29 #[.string s] w fun e w' => e = .returned (.tuple #[.string (toB (first (bits s))), .int .i64 0]) ∧ Below w.heap.size w w' := by
  obtain ⟨l, rfl, hl, h1, h8⟩ := bend_bits hb
  rw [hl]
  have HO := Lib.hid (fun W => valid_i (toB l) W (by rw [toB_size]; omega))
  have HT := Lib.hid (fun W => leastTurn_i l W h1 h8)
  obtain ⟨hb1, hb2⟩ := booth_first h1 h8
  have HR := Lib.hid (fun W => turn_i l (booth l) W h1 h8 hb2)
  rw [hb1] at HR
  rw [hb] at HO
  clear hb hl hb1 hb2
  generalize toB l = s at *
  generalize toB (first l) = f at *
  generalize booth l = q at *
  go_enter Try.func29, Try.ntmps29
  go_wp2_with fail
  refine (HO.out _).mono ?_
  rintro e w1 ⟨rfl, hb1⟩
  go_wp2_with fail
  refine (HT.out _).mono ?_
  rintro e w2 ⟨rfl, hb2⟩
  have g2 : Below w.heap.size w w2 := Below.trans (Below.trans (by go_grown) (hb1.mono (by first | exact Nat.le_refl _ | (simp; done)))) (hb2.mono hb1.size)
  clear hb1 hb2
  go_wp2_with fail
  refine (HR.out _).mono ?_
  rintro e w3 ⟨rfl, hd⟩
  have g3 : Below w.heap.size w w3 := by obtain ⟨m, rfl⟩ := hd; exact drewN_below g2 m
  clear hd g2
  go_wp2
  go_returns
  exact ⟨rfl, g3⟩


/-- are two words one cycle? -/
def sameV (a b : ByteArray) : Bool := first (bits a) == first (bits b)
def bothB (a b : ByteArray) : Bool := bendB a && bendB b
set_option maxHeartbeats 1000000 in
theorem same_s_no (a b : ByteArray) (w : World) (ha : a.size ≤ 1048576) (hb : b.size ≤ 1048576) (hv : bothB a b = false) :
    Calls Try.prog 30 #[.string a, .string b] w fun e w' => e = .returned (.tuple #[.bool false, .int .i64 7]) ∧ Below w.heap.size w w' := by
  have HA := Lib.hid (fun W => ok_s a W ha)
  have HB := Lib.hid (fun W => ok_s b W hb)
  unfold bothB at hv
  cases h1 : bendB a
  all_goals
    rw [h1] at HA hv
  · clear hv h1
    go_enter Try.func30, Try.ntmps30
    go_wp2_with (go_at_call_of 51 (Value.string a); refine (HA.out _).mono ?_; rintro e w' ⟨rfl, rfl⟩)
    go_returns
    exact ⟨rfl, Below.refl _ _⟩
  · have h2 : bendB b = false := by simpa using hv
    rw [h2] at HB
    clear hv h1 h2
    go_enter Try.func30, Try.ntmps30
    go_wp2_with (first | (go_at_call_of 51 (Value.string a); refine (HA.out _).mono ?_; rintro e w' ⟨rfl, rfl⟩) | (go_at_call_of 51 (Value.string b); refine (HB.out _).mono ?_; rintro e w' ⟨rfl, rfl⟩))
    go_returns
    exact ⟨rfl, Below.refl _ _⟩

set_option maxHeartbeats 2000000 in
theorem same_s (a b : ByteArray) (w : World) (hv : bothB a b = true) :
    Calls Try.prog 30 #[.string a, .string b] w fun e w' => e = .returned (.tuple #[.bool (sameV a b), .int .i64 0]) ∧ Below w.heap.size w w' := by
  unfold bothB at hv
  rw [Bool.and_eq_true] at hv
  obtain ⟨l, rfl, hl, h1, h8⟩ := bend_bits hv.1
  obtain ⟨m, rfl, hm, k1, k8⟩ := bend_bits hv.2
  unfold sameV
  rw [hl, hm]
  have HA := Lib.hid (fun W => ok_s (toB l) W (by rw [toB_size]; omega))
  have HB := Lib.hid (fun W => ok_s (toB m) W (by rw [toB_size]; omega))
  rw [hv.1] at HA
  rw [hv.2] at HB
  have HF := Lib.hid (fun W => firstW_s l W h1 h8)
  have HG := Lib.hid (fun W => firstW_s m W k1 k8)
  have he := toB_eq (first l) (first m)
  have hlen : first l = first m → l.length = m.length := fun h => by rw [← first_len l, h, first_len]
  have za := toB_size l
  have zb := toB_size m
  by_cases hz : l.length = m.length
  · have e1 : (((toB l).size : Int) == ((toB m).size : Int)) = true := by rw [za, zb, hz]; simp
    generalize toB l = a at *
    generalize toB m = b at *
    generalize hQ : (first l == first m) = q at *
    generalize toB (first l) = f at *
    generalize toB (first m) = h at *
    clear hlen hv za zb hl hm hQ
    go_enter Try.func30, Try.ntmps30
    go_wp2_with (first | (go_at_call_of 51 (Value.string a); refine (HA.out _).mono ?_; rintro e w' ⟨rfl, rfl⟩) | (go_at_call_of 51 (Value.string b); refine (HB.out _).mono ?_; rintro e w' ⟨rfl, rfl⟩))
    refine (HF.out _).mono ?_
    rintro e w1 ⟨rfl, hd1⟩
    have b1 : Below w.heap.size w w1 := by obtain ⟨m, rfl⟩ := hd1; exact drewN_below (by go_grown) m
    clear hd1
    go_wp2_with fail
    refine (HG.out _).mono ?_
    rintro e w2 ⟨rfl, hd2⟩
    have b2 : Below w.heap.size w w2 := by obtain ⟨m, rfl⟩ := hd2; exact drewN_below b1 m
    clear hd2 b1
    go_wp2
    go_returns
    exact ⟨rfl, b2⟩
  · have e1 : (((toB l).size : Int) == ((toB m).size : Int)) = false := beq_false_of_ne (by rw [za, zb]; omega)
    have hq : (first l == first m) = false := beq_false_of_ne (fun h => hz (hlen h))
    rw [hq]
    generalize toB l = a at *
    generalize toB m = b at *
    clear hlen hv za zb hl hm hq he
    go_enter Try.func30, Try.ntmps30
    go_wp2_with (first | (go_at_call_of 51 (Value.string a); refine (HA.out _).mono ?_; rintro e w' ⟨rfl, rfl⟩) | (go_at_call_of 51 (Value.string b); refine (HB.out _).mono ?_; rintro e w' ⟨rfl, rfl⟩))
    go_returns
    exact ⟨rfl, Below.refl _ _⟩

/-- FirstWord of the program at any text -/
theorem firstAny_i (s : ByteArray) (hs : s.size ≤ 1048576) : ∃ (f : ByteArray) (c : Int), (bendB s = false → c = 7) ∧ (bendB s = true → c = 0 ∧ f = toB (first (bits s))) ∧ ∀ w, Calls Try.prog 29 #[.string s] w fun e w' => e = .returned (.tuple #[.string f, .int .i64 c]) ∧ Below w.heap.size w w' := by
  cases hb : bendB s
  · exact ⟨⟨#[]⟩, 7, fun _ => rfl, fun h => (by cases h), fun w => first_i_no s w hs hb⟩
  · exact ⟨_, 0, fun h => (by cases h), fun _ => ⟨rfl, rfl⟩, fun w => first_i s w hb⟩

set_option maxHeartbeats 1000000 in
theorem same_i_no (a b : ByteArray) (w : World) (ha : a.size ≤ 1048576) (hb : b.size ≤ 1048576) (hv : bothB a b = false) :
    Calls Try.prog 31 #[.string a, .string b] w fun e w' => e = .returned (.tuple #[.bool false, .int .i64 7]) ∧ Below w.heap.size w w' := by
  obtain ⟨f, c, h1, h2, h3⟩ := firstAny_i a ha
  obtain ⟨h, d, k1, k2, k3⟩ := firstAny_i b hb
  have HA := Lib.hid h3
  have HB := Lib.hid k3
  have hcd : c ≠ 0 ∨ c = 0 ∧ d ≠ 0 := by
    unfold bothB at hv
    cases e1 : bendB a
    · left; rw [h1 e1]; decide
    · rw [e1] at hv
      right
      exact ⟨(h2 e1).1, by rw [k1 (by simpa using hv)]; decide⟩
  clear h1 h2 h3 k1 k2 k3 hv
  rcases hcd with hc | ⟨rfl, hd⟩
  · have e1 : (c != 0) = true := by simp [hc]
    go_enter Try.func31, Try.ntmps31
    go_wp2_with fail
    refine (HA.out _).mono ?_
    rintro e w1 ⟨rfl, b1⟩
    go_wp2_with fail
    refine (HB.out _).mono ?_
    rintro e w2 ⟨rfl, hb2⟩
    have b2 : Below w.heap.size w w2 := b1.trans (hb2.mono b1.size)
    clear b1 hb2
    go_wp2
    go_returns
    exact ⟨rfl, b2⟩
  · have e1 : (d != 0) = true := by simp [hd]
    go_enter Try.func31, Try.ntmps31
    go_wp2_with fail
    refine (HA.out _).mono ?_
    rintro e w1 ⟨rfl, b1⟩
    go_wp2_with fail
    refine (HB.out _).mono ?_
    rintro e w2 ⟨rfl, hb2⟩
    have b2 : Below w.heap.size w w2 := b1.trans (hb2.mono b1.size)
    clear b1 hb2
    go_wp2
    go_returns
    exact ⟨rfl, b2⟩

set_option maxHeartbeats 1000000 in
theorem same_i (a b : ByteArray) (w : World) (ha : a.size ≤ 1048576) (hb : b.size ≤ 1048576) (hv : bothB a b = true) :
    Calls Try.prog 31 #[.string a, .string b] w fun e w' => e = .returned (.tuple #[.bool (sameV a b), .int .i64 0]) ∧ Below w.heap.size w w' := by
  obtain ⟨f, c, h1, h2, h3⟩ := firstAny_i a ha
  obtain ⟨h, d, k1, k2, k3⟩ := firstAny_i b hb
  have HA := Lib.hid h3
  have HB := Lib.hid k3
  unfold bothB at hv
  rw [Bool.and_eq_true] at hv
  obtain ⟨rfl, hf⟩ := h2 hv.1
  obtain ⟨rfl, hh⟩ := k2 hv.2
  have he : (f.toList == h.toList) = sameV a b := by rw [hf, hh]; exact toB_eq _ _
  generalize sameV a b = q at *
  clear h1 h2 h3 k1 k2 k3 hv hf hh
  go_enter Try.func31, Try.ntmps31
  go_wp2_with fail
  refine (HA.out _).mono ?_
  rintro e w1 ⟨rfl, b1⟩
  go_wp2_with fail
  refine (HB.out _).mono ?_
  rintro e w2 ⟨rfl, hb2⟩
  have b2 : Below w.heap.size w w2 := b1.trans (hb2.mono b1.size)
  clear b1 hb2
  go_wp2
  go_returns
  exact ⟨rfl, b2⟩

end Go.Proofs.Ytgfnagkelhbplaa.brd
