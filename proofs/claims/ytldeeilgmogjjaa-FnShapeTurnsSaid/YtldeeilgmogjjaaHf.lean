/-
  Contracts of LevelsBetween, of the model and of the program. No condition of a statement lies here.
-/
import Derived.Test.YtldeeilgmogjjaaHa
import Derived.Test.YtldeeilgmogjjaaAppend
import Derived.Deep.AppendLies
import Derived.Deep.RegionHeld3
import Derived.Test.YtldeeilgmogjjaaOpen
import Derived.Test.YtldeeilgmogjjaaNums
import Derived.Test.YtldeeilgmogjjaaIn
namespace Go.Proofs.Ytldeeilgmogjjaa.shp
open Go.Deep Go.ChangeShapes Go.WideShapes Go.ChangeAt Go.RowKit Go.Proofs.Ytldeeilgmogjjaa.mem Go.Proofs.Ytldeeilgmogjjaa.rod Go.Proofs.Ytldeeilgmogjjaa.nums
set_option linter.unusedVariables false
set_option maxRecDepth 100000

/-- the first n + 1 levels, and those between them -/
def btw (X : Nat → Int) : Nat → List Int
  | 0 => [X 0]
  | n + 1 => btw X n ++ [(X n + X (n + 1)) / 2] ++ [X (n + 1)]
theorem btw_len (X : Nat → Int) : ∀ n, (btw X n).length = 2 * n + 1
  | 0 => rfl
  | n + 1 => by unfold btw; rw [List.length_append, List.length_append, btw_len X n]; simp <;> omega
theorem owns_first (w : World) (B : Nat) (E : TypeId) (x : Int) (hB : B ≤ w.heap.size) : (w.alloc (Obj.cells #[.int .i64 x] E)).ownsRow B E 1 (.slice (some ⟨w.heap.size, 0, none⟩) 1 1) [x].length ([x].map (Value.int .i64)) :=
  ⟨by simp, .inr ⟨w.heap.size, 1, #[.int .i64 x], rfl, hB, Go.Deep.blk_alloc_new _ _, Nat.le_refl _, by unfold maxLen; omega, by simp, by simp⟩⟩
theorem owns_two {w : World} {B : Nat} {E : TypeId} {v : Value} {l : List Int} {k m : Int} {L : Nat} (h : w.ownsRow B E 1 v L (l.map (Value.int .i64) ++ [.int .i64 k, .int .i64 m])) (hL : L = l.length + 2) :
    w.ownsRow B E 1 v (l ++ [k] ++ [m]).length ((l ++ [k] ++ [m]).map (Value.int .i64)) := by
  subst hL
  simpa using h

set_option maxHeartbeats 1000000 in
theorem between_i_no (A : Option Addr) (n c : Nat) (X : Nat → Int) (w : World) (hn : n ≤ maxLen) (hr : Sl w A n 1 X) (hv : shpB n X = false) :
    Calls Try.prog 12 #[.slice A n c] w (NumsCode w 2 [] 1) := by
  have HR := Lib.hid hr
  clear hr
  go_enter Try.func12, Try.ntmps12
  go_wp2_with (go_at_call 15; refine (ok_i A n c X _ hn (Sl.below HR.out (K := w.heap.size) (by go_grown) (Nat.le_refl _))).mono ?_; rintro e w' ⟨rfl, rfl⟩)
  go_ret2
  exact ⟨none, 0, rfl, Nat.le_refl _, by unfold maxLen; omega, Row.none_, by go_grown⟩

set_option maxHeartbeats 1000000 in
theorem between_i_full (A : Option Addr) (n c : Nat) (X : Nat → Int) (w : World) (hn : n ≤ maxLen) (hr : Sl w A n 1 X) (hv : shpB n X = true) (h6 : 6 < n) :
    Calls Try.prog 12 #[.slice A n c] w (NumsCode w 2 [] 5) := by
  obtain ⟨n0, n12, hX⟩ := shpB_of hv
  have h6' : (12 : Int) < 2 * (n : Int) - 1 := by omega
  have HR := Lib.hid hr
  clear hr hX
  go_enter Try.func12, Try.ntmps12
  go_wp2_with (go_at_call 15; refine (ok_i A n c X _ hn (Sl.below HR.out (K := w.heap.size) (by go_grown) (Nat.le_refl _))).mono ?_; rintro e w' ⟨rfl, rfl⟩)
  go_ret2
  exact ⟨none, 0, rfl, Nat.le_refl _, by unfold maxLen; omega, Row.none_, by go_grown⟩

set_option maxHeartbeats 2000000 in
set_option maxRecDepth 100000 in
theorem between_i2 (A : Option Addr) (n c : Nat) (X : Nat → Int) (w : World) (hn : n ≤ maxLen) (hc : n ≤ c) (hr : Sl w A n 1 X) (hv : shpB n X = true) (h6 : n ≤ 6) (hc1 : c ≠ 1) :
    Calls Try.prog 12 #[.slice A n c] w (NumsCode w 2 (btw X (n - 1)) 0) := by
  obtain ⟨n0, n12, hX⟩ := shpB_of hv
  have h6' : ¬ (12 : Int) < 2 * (n : Int) - 1 := by omega
  have HR := Lib.hid hr
  obtain ⟨b, o, rfl, hb, hI⟩ := hr (by omega)
  have h00 := hI 0 (by omega)
  rw [Nat.add_zero] at h00
  have n1' : (0 : Int) < (n : Int) := by omega
  have HI := Lib.hid hI
  have HX := Lib.hid hX
  clear hr hX hI
  obtain ⟨i0, hi0, hz0, hz1, hz2⟩ := info_parts info_num
  go_enter Try.func12, Try.ntmps12
  go_wp2_with (go_at_call 15; refine (ok_i _ n c X _ hn (Sl.below HR.out (K := w.heap.size) (by go_grown) (Nat.le_refl _))).mono ?_; rintro e w' ⟨rfl, rfl⟩)
  clear h00
  go_loopw [22, 4] (fun s v wr => ∃ i : Nat, i + 1 ≤ n ∧ s = .int .i64 i ∧ Hid (wr.ownsRow w.heap.size 2 1 v (btw X i).length ((btw X i).map (Value.int .i64))) ∧ Below w.heap.size w wr) (fun s _ _ => n - (intOf s).toNat)
  case atStart => exact ⟨0, by omega, rfl, owns_first w w.heap.size 2 (X 0) (Nat.le_refl _), by go_grown⟩
  case round =>
    obtain ⟨q, kn, rfl, hown, hbl⟩ := hrel
    have HB := Lib.hid hbl
    have hzz := hbl.size
    clear hbl
    by_cases hlt : q + 1 < n
    · have hlt' : (q : Int) < ((n - 1 : Nat) : Int) := by omega
      have hqn : (q : Int) < (n : Int) := by omega
      have hq0 : (0 : Int) ≤ (q : Int) := by omega
      have x0 := HX.out q (by omega)
      have x1 := HX.out (q + 1) (by omega)
      have h0 := (HI.out.below HB.out hb) q (by omega)
      have h1 := (HI.out.below HB.out hb) (q + 1) (by omega)
      obtain ⟨x00, x01⟩ := x0
      obtain ⟨x10, x11⟩ := x1
      have HN := Lib.hid (show btw X (q + 1) = btw X q ++ [(X q + X (q + 1)) / 2] ++ [X (q + 1)] from rfl)
      have hlen := Nat.le_of_eq (btw_len X q)
      rw [show o + (q + 1) = o + 1 + q by omega] at h1
      have hl1 : (btw X q).length + 2 ≤ maxLen := by unfold maxLen; omega
      have hl2 : ((btw X q).length + 2) * 8 ≤ 140737488355328 := by omega
      generalize hL : btw X q = l at *
      generalize hY : X (q + 1) = y at *
      have HY := Lib.hid hY
      have HL := Lib.hid hL
      clear hL hY
      go_wp2_with (at_builtin; refine wpList_append_own _ rfl _ _ 24 rfl w.heap.size 2 i0 (.int .i64 0) 1 8 Try.underlying24 hi0 hz0 hz1 hz2 rfl (by decide) _ _ _ rfl (hown.out.alloc _) ⟨wr.heap.size, 0, none⟩ 2 2 [.int .i64 ((X q + y) / 2), .int .i64 y] rfl rfl ?c1 ?c2 hl1 hl2 ?c5 ?_)
      case c1 => intro j u hj; rcases j with _ | _ | j <;> simp at hj <;> (subst hj; go_simp)
      case c2 => intro u hu; simp at hu; rcases hu with rfl | rfl <;> rfl
      case c5 => simp <;> omega
      intro v' w6 hown6 hgrow6 _
      have g6 : Below w.heap.size w w6 := Below.grown (HB.out.alloc hzz _) hgrow6 (by simp; omega) (owns_block hown.out)
      have HO := Lib.hid (owns_two hown6 rfl)
      clear hown6 hgrow6
      go_wp2
      go_roundw
      case rel => exact ⟨q + 1, by omega, by go_num, by rw [HN.out]; exact HO.out, g6⟩
      case measure => simp [intOf]; omega
    · obtain rfl : q = n - 1 := by omega
      have hlt' : ¬ ((n - 1 : Nat) : Int) < ((n - 1 : Nat) : Int) := by omega
      obtain ⟨A', c', rfl, hc1, hc2, hrow⟩ := row_of_owns hown.out
      have HW := Lib.hid hrow
      clear hrow
      go_wp2
      go_ret2
      exact ⟨_, _, rfl, hc1, hc2, HW.out, HB.out⟩

set_option maxHeartbeats 2000000 in
set_option maxRecDepth 100000 in
theorem between_i1 (A : Option Addr) (n c : Nat) (X : Nat → Int) (w : World) (hn : n ≤ maxLen) (hc : n ≤ c) (hr : Sl w A n 1 X) (hv : shpB n X = true) (h6 : n ≤ 6) (hn1 : n = 1) :
    Calls Try.prog 12 #[.slice A n c] w (NumsCode w 2 (btw X (n - 1)) 0) := by
  subst hn1
  obtain ⟨n0, n12, hX⟩ := shpB_of hv
  have HR := Lib.hid hr
  obtain ⟨b, o, rfl, hb, hI⟩ := hr (by omega)
  have h00 := hI 0 (by omega)
  rw [Nat.add_zero] at h00
  have HI := Lib.hid hI
  have HX := Lib.hid hX
  clear hr hX hI
  obtain ⟨i0, hi0, hz0, hz1, hz2⟩ := info_parts info_num
  go_enter Try.func12, Try.ntmps12
  go_wp2_with (go_at_call 15; refine (ok_i _ 1 c X _ hn (Sl.below HR.out (K := w.heap.size) (by go_grown) (Nat.le_refl _))).mono ?_; rintro e w' ⟨rfl, rfl⟩)
  clear h00
  all_goals
    obtain ⟨A', c', e, hc1, hc2, hrow⟩ := row_of_owns (owns_first w w.heap.size 2 (X 0) (Nat.le_refl _))
    injection e with e1 e2 e3
    subst e1 e3
    have HW := Lib.hid hrow
    clear hrow e2
    go_loopw [22, 4] (fun s t wr => s = .int .i64 0 ∧ t = .slice (some ⟨w.heap.size, 0, none⟩) 1 1 ∧ wr = w.alloc (Obj.cells #[Value.int IntKind.i64 (X 0)] 2)) (fun s _ _ => 0)
    case atStart => exact ⟨rfl, rfl, rfl⟩
    case round =>
      obtain ⟨rfl, rfl, rfl⟩ := hrel
      go_wp2
      go_ret2
      exact ⟨_, _, rfl, hc1, hc2, HW.out, by go_grown⟩

theorem between_i (A : Option Addr) (n c : Nat) (X : Nat → Int) (w : World) (hn : n ≤ maxLen) (hc : n ≤ c) (hr : Sl w A n 1 X) (hv : shpB n X = true) (h6 : n ≤ 6) :
    Calls Try.prog 12 #[.slice A n c] w (NumsCode w 2 (btw X (n - 1)) 0) := by
  by_cases h : n = 1
  · exact between_i1 A n c X w hn hc hr hv h6 h
  · have := (shpB_of hv).1
    exact between_i2 A n c X w hn hc hr hv h6 (by omega)

end Go.Proofs.Ytldeeilgmogjjaa.shp
