/-
  Contracts of RodsBetween, of the model's and of the program's.
-/
import Derived.Test.YtcpaenmhnoagdabRods
import Derived.Test.YtcpaenmhnoagdabNums
import Derived.Test.YtcpaenmhnoagdabAppend
namespace Go.Proofs.Ytcpaenmhnoagdab.rod
open Go.ChangeShapes Go.WideShapes Go.ChangeAt Go.RowKit
open Go.Proofs.Ytcpaenmhnoagdab.mem Go.Proofs.Ytcpaenmhnoagdab.nums
set_option linter.unusedVariables false

/-- is the length of rod i in bounds? -/
def betB (X : Nat → Int) (lo hi : Int) (i : Nat) : Bool := inB (X (i * 3)) lo hi

set_option maxHeartbeats 2000000 in
theorem between_s (A : Option Addr) (n c : Nat) (X : Nat → Int) (lo hi : Int) (w : World) (hn : n ≤ maxLen) (hr : Sl w A n 3 X) (hv : listB n X = true) (h1 : inB lo 100 3000 = true) (h2 : inB hi 100 3000 = true) :
    Calls Try.prog 31 #[.slice A n c, .int .i64 lo, .int .i64 hi] w (NumsCode w 2 (idxs (betB X lo hi) n) 0) := by
  have hn20 := (listB_of hv).1
  have HR := Lib.hid hr
  clear hr
  obtain ⟨i0, hi0, hz0, hz1, hz2⟩ := info_parts info_num
  go_enter Try.func31, Try.ntmps31
  go_wp2_with (first
    | (go_at_call 71; refine (ok_s A n c X _ hn HR.out).mono ?_; rintro e w' ⟨rfl, m, rfl⟩)
    | (go_at_call 86; refine (long_s _ _).mono ?_; rintro e w' ⟨rfl, rfl⟩))
  go_loopw [9, 8] (fun s v wr => ∃ k : Nat, k ≤ n ∧ s = .int .i64 k ∧ Hid (wr.ownsRow w.heap.size 2 1 v (idxs (betB X lo hi) k).length ((idxs (betB X lo hi) k).map (Value.int .i64))) ∧ Below w.heap.size w wr) (fun s _ _ => n - (intOf s).toNat)
  case atStart => exact ⟨0, by omega, rfl, owns_empty (w.drewN m) w.heap.size 2 (Nat.le_refl _), (drewN_below (Below.refl _ _) _).alloc (by simp) _⟩
  case round =>
    rename_i v wr
    obtain ⟨k, hk, rfl, hown, hbl⟩ := hrel
    have HB := Lib.hid hbl
    have hzz := hbl.size
    clear hbl
    by_cases hlt : k < n
    · have hlt' : (k : Int) < (n : Int) := by omega
      obtain ⟨b, o, rfl, hb, hX⟩ := HR.out (by omega)
      have h0 := hX.below HB.out hb (k * 3) (by omega)
      have hlen := idxs_len (betB X lo hi) k
      clear hX
      cases hp : betB X lo hi k
      · have hq : inB (X (k * 3)) lo hi = false := hp
        have HP := Lib.hid hp
        clear hp
        go_wp2_with (go_at_call 87; refine (in_s _ _ _ _).mono ?_; rintro e w' ⟨rfl, rfl⟩)
        go_roundw
        case rel => exact ⟨k + 1, by omega, by go_num, by rw [idxs_no HP.out]; exact hown.out, HB.out⟩
        case measure => simp [intOf]; omega
      · have hq : inB (X (k * 3)) lo hi = true := hp
        have HP := Lib.hid hp
        clear hp
        have hl1 : (idxs (betB X lo hi) k).length + 1 ≤ maxLen := by unfold maxLen; omega
        have hl2 : ((idxs (betB X lo hi) k).length + 1) * 8 ≤ 140737488355328 := by omega
        generalize hL : idxs (betB X lo hi) k = l at *
        have HL := Lib.hid hL
        clear hL
        go_wp2_with (first
          | (go_at_call 87; refine (in_s _ _ _ _).mono ?_; rintro e w' ⟨rfl, rfl⟩)
          | (at_builtin; refine wpList_append_own _ rfl _ _ 29 rfl w.heap.size 2 i0 (.int .i64 0) 1 8 Try.underlying29 hi0 hz0 hz1 hz2 rfl (by decide) _ _ _ rfl (hown.out.alloc _) ⟨wr.heap.size, 0, none⟩ 1 1 [.int .i64 k] rfl rfl ?c1 ?c2 hl1 hl2 ?c5 ?_))
        case c1 => intro j u hj; rcases j with _ | j <;> simp at hj; subst hj; go_simp
        case c2 => intro u hu; simp at hu; subst hu; rfl
        case c5 => simp; omega
        intro v' w1 hown1 hgrow1 _
        have g1 : Below w.heap.size w w1 := Below.grown (HB.out.alloc hzz _) hgrow1 (by simp; omega) (owns_block hown.out)
        have HO := Lib.hid (owns_snoc hown1)
        clear hown1 hgrow1
        go_wp2
        go_roundw
        case rel => exact ⟨k + 1, by omega, by go_num, by rw [idxs_yes HP.out, HL.out]; exact HO.out, g1⟩
        case measure => simp [intOf]; omega
    · obtain rfl : k = n := by omega
      obtain ⟨A', c', rfl, hc1, hc2, hrow⟩ := row_of_owns hown.out
      have HW := Lib.hid hrow
      clear hrow
      go_wp2
      go_ret2
      exact ⟨_, _, rfl, hc1, hc2, HW.out, HB.out⟩

set_option maxHeartbeats 2000000 in
theorem between_s_no (A : Option Addr) (n c : Nat) (X : Nat → Int) (lo hi code : Int) (w : World) (hn : n ≤ maxLen) (hr : Sl w A n 3 X)
    (hv : listB n X = false ∧ code = 1 ∨ listB n X = true ∧ inB lo 100 3000 = false ∧ code = 2 ∨ listB n X = true ∧ inB lo 100 3000 = true ∧ inB hi 100 3000 = false ∧ code = 2) :
    Calls Try.prog 31 #[.slice A n c, .int .i64 lo, .int .i64 hi] w (NumsCode w 2 [] code) := by
  have HR := Lib.hid hr
  clear hr
  rcases hv with ⟨hv, rfl⟩ | ⟨hv, h1, rfl⟩ | ⟨hv, h1, h2, rfl⟩
  all_goals
    go_enter Try.func31, Try.ntmps31
    go_wp2_with (first
      | (go_at_call 71; refine (ok_s A n c X _ hn HR.out).mono ?_; rintro e w' ⟨rfl, m, rfl⟩)
      | (go_at_call 86; refine (long_s _ _).mono ?_; rintro e w' ⟨rfl, rfl⟩))
    go_ret2
    exact ⟨none, 0, rfl, Nat.le_refl _, by unfold maxLen; omega, Row.none_, drewN_below (Below.refl _ _) _⟩

set_option maxHeartbeats 2000000 in
theorem between_i_no (A : Option Addr) (n c : Nat) (X : Nat → Int) (lo hi code : Int) (w : World) (hn : n ≤ maxLen) (hr : Sl w A n 3 X)
    (hv : listB n X = false ∧ code = 1 ∨ listB n X = true ∧ inB lo 100 3000 = false ∧ code = 2 ∨ listB n X = true ∧ inB lo 100 3000 = true ∧ inB hi 100 3000 = false ∧ code = 2) :
    Calls Try.prog 32 #[.slice A n c, .int .i64 lo, .int .i64 hi] w (NumsCode w 2 [] code) := by
  have HR := Lib.hid hr
  clear hr
  rcases hv with ⟨hv, rfl⟩ | ⟨hv, h1, rfl⟩ | ⟨hv, h1, h2, rfl⟩
  all_goals
    go_enter Try.func32, Try.ntmps32
    go_wp2_with (first
      | (go_at_call 18; refine (valid_i A n c X _ hn HR.out).mono ?_; rintro e w1 ⟨rfl, b1⟩)
      | (go_at_call 88; refine (in_i _ _ _ _).mono ?_; rintro e w' ⟨rfl, rfl⟩))
    go_ret2
    exact ⟨none, 0, rfl, Nat.le_refl _, by unfold maxLen; omega, Row.none_, b1⟩

set_option maxHeartbeats 2000000 in
theorem between_i (A : Option Addr) (n c : Nat) (X : Nat → Int) (lo hi : Int) (w : World) (hn : n ≤ maxLen) (hr : Sl w A n 3 X) (hv : listB n X = true) (h1 : inB lo 100 3000 = true) (h2 : inB hi 100 3000 = true) :
    Calls Try.prog 32 #[.slice A n c, .int .i64 lo, .int .i64 hi] w (NumsCode w 2 (idxs (betB X lo hi) n) 0) := by
  have hn20 := (listB_of hv).1
  have HR := Lib.hid hr
  clear hr
  obtain ⟨i0, hi0, hz0, hz1, hz2⟩ := info_parts info_num
  go_enter Try.func32, Try.ntmps32
  go_wp2_with (first
    | (go_at_call 18; refine (valid_i A n c X _ hn HR.out).mono ?_; rintro e w1 ⟨rfl, b1⟩)
    | (go_at_call 88; refine (in_i _ _ _ _).mono ?_; rintro e w' ⟨rfl, rfl⟩))
  have B1 := Lib.hid b1
  clear b1
  go_loopw [24, 8] (fun s v wr => ∃ k : Nat, k ≤ n ∧ s = .int .i64 k ∧ Hid (wr.ownsRow w.heap.size 2 1 v (idxs (betB X lo hi) k).length ((idxs (betB X lo hi) k).map (Value.int .i64))) ∧ Below w.heap.size w wr) (fun s _ _ => n - (intOf s).toNat)
  case atStart => exact ⟨0, by omega, rfl, owns_nil _ _ _, B1.out⟩
  case round =>
    rename_i v wr
    obtain ⟨k, hk, rfl, hown, hbl⟩ := hrel
    have HB := Lib.hid hbl
    have hzz := hbl.size
    clear hbl
    by_cases hlt : k < n
    · have hlt' : (k : Int) < (n : Int) := by omega
      obtain ⟨b, o, rfl, hb, hX⟩ := HR.out (by omega)
      have h0 := hX.below HB.out hb (k * 3) (by omega)
      have h0' := hX.below HB.out hb (k * 3 + 1) (by omega)
      have h0'' := hX.below HB.out hb (k * 3 + 2) (by omega)
      simp only [← Nat.add_assoc] at h0' h0''
      have hlen := idxs_len (betB X lo hi) k
      clear hX
      cases hp : betB X lo hi k
      · have hq : inB (X (k * 3)) lo hi = false := hp
        have HP := Lib.hid hp
        clear hp
        go_wp2_with (go_at_call 88; refine (in_i _ _ _ _).mono ?_; rintro e w' ⟨rfl, rfl⟩)
        go_roundw
        case rel => exact ⟨k + 1, by omega, by go_num, by rw [idxs_no HP.out]; exact hown.out.alloc _, HB.out.alloc hzz _⟩
        case measure => simp [intOf]; omega
      · have hq : inB (X (k * 3)) lo hi = true := hp
        have HP := Lib.hid hp
        clear hp
        have hl1 : (idxs (betB X lo hi) k).length + 1 ≤ maxLen := by unfold maxLen; omega
        have hl2 : ((idxs (betB X lo hi) k).length + 1) * 8 ≤ 140737488355328 := by omega
        generalize hL : idxs (betB X lo hi) k = l at *
        have HL := Lib.hid hL
        clear hL
        go_wp2_with (first
          | (go_at_call 88; refine (in_i _ _ _ _).mono ?_; rintro e w' ⟨rfl, rfl⟩)
          | (at_builtin; refine wpList_append_own _ rfl _ _ 29 rfl w.heap.size 2 i0 (.int .i64 0) 1 8 Try.underlying29 hi0 hz0 hz1 hz2 rfl (by decide) _ _ _ rfl ((hown.out.alloc _).alloc _) ⟨wr.heap.size + 1, 0, none⟩ 1 1 [.int .i64 k] rfl rfl ?c1 ?c2 hl1 hl2 ?c5 ?_))
        case c1 => intro j u hj; rcases j with _ | j <;> simp at hj; subst hj; go_simp
        case c2 => intro u hu; simp at hu; subst hu; rfl
        case c5 => simp; omega
        intro v' w1 hown1 hgrow1 _
        have g1 : Below w.heap.size w w1 := Below.grown ((HB.out.alloc hzz _).alloc (by simp; omega) _) hgrow1 (by simp; omega) (owns_block hown.out)
        have HO := Lib.hid (owns_snoc hown1)
        clear hown1 hgrow1
        go_wp2
        go_roundw
        case rel => exact ⟨k + 1, by omega, by go_num, by rw [idxs_yes HP.out, HL.out]; exact HO.out, g1⟩
        case measure => simp [intOf]; omega
    · obtain rfl : k = n := by omega
      obtain ⟨A', c', rfl, hc1, hc2, hrow⟩ := row_of_owns hown.out
      have HW := Lib.hid hrow
      clear hrow
      go_wp2
      go_ret2
      exact ⟨_, _, rfl, hc1, hc2, HW.out, HB.out⟩

end Go.Proofs.Ytcpaenmhnoagdab.rod
