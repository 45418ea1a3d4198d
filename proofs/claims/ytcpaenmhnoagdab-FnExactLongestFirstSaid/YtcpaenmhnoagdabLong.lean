/-
  The rods by descending lengths: the program's contract.
-/
import Derived.Test.YtcpaenmhnoagdabLongI
import Derived.Test.YtcpaenmhnoagdabIdx
namespace Go.Proofs.Ytcpaenmhnoagdab.rod
open Go.ChangeShapes Go.WideShapes Go.ChangeAt Go.RowKit Go.Proofs.Ytcpaenmhnoagdab.mem Go.Proofs.Ytcpaenmhnoagdab.nums
set_option linter.unusedVariables false

noncomputable def siT : TypeInfo := (Try.prog.info? 29).get (by kernel_rfl)
theorem siK0 (n : Nat) (h1 : n ≤ 1) : Lib.swapperK n siI 6 = n + 1 := by
  rcases Nat.eq_zero_or_pos n with h | h
  · subst h; simp [Lib.swapperK]
  · obtain rfl : n = 1 := by omega
    simp [Lib.swapperK]

/-- the library's sort over the order, as the call lays it -/
theorem sort_c {A : Option Addr} {Bs Bl g c2 n : Nat} {X : Nat → Int} {L : Nat → Int} {W : World} (hn : n ≤ 20) (hL : ∀ x, L x = X (x * 3)) (hs : W.cell? ⟨Bs, 0, none⟩ = some (.slice (some ⟨g, 0, none⟩) n n)) (hl : W.cell? ⟨Bl, 0, none⟩ = some (.slice A n c2))
    (h1 : Bs ≠ g) (h2 : Bl ≠ g) (h3 : Bs < W.heap.size) (h4 : Bl < W.heap.size) (hA : 0 < n → ∃ b o, A = some ⟨b, o, none⟩ ∧ b < g ∧ Ints W b o (n * 3) X) (h : Own W g 2 n (fun j => if j < n then (j : Int) else 0)) :
    Calls Try.prog 82 #[.iface 29 (.slice (some ⟨g, 0, none⟩) n n), .func (.func 83) #[] #[.pointer (some ⟨Bs, 0, none⟩), .pointer (some ⟨Bl, 0, none⟩)]] W fun e w' =>
      e = .returned (.tuple #[]) ∧ Own w' g 2 n (fun j => (soI L n).getD j 0) ∧ w'.cell? ⟨Bs, 0, none⟩ = some (.slice (some ⟨g, 0, none⟩) n n) ∧ Below g W w' := by
  have hg := h.lt
  by_cases hn2 : 2 ≤ n
  · haveI : Inhabited (Fin n) := ⟨⟨0, by omega⟩⟩
    have hless := less_reads (L := L) hL hs hl h1 h2 h3 h4 hA h
    have hS := Any.sort_Slice_sorted Try.laysGg6 29 2 siT siI (by kernel_rfl) (by kernel_rfl) (by kernel_rfl) (by kernel_rfl) 6 (fun _ => by kernel_rfl) (by kernel_rfl) (fun _ => by kernel_rfl) encF (fun _ => rfl) (fun x y : Fin n => bfr L x.val y.val) (swo_bfr L n) 83 _
      (enters_of Try.func83 (by kernel_rfl) rfl) g 0 n (allF n) (by rw [allF_size]; exact hn2) (by rw [allF_size]; omega) 147 (by rw [allF_size, siK _ hn2]; kernel_rfl) true
      (fun args W => run_callFunc_extern Try.func147 (by kernel_rfl) (by kernel_rfl) (by kernel_rfl) (e := Extern.ReflectliteSwapper.swap true) (by kernel_rfl) args W) W hless (holds_all h) hg
    rw [allF_size] at hS
    refine Calls.mono (P := Try.prog) hS ?_
    rintro e w' ⟨he, d', nn, os, hp, hso, rfl⟩
    obtain ⟨hsz, hd⟩ := order_of (L := L) (by rw [allF_size]; exact hp) (by rw [allF_size]; exact hso)
    exact ⟨he, own_sorted encF d' os _ h hsz hd, cell_sorted _ _ _ h1 hg hs h3, below_sorted _ _ _ (Nat.le_refl _) (by omega)⟩
  · have hS := Any.sort_Slice_tiny Try.laysGg6 29 2 siT siI (by kernel_rfl) (by kernel_rfl) (by kernel_rfl) (by kernel_rfl) 6 (fun _ => by kernel_rfl) (some ⟨g, 0, none⟩) n n (by omega) (143 + n) (by
      rw [siK0 n (by omega)]
      rcases Nat.eq_zero_or_pos n with h | h
      · subst h; kernel_rfl
      · obtain rfl : n = 1 := by omega
        kernel_rfl) (.func 83) #[] #[.pointer (some ⟨Bs, 0, none⟩), .pointer (some ⟨Bl, 0, none⟩)] W
    refine Calls.mono (P := Try.prog) hS ?_
    rintro e w' ⟨he, os, rfl⟩
    refine ⟨he, (h.of_block (Go.Sort.heap_grow_old _ _ hg)).congr (fun j hj => ?_), by rw [Go.Sort.cell?_grow _ _ _ h3]; exact hs, ⟨rfl, rfl, rfl, by simp, fun k hk => Go.Sort.heap_grow_old _ _ (by omega)⟩⟩
    obtain rfl : n = 1 := by omega
    obtain rfl : j = 0 := by omega
    rfl

set_option maxHeartbeats 4000000 in
theorem longest_i (A : Option Addr) (n c : Nat) (X : Nat → Int) (w : World) (hv : listB n X = true) (h : Sl w A n 3 X) :
    Calls Try.prog 28 #[.slice A n c] w (NumsCode w 2 (soI (fun x => X (x * 3)) n) 0) := by
  obtain ⟨n20, hall⟩ := listB_of hv
  have hn : n ≤ maxLen := by unfold maxLen; omega
  have HV := Lib.hid hv
  have HR := Lib.hid h
  clear h hv hall
  generalize hL : (fun x : Nat => X (x * 3)) = L
  have HL : Hid (∀ x, L x = X (x * 3)) := fun x => by rw [← hL]
  clear hL
  go_enter Try.func28, Try.ntmps28
  go_wp2_with fail
  refine (valid_i A n c X _ hn (Sl.below HR.out (K := w.heap.size) (by go_grown) (Nat.le_refl _))).mono ?_
  rintro e w1 ⟨rfl, hb1⟩
  rw [HV.out]
  have z1 := hb1.size
  simp at z1
  have c0 : w1.cell? ⟨w.heap.size, 0, none⟩ = some (.slice A n c) := by rw [hb1.cell (p := ⟨w.heap.size, 0, none⟩) (by simp)]; go_simp
  have g1 : Below w.heap.size w w1 := Below.trans (by go_grown) (hb1.mono (by simp))
  have HG1 := Lib.hid g1
  clear hb1 g1
  go_wp2_with fail
  refine (indices_c n _ (by omega)).mono ?_
  rintro e w2 ⟨g, rfl, hgg, ho, hb2⟩
  have z2 := hb2.size
  have hgl := ho.lt
  have c0' : w2.cell? ⟨w.heap.size, 0, none⟩ = some (.slice A n c) := (hb2.cell (p := ⟨w.heap.size, 0, none⟩) (show w.heap.size < w1.heap.size by omega)).trans c0
  have HB2 := Lib.hid (HG1.out.trans (hb2.mono (by omega)))
  have HO := Lib.hid (Own.congr (Y := fun j => if j < n then (j : Int) else 0) ho (fun j hj => by rw [if_pos hj]))
  clear hb2 ho c0
  have hS : ∀ x : Obj, Calls Try.prog 82 #[.iface 29 (.slice (some ⟨g, 0, none⟩) n n), .func (.func 83) #[] #[.pointer (some ⟨w2.heap.size, 0, none⟩), .pointer (some ⟨w.heap.size, 0, none⟩)]] (w2.alloc (Obj.cells #[.slice (some ⟨g, 0, none⟩) n n] 29)) fun e w' => e = .returned (.tuple #[]) ∧ Own w' g 2 n (fun j => (soI L n).getD j 0) ∧ w'.cell? ⟨w2.heap.size, 0, none⟩ = some (.slice (some ⟨g, 0, none⟩) n n) ∧ Below g (w2.alloc (Obj.cells #[.slice (some ⟨g, 0, none⟩) n n] 29)) w' := fun _ =>
    sort_c (Bs := w2.heap.size) (Bl := w.heap.size) (L := L) n20 HL.out (by go_simp) ((Below.cell (B := w2.heap.size) (p := ⟨w.heap.size, 0, none⟩) (by go_grown) (show w.heap.size < w2.heap.size by omega)).trans c0') (by omega) (by omega) (by simp) (by simp; omega) (fun hk0 => by
      obtain ⟨b, o, e, hb, hX⟩ := HR.out hk0
      exact ⟨b, o, e, by omega, (hX.below HB2.out hb).below (K := w2.heap.size) (by go_grown) (by omega)⟩) (HO.out.alloc _)
  have HS := Lib.hid (hS (Obj.cells #[] 2))
  clear hS
  go_wp2_with (go_at_call 82; refine HS.out.mono ?_; rintro e w5 ⟨rfl, ho5, c5, hb5⟩; have HO5 := Lib.hid ho5; have z5 := hb5.size; have HB5 := Lib.hid (HB2.out.trans (Below.trans (B := w.heap.size) (by go_grown) (hb5.mono (by omega)))); clear ho5 hb5)
  go_ret2
  have hl := soI_len (L := L) n
  have ho := HO5.out
  have hlt5 := ho.lt
  exact ⟨some ⟨g, 0, none⟩, n, by rw [hl]; rfl, by omega, by omega, by rw [hl]; exact fun _ => ⟨_, rfl, by omega, by omega, by rw [Nat.mul_one]; exact ho⟩, HB5.out⟩

set_option maxHeartbeats 1000000 in
theorem longest_s_no (A : Option Addr) (n c : Nat) (X : Nat → Int) (w : World) (hn : n ≤ maxLen) (hv : listB n X = false) (h : Sl w A n 3 X) :
    Calls Try.prog 27 #[.slice A n c] w (NumsCode w 2 [] 1) := by
  have HR := Lib.hid h
  clear h
  go_enter Try.func27, Try.ntmps27
  go_wp2_with (go_at_call 71; refine (ok_s A n c X _ hn HR.out).mono ?_; rintro e w' ⟨rfl, q1, rfl⟩; rw [hv])
  go_ret2
  exact ⟨none, 0, rfl, Nat.le_refl _, by unfold maxLen; omega, Row.none_, drewN_below (Below.refl _ _) _⟩
set_option maxHeartbeats 1000000 in
theorem longest_i_no (A : Option Addr) (n c : Nat) (X : Nat → Int) (w : World) (hn : n ≤ maxLen) (hv : listB n X = false) (h : Sl w A n 3 X) :
    Calls Try.prog 28 #[.slice A n c] w (NumsCode w 2 [] 1) := by
  have HR := Lib.hid h
  clear h
  go_enter Try.func28, Try.ntmps28
  go_wp2_with fail
  refine (valid_i A n c X _ hn (Sl.below HR.out (K := w.heap.size) (by go_grown) (Nat.le_refl _))).mono ?_
  rintro e w1 ⟨rfl, hb1⟩
  rw [hv]
  have g1 : Below w.heap.size w w1 := Below.trans (by go_grown) (hb1.mono (by simp))
  clear hb1
  go_wp2
  go_ret2
  exact ⟨none, 0, rfl, Nat.le_refl _, by unfold maxLen; omega, Row.none_, g1⟩

end Go.Proofs.Ytcpaenmhnoagdab.rod
