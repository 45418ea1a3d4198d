/-
  The rods by descending lengths: the program's contract.
-/
import Derived.Test.YtobohjfenjeckaaLongI
namespace Go.Proofs.Ytobohjfenjeckaa.rod
open Go.ChangeShapes Go.WideShapes Go.ChangeAt Go.RowKit Go.Proofs.Ytobohjfenjeckaa.mem Go.Proofs.Ytobohjfenjeckaa.nums
set_option linter.unusedVariables false

noncomputable def siT : TypeInfo := (Try.prog.info? 48).get (by kernel_rfl)
theorem siK0 (n : Nat) (h1 : n ≤ 1) : Lib.swapperK n siI 6 = n + 1 := by
  rcases Nat.eq_zero_or_pos n with h | h
  · subst h; simp [Lib.swapperK]
  · obtain rfl : n = 1 := by omega
    simp [Lib.swapperK]

/-- the library's sort over the order, as the call lays it -/
theorem sort_c {A : Option Addr} {Bs Bl g c2 n : Nat} {X : Nat → Int} {L : Nat → Int} {W : World} (hn : n ≤ 20) (hL : ∀ x, L x = X (x * 3)) (hs : W.cell? ⟨Bs, 0, none⟩ = some (.slice (some ⟨g, 0, none⟩) n n)) (hl : W.cell? ⟨Bl, 0, none⟩ = some (.slice A n c2))
    (h1 : Bs ≠ g) (h2 : Bl ≠ g) (h3 : Bs < W.heap.size) (h4 : Bl < W.heap.size) (hA : 0 < n → ∃ b o, A = some ⟨b, o, none⟩ ∧ b < g ∧ Ints W b o (n * 3) X) (h : Own W g 2 n (fun j => if j < n then (j : Int) else 0)) :
    Calls Try.prog 78 #[.iface 48 (.slice (some ⟨g, 0, none⟩) n n), .func (.func 79) #[] #[.pointer (some ⟨Bs, 0, none⟩), .pointer (some ⟨Bl, 0, none⟩)]] W fun e w' =>
      e = .returned (.tuple #[]) ∧ Own w' g 2 n (fun j => (soI L n).getD j 0) ∧ w'.cell? ⟨Bs, 0, none⟩ = some (.slice (some ⟨g, 0, none⟩) n n) ∧ Below g W w' := by
  have hg := h.lt
  by_cases hn2 : 2 ≤ n
  · haveI : Inhabited (Fin n) := ⟨⟨0, by omega⟩⟩
    have hless := less_reads (L := L) hL hs hl h1 h2 h3 h4 hA h
    have hS := Any.sort_Slice_sorted Try.laysGg6 48 2 siT siI (by kernel_rfl) (by kernel_rfl) (by kernel_rfl) (by kernel_rfl) 6 (fun _ => by kernel_rfl) (by kernel_rfl) (fun _ => by kernel_rfl) encF (fun _ => rfl) (fun x y : Fin n => bfr L x.val y.val) (swo_bfr L n) 79 _
      (enters_of Try.func79 (by kernel_rfl) rfl) g 0 n (allF n) (by rw [allF_size]; exact hn2) (by rw [allF_size]; omega) 103 (by rw [allF_size, siK _ hn2]; kernel_rfl) true
      (fun args W => run_callFunc_extern Try.func103 (by kernel_rfl) (by kernel_rfl) (by kernel_rfl) (e := Extern.ReflectliteSwapper.swap true) (by kernel_rfl) args W) W hless (holds_all h) hg
    rw [allF_size] at hS
    refine Calls.mono (P := Try.prog) hS ?_
    rintro e w' ⟨he, d', nn, os, hp, hso, rfl⟩
    obtain ⟨hsz, hd⟩ := order_of (L := L) (by rw [allF_size]; exact hp) (by rw [allF_size]; exact hso)
    exact ⟨he, own_sorted encF d' os _ h hsz hd, cell_sorted _ _ _ h1 hg hs h3, below_sorted _ _ _ (Nat.le_refl _) (by omega)⟩
  · have hS := Any.sort_Slice_tiny Try.laysGg6 48 2 siT siI (by kernel_rfl) (by kernel_rfl) (by kernel_rfl) (by kernel_rfl) 6 (fun _ => by kernel_rfl) (some ⟨g, 0, none⟩) n n (by omega) (99 + n) (by
      rw [siK0 n (by omega)]
      rcases Nat.eq_zero_or_pos n with h | h
      · subst h; kernel_rfl
      · obtain rfl : n = 1 := by omega
        kernel_rfl) (.func 79) #[] #[.pointer (some ⟨Bs, 0, none⟩), .pointer (some ⟨Bl, 0, none⟩)] W
    refine Calls.mono (P := Try.prog) hS ?_
    rintro e w' ⟨he, os, rfl⟩
    refine ⟨he, (h.of_block (Go.Sort.heap_grow_old _ _ hg)).congr (fun j hj => ?_), by rw [Go.Sort.cell?_grow _ _ _ h3]; exact hs, ⟨rfl, rfl, rfl, by simp, fun k hk => Go.Sort.heap_grow_old _ _ (by omega)⟩⟩
    obtain rfl : n = 1 := by omega
    obtain rfl : j = 0 := by omega
    rfl

set_option maxHeartbeats 4000000 in
theorem longest_i (A : Option Addr) (n c : Nat) (X : Nat → Int) (w : World) (hv : listB n X = true) (h : Sl w A n 3 X) :
    Calls Try.prog 43 #[.slice A n c] w (NumsCode w 2 (soI (fun x => X (x * 3)) n) 0) := by
  obtain ⟨n20, hall⟩ := listB_of hv
  have hn : n ≤ maxLen := by unfold maxLen; omega
  have HV := Lib.hid hv
  have HR := Lib.hid h
  clear h hv hall
  generalize hL : (fun x : Nat => X (x * 3)) = L
  have HL : Hid (∀ x, L x = X (x * 3)) := fun x => by rw [← hL]
  clear hL
  have hmk := run_make_rows (P := Try.prog) 48 2 _ 1 8 Try.underlying48 info_num .i64 .i64 n (by omega) (by omega)
  go_enter Try.func43, Try.ntmps43
  go_wp2_with fail
  refine (valid_i A n c X _ hn (Sl.below HR.out (K := w.heap.size) (by go_grown) (Nat.le_refl _))).mono ?_
  rintro e w1 ⟨rfl, hb1⟩
  rw [HV.out]
  have z1 := hb1.size
  simp at z1
  have c0 : w1.cell? ⟨w.heap.size, 0, none⟩ = some (.slice A n c) := by rw [hb1.cell (p := ⟨w.heap.size, 0, none⟩) (by simp)]; go_simp
  have g1 : Below w.heap.size w w1 := Below.trans (by go_grown) (hb1.mono (by simp))
  have HG1 := Lib.hid g1
  clear hb1 g1
  go_wp2_with fail
  have hO : Own (w1.alloc (Obj.cells (madeCells #[Value.int IntKind.i64 0] n) 2)) w1.heap.size 2 n (fun _ => 0) :=
    own_made _ _ _ _ _ (fun i hi => by match i, hi with | 0, _ => rfl) (by simp) (by omega)
  have HO := Lib.hid hO
  clear hO hmk
  go_loopw [14] (fun s wr => ∃ k : Nat, k ≤ n ∧ s = .int .i64 k ∧ Hid (Own wr w1.heap.size 2 n (fun j => if j < k then (j : Int) else 0)) ∧ wr.cell? ⟨w.heap.size, 0, none⟩ = some (.slice A n c) ∧ wr.cell? ⟨w1.heap.size + 1, 0, none⟩ = some (.slice (some ⟨w1.heap.size, 0, none⟩) n n) ∧ w1.heap.size + 2 ≤ wr.heap.size ∧ Below w.heap.size w wr) (fun s _ => n - (intOf s).toNat)
  case atStart => exact ⟨0, by omega, rfl, (HO.out.alloc _).congr (fun j _ => by simp), (Below.cell (B := w1.heap.size) (p := ⟨w.heap.size, 0, none⟩) (by go_grown) (by show w.heap.size < w1.heap.size; omega)).trans c0, by go_simp, by simp, by go_grown; first | exact HG1.out | omega⟩
  case round =>
    obtain ⟨k, hk, rfl, hown, b0, b1, hz2, hbl⟩ := hrel
    have HB := Lib.hid hbl
    clear hbl
    by_cases hlt : k < n
    · have hlt' : (k : Int) < (n : Int) := by omega
      have ck := hown.out.cell hlt
      have fk := hown.out.frozen k
      have hW : WroteIn wr (wr.setCell ⟨w1.heap.size, k, none⟩ (.int .i64 (k : Int))) w1.heap.size (w1.heap.size + 1) := WroteIn.set (WroteIn.refl _ _ _) (Nat.le_refl _) (by omega) _
      have n0 := (hW.cell (b := w.heap.size) (o := 0) (by omega) (by omega)).trans b0
      have n1 := (hW.cell (b := w1.heap.size + 1) (o := 0) (by omega) (by omega)).trans b1
      have ns := hW.size
      have HN0 := Lib.hid n0
      have HN1 := Lib.hid n1
      have HNB := Lib.hid (HB.out.trans (hW.below (B := w.heap.size) (by omega) (by omega)))
      clear hW n0 n1
      go_wp2
      go_roundw
      case rel =>
        refine ⟨k + 1, by omega, by go_num, (hown.out.set k (k : Int)).congr (fun j hj => ?_), HN0.out, HN1.out, by omega, HNB.out⟩
        by_cases e0 : j = k
        · subst e0; simp
        · simp only [e0, if_false]
          by_cases e3 : j < k
          · rw [if_pos e3, if_pos (by omega)]
          · rw [if_neg e3, if_neg (by omega)]
      case measure => simp [intOf]; omega
    · obtain rfl : k = n := by omega
      have hS := sort_c (Bs := w1.heap.size + 1) (Bl := w.heap.size) (L := L) n20 HL.out b1 b0 (by omega) (by omega) (by omega) (by omega) (fun hk0 => by
        obtain ⟨b, o, e, hb, hX⟩ := HR.out hk0
        exact ⟨b, o, e, by omega, hX.below HB.out hb⟩) hown.out
      have HS := Lib.hid hS
      clear hS
      go_wp2_with (go_at_call 78; refine HS.out.mono ?_; rintro e w5 ⟨rfl, ho5, c5, hb5⟩; have HO5 := Lib.hid ho5; have z5 := hb5.size; have HB5 := Lib.hid (HB.out.trans (hb5.mono (by omega))); clear ho5 hb5)
      go_ret2
      have hl := soI_len (L := L) k
      have ho := HO5.out
      have hlt5 := ho.lt
      exact ⟨some ⟨w1.heap.size, 0, none⟩, k, by rw [hl]; rfl, by omega, by omega, by rw [hl]; exact fun _ => ⟨_, rfl, by omega, by omega, by rw [Nat.mul_one]; exact ho⟩, HB5.out⟩

set_option maxHeartbeats 1000000 in
theorem longest_i_no (A : Option Addr) (n c : Nat) (X : Nat → Int) (w : World) (hn : n ≤ maxLen) (hv : listB n X = false) (h : Sl w A n 3 X) :
    Calls Try.prog 43 #[.slice A n c] w (NumsCode w 2 [] 1) := by
  have HR := Lib.hid h
  clear h
  go_enter Try.func43, Try.ntmps43
  go_wp2_with fail
  refine (valid_i A n c X _ hn (Sl.below HR.out (K := w.heap.size) (by go_grown) (Nat.le_refl _))).mono ?_
  rintro e w1 ⟨rfl, hb1⟩
  rw [hv]
  have g1 : Below w.heap.size w w1 := Below.trans (by go_grown) (hb1.mono (by simp))
  clear hb1
  go_wp2
  go_ret2
  exact ⟨none, 0, rfl, Nat.le_refl _, by unfold maxLen; omega, Row.none_, g1⟩

end Go.Proofs.Ytobohjfenjeckaa.rod
