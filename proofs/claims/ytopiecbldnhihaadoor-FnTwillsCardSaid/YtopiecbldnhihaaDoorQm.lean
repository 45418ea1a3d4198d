/-
  Twills: the draft of the other side, contracts of the model and of the program. No condition of a statement lies here.
-/
import Derived.Test.YtopiecbldnhihaaDoorQk
import Derived.Test.YtopiecbldnhihaaDoorQe
import Derived.Test.YtopiecbldnhihaaDoorQc
import Derived.Test.YtopiecbldnhihaaDoorHe
import Derived.Test.YtopiecbldnhihaaDoorClone
namespace Go.Proofs.YtopiecbldnhihaaDoor.twl
open Go.ChangeShapes Go.WideShapes Go.ChangeAt Go.RowKit Go.Deep Go.Proofs.YtopiecbldnhihaaDoor.mem Go.Proofs.YtopiecbldnhihaaDoor.rod Go.Proofs.YtopiecbldnhihaaDoor.nums Go.Proofs.YtopiecbldnhihaaDoor.shp Go.Proofs.YtopiecbldnhihaaDoor.wv Go.Proofs.YtopiecbldnhihaaDoor.wk
set_option linter.unusedVariables false
set_option maxRecDepth 100000

/-- the parts in the opposite order -/
def overL (X : Nat → Int) (n : Nat) : List Int := (List.range n).map fun j => X (n - 1 - j)
theorem overL_len (X : Nat → Int) (n : Nat) : (overL X n).length = n := by simp [overL]
theorem overL_at {X : Nat → Int} {n j : Nat} (h : j < n) : (overL X n).getD j 0 = X (n - 1 - j) := by
  unfold overL
  simp [List.getD, List.getElem?_map, List.getElem?_range h]
theorem over_list {X : Nat → Int} {n : Nat} (he : n % 2 = 0) (m : Nat) (hm : (rowB X n).size = m) : mkB (fun k => oth (byteU (rowB X n) (m - 1 - k))) m = rowB (fun j => X (n - 1 - j)) n := by
  subst hm
  unfold rowB at *
  rw [← row_over he]
  unfold mkB mkL
  congr 2
  have hz : (⟨(rowL X n).toArray⟩ : ByteArray).size = (rowL X n).length := by show (rowL X n).toArray.size = _; simp
  rw [hz]
  apply List.ext_getElem (by simp)
  intro i h1 h2
  have hi : i < (rowL X n).length := by simpa using h1
  rw [List.getElem_map, List.getElem_map, List.getElem_reverse, List.getElem_range]
  congr 1
  unfold byteU
  rw [dif_pos (by rw [hz]; omega)]
  rfl

set_option maxHeartbeats 1000000 in
theorem back_s_no (A : Option Addr) (n c : Nat) (X : Nat → Int) (st : Int) (w : World) (hn : n ≤ maxLen) (hr : Sl w A n 1 X) (hv : twB n X st = false) :
    Calls Tryd.prog 12 #[.agg #[.slice A n c, .int .i64 st]] w (fun e w' => ∃ A' c', e = .returned (.tuple #[.agg #[.slice A' (([] : List Int)).length c', .int .i64 (0)], .int .i64 1]) ∧ (([] : List Int)).length ≤ c' ∧ c' ≤ maxLen ∧ Row w' w.heap.size w'.heap.size A' (([] : List Int)).length 1 2 (fun j => (([] : List Int)).getD j 0) ∧ Below w.heap.size w w') := by
  have HR := Lib.hid hr
  clear hr
  go_enter Tryd.func12, Tryd.ntmps12
  go_wp2_with fail
  refine (okT_s A n c w.heap.size X st _ hn (HR.out.below (K := w.heap.size) (by go_grown) (Nat.le_refl _)) (by go_simp) (by go_simp)).mono ?_
  rintro e w1 ⟨rfl, hd⟩
  have z1 := hd.below.size
  simp at z1
  have q0 : w1.cell? ⟨w.heap.size + 1, 0, none⟩ = some (.slice none 0 0) := hd.cell (by go_simp)
  have q1 : w1.cell? ⟨w.heap.size + 1, 1, none⟩ = some (.int .i64 0) := hd.cell (by go_simp)
  have qf0 : w1.frozen? ⟨w.heap.size + 1, 0, none⟩ = false := by obtain ⟨m, rfl⟩ := hd; go_simp
  have qf1 : w1.frozen? ⟨w.heap.size + 1, 1, none⟩ = false := by obtain ⟨m, rfl⟩ := hd; go_simp
  have b1 : Below w.heap.size w w1 := by obtain ⟨m, rfl⟩ := hd; exact drewN_below (by go_grown) m
  clear hd
  rw [hv]
  go_wp2
  exact bodyPost_ret (v := .tuple #[.agg #[.slice none 0 0, .int .i64 0], .int .i64 1]) (by simp [results, Tryd.results12, go_sem, q0, q1]) rfl
    ⟨none, 0, rfl, Nat.le_refl _, by unfold maxLen; omega, Row.none_, Below.setCell (Below.setCell b1 (by simp) _) (by simp) _⟩

set_option maxHeartbeats 1000000 in
theorem back_i_no (A : Option Addr) (n c : Nat) (X : Nat → Int) (st : Int) (w : World) (hn : n ≤ maxLen) (hr : Sl w A n 1 X) (hv : twB n X st = false) :
    Calls Tryd.prog 11 #[.agg #[.slice A n c, .int .i64 st]] w (fun e w' => ∃ A' c', e = .returned (.tuple #[.agg #[.slice A' (([] : List Int)).length c', .int .i64 (0)], .int .i64 1]) ∧ (([] : List Int)).length ≤ c' ∧ c' ≤ maxLen ∧ Row w' w.heap.size w'.heap.size A' (([] : List Int)).length 1 2 (fun j => (([] : List Int)).getD j 0) ∧ Below w.heap.size w w') := by
  have HR := Lib.hid hr
  clear hr
  go_enter Tryd.func11, Tryd.ntmps11
  go_wp2_with fail
  refine (twval_i A n c X st _ hn (HR.out.below (K := w.heap.size) (by go_grown) (Nat.le_refl _))).mono ?_
  rintro e w1 ⟨rfl, hb⟩
  have z1 := hb.size
  simp at z1
  have q0 : w1.cell? ⟨w.heap.size + 1, 0, none⟩ = some (.slice none 0 0) := by rw [(bcell hb).1 _ _ (by first | (simp; done) | (simp; omega))]; go_simp
  have q1 : w1.cell? ⟨w.heap.size + 1, 1, none⟩ = some (.int .i64 0) := by rw [(bcell hb).1 _ _ (by first | (simp; done) | (simp; omega))]; go_simp
  have qf0 : w1.frozen? ⟨w.heap.size + 1, 0, none⟩ = false := by rw [(bcell hb).2 _ _ (by first | (simp; done) | (simp; omega))]; go_simp
  have qf1 : w1.frozen? ⟨w.heap.size + 1, 1, none⟩ = false := by rw [(bcell hb).2 _ _ (by first | (simp; done) | (simp; omega))]; go_simp
  have b1 : Below w.heap.size w w1 := Below.trans (by go_grown) (hb.mono (by simp; omega))
  clear hb
  rw [hv]
  go_wp2
  exact bodyPost_ret (v := .tuple #[.agg #[.slice none 0 0, .int .i64 0], .int .i64 1]) (by simp [results, Tryd.results11, go_sem, q0, q1]) rfl
    ⟨none, 0, rfl, Nat.le_refl _, by unfold maxLen; omega, Row.none_, Below.setCell (Below.setCell b1 (by simp) _) (by simp) _⟩

set_option maxHeartbeats 2000000 in
theorem back_i (A : Option Addr) (n c : Nat) (X : Nat → Int) (st : Int) (w : World) (hr : Sl w A n 1 X) (hv : twB n X st = true) :
    Calls Tryd.prog 11 #[.agg #[.slice A n c, .int .i64 st]] w (fun e w' => ∃ A' c', e = .returned (.tuple #[.agg #[.slice A' (overL X n).length c', .int .i64 (sumN X n - st)], .int .i64 0]) ∧ (overL X n).length ≤ c' ∧ c' ≤ maxLen ∧ Row w' w.heap.size w'.heap.size A' (overL X n).length 1 2 (fun j => (overL X n).getD j 0) ∧ Below w.heap.size w w') := by
  have T := twB_of hv
  have h12 := T.n12
  have n2 := T.n2
  have hw := T.wide
  have hs1 := T.st1
  have hs2 := T.st2
  have hn : n ≤ maxLen := by unfold maxLen; omega
  have HR := Lib.hid hr
  obtain ⟨b0, o0, rfl, hb0, hI⟩ := hr (by omega)
  have HI := Lib.hid hI
  have HW := Lib.hid (fun W (hw : Below w.heap.size w W) => width_i (some ⟨b0, o0, none⟩) n c X st W h12 T.part (HR.out.below hw (Nat.le_refl _)))
  have hwr : IntKind.i64.wrap (sumN X n - st) = sumN X n - st := by rw [IntKind.wrap_i64]; omega
  generalize sumN X n = S at *
  clear hr hI
  go_enter Tryd.func11, Tryd.ntmps11
  go_wp2_with fail
  refine (twval_i _ n c X st _ hn (HR.out.below (K := w.heap.size) (by go_grown) (Nat.le_refl _))).mono ?_
  rintro e w1 ⟨rfl, hb⟩
  have z1 := hb.size
  simp at z1
  have p0 : w1.cell? ⟨w.heap.size, 0, none⟩ = some (.slice (some ⟨b0, o0, none⟩) n c) := by rw [(bcell hb).1 _ _ (by first | (simp; done) | (simp; omega))]; go_simp
  have p1 : w1.cell? ⟨w.heap.size, 1, none⟩ = some (.int .i64 st) := by rw [(bcell hb).1 _ _ (by first | (simp; done) | (simp; omega))]; go_simp
  have q0 : w1.cell? ⟨w.heap.size + 1, 0, none⟩ = some (.slice none 0 0) := by rw [(bcell hb).1 _ _ (by first | (simp; done) | (simp; omega))]; go_simp
  have q1 : w1.cell? ⟨w.heap.size + 1, 1, none⟩ = some (.int .i64 0) := by rw [(bcell hb).1 _ _ (by first | (simp; done) | (simp; omega))]; go_simp
  have qf0 : w1.frozen? ⟨w.heap.size + 1, 0, none⟩ = false := by rw [(bcell hb).2 _ _ (by first | (simp; done) | (simp; omega))]; go_simp
  have qf1 : w1.frozen? ⟨w.heap.size + 1, 1, none⟩ = false := by rw [(bcell hb).2 _ _ (by first | (simp; done) | (simp; omega))]; go_simp
  have b1 : Below w.heap.size w w1 := Below.trans (by go_grown) (hb.mono (by simp; omega))
  clear hb
  rw [hv]
  go_wp2_with fail
  refine (clone_i b0 o0 n c X _ (by omega) (by omega) (HI.out.below (K := w.heap.size) b1 hb0)).mono ?_
  rintro e w2 ⟨A2, c2, rfl, k2, m2, row2, hb⟩
  have z2 := hb.size
  obtain ⟨g, rfl, g0, g1, ho⟩ := row2 (by omega)
  rw [Nat.mul_one] at ho
  replace p0 := (hb.cell (p := ⟨w.heap.size, 0, none⟩) (by show w.heap.size < _; omega)).trans p0
  replace p1 := (hb.cell (p := ⟨w.heap.size, 1, none⟩) (by show w.heap.size < _; omega)).trans p1
  replace q0 := (hb.cell (p := ⟨w.heap.size + 1, 0, none⟩) (by show w.heap.size + 1 < _; omega)).trans q0
  replace q1 := (hb.cell (p := ⟨w.heap.size + 1, 1, none⟩) (by show w.heap.size + 1 < _; omega)).trans q1
  replace qf0 := ((bcell hb).2 (w.heap.size + 1) 0 (by omega)).trans qf0
  replace qf1 := ((bcell hb).2 (w.heap.size + 1) 1 (by omega)).trans qf1
  have b2 : Below w.heap.size w w2 := b1.trans (hb.mono (by omega))
  have HO := Lib.hid ho
  clear hb row2 ho
  go_wp2_with fail
  refine (reverse_i g n c2 X _ (by omega) h12 HO.out).mono ?_
  rintro e w3 ⟨rfl, ho, hwr3⟩
  have z3 := hwr3.size
  replace p0 := (hwr3.cell (b := w.heap.size) (o := 0) (by omega) (by omega)).trans p0
  replace p1 := (hwr3.cell (b := w.heap.size) (o := 1) (by omega) (by omega)).trans p1
  replace q0 := (hwr3.cell (b := w.heap.size + 1) (o := 0) (by omega) (by omega)).trans q0
  replace q1 := (hwr3.cell (b := w.heap.size + 1) (o := 1) (by omega) (by omega)).trans q1
  have hfz : ∀ j, w3.frozen? ⟨w.heap.size + 1, j, none⟩ = w2.frozen? ⟨w.heap.size + 1, j, none⟩ := fun j => by
    have e := hwr3.block (w.heap.size + 1) (by omega) (by omega)
    unfold World.frozen?
    simp only [e]
  replace qf0 := (hfz 0).trans qf0
  replace qf1 := (hfz 1).trans qf1
  have b3 : Below w.heap.size w w3 := b2.trans (hwr3.below (by omega) (by omega))
  have HO3 := Lib.hid ho
  clear hwr3 ho HO hfz
  go_wp2_with fail
  go_region_held3 (fun x => x.cell? ⟨w.heap.size, 0, none⟩ = some (.slice (some ⟨b0, o0, none⟩) n c) ∧ x.cell? ⟨w.heap.size, 1, none⟩ = some (.int .i64 st)) (first | exact ⟨p0, p1⟩ | go_keep)
    (first
      | (go_at_call 42; refine (HW.out _ b3.drew).mono ?_; rintro e w4 ⟨rfl, hb⟩
         have z4 := hb.size
         try simp at z4
         have s4 : Below w3.heap.size w3 w4 := Below.trans (Below.drew (Below.refl _ _)) (hb.mono (by first | omega | (simp; done)))
         have b4 : Below w.heap.size w w4 := b3.trans (s4.mono (by omega))
         replace p0 := (s4.cell (p := ⟨w.heap.size, 0, none⟩) (by show w.heap.size < _; omega)).trans p0
         replace p1 := (s4.cell (p := ⟨w.heap.size, 1, none⟩) (by show w.heap.size < _; omega)).trans p1
         replace q0 := (s4.cell (p := ⟨w.heap.size + 1, 0, none⟩) (by show w.heap.size + 1 < _; omega)).trans q0
         replace q1 := (s4.cell (p := ⟨w.heap.size + 1, 1, none⟩) (by show w.heap.size + 1 < _; omega)).trans q1
         replace qf0 := ((bcell s4).2 (w.heap.size + 1) 0 (by omega)).trans qf0
         replace qf1 := ((bcell s4).2 (w.heap.size + 1) 1 (by omega)).trans qf1
         have HO4 := Lib.hid (HO3.out.below s4 (by omega))
         clear hb s4))
  go_wp2
  refine bodyPost_ret (v := .tuple #[.agg #[.slice (some ⟨g, 0, none⟩) n c2, .int .i64 (S - st)], .int .i64 0]) (by simp [results, Tryd.results11, go_sem, q0, q1]) rfl
    ⟨some ⟨g, 0, none⟩, c2, by rw [overL_len], by rw [overL_len]; exact k2, m2, ?_, Below.setCell (Below.setCell (by first | exact b4 | exact b4.drew) (by simp) _) (by simp) _⟩
  rw [overL_len]
  have hO5 := HO4.out.congr (Y := fun j => (overL X n).getD j 0) fun j hj => (overL_at hj).symm
  intro _
  rw [Nat.mul_one]
  exact ⟨g, rfl, by omega, by simp; omega, (hO5.setOther (by simp; omega) _).setOther (by simp; omega) _⟩

set_option maxHeartbeats 4000000 in
theorem back_s (A : Option Addr) (n c : Nat) (X : Nat → Int) (st : Int) (w : World) (hr : Sl w A n 1 X) (hv : twB n X st = true) :
    Calls Tryd.prog 12 #[.agg #[.slice A n c, .int .i64 st]] w (fun e w' => ∃ A' c', e = .returned (.tuple #[.agg #[.slice A' (overL X n).length c', .int .i64 (sumN X n - st)], .int .i64 0]) ∧ (overL X n).length ≤ c' ∧ c' ≤ maxLen ∧ Row w' w.heap.size w'.heap.size A' (overL X n).length 1 2 (fun j => (overL X n).getD j 0) ∧ Below w.heap.size w w') := by
  have T := twB_of hv
  have h12 := T.n12
  have n2 := T.n2
  have hw := T.wide
  have hw2 := T.wide2
  have hs1 := T.st1
  have hs2 := T.st2
  have hn : n ≤ maxLen := by unfold maxLen; omega
  have hz : ((rowB X n).size : Int) = sumN X n := by rw [rowB_size, rowL_len T.part]
  obtain ⟨i0, hi0, hz0, hz1, hz2⟩ := info_parts (show (Tryd.prog.info? 5).map (fun i => (i.zero, i.size, i.bytes)) = some (some (.int .u8 0), 1, 1) by kernel_rfl)
  have HR := Lib.hid hr
  obtain ⟨m, hm⟩ : ∃ m, (rowB X n).size = m := ⟨_, rfl⟩
  have HOV := Lib.hid (over_list (X := X) T.even m hm)
  have hX' : ∀ k, k < n → 1 ≤ X (n - 1 - k) ∧ X (n - 1 - k) ≤ 12 := fun k hk => T.part _ (by omega)
  have HFI := Lib.hid (first_row (X := fun j => X (n - 1 - j)) hX' n2 T.even)
  have HRL := Lib.hid (show rle (rowB (fun j => X (n - 1 - j)) n) (rowB (fun j => X (n - 1 - j)) n).size = overL X n from rle_rowB hX')
  have hz' : (rowB (fun j => X (n - 1 - j)) n).size = m := by rw [← HOV.out, mkB_size]
  have HRO := Lib.hid (fun W (hw : Below w.heap.size w W) p0 => row_s A n c w.heap.size X W h12 T.part (HR.out.below hw (Nat.le_refl _)) p0)
  have HWI := Lib.hid (fun W (hw : Below w.heap.size w W) p0 => width_s A n c w.heap.size X W h12 T.part (HR.out.below hw (Nat.le_refl _)) p0)
  have HLT := Lib.hid (fun (c : UInt8) (hc : c ∈ rowL X n) => rowL_mem hc)
  have hlet : ∀ i, i < m → byteU (rowB X n) i = 70 ∨ byteU (rowB X n) i = 66 := fun i hi => by
    refine HLT.out _ ?_
    unfold byteU
    rw [dif_pos (by omega)]
    have hz2 := rowB_size X n
    have : (rowB X n)[i]'(by omega) = (rowL X n)[i]'(by omega) := rfl
    rw [this]
    exact List.getElem_mem _
  have HLE := Lib.hid hlet
  have hwr : IntKind.i64.wrap (sumN X n - st) = sumN X n - st := by rw [IntKind.wrap_i64]; omega
  have hm12 : m ≤ 12 := by omega
  have hm2 : 2 ≤ m := by omega
  have HTB := Lib.hid (fun W (hs : (rowB (fun j => X (n - 1 - j)) n).size ≤ 12) (h0 : 0 < (rowB (fun j => X (n - 1 - j)) n).size) => turn_yes (rowB (fun j => X (n - 1 - j)) n) 0 HFI.out W h0 hs)
  rw [tB_zero] at HTB
  have HDR := Lib.hid (fun st W (hs : (rowB (fun j => X (n - 1 - j)) n).size ≤ 12) => draft_s (rowB (fun j => X (n - 1 - j)) n) st W hs)
  rw [HRL.out] at HDR
  obtain ⟨g, hg⟩ : ∃ g, g = fun k => oth (byteU (rowB X n) (m - 1 - k)) := ⟨_, rfl⟩
  rw [← hg] at HOV
  have HG := Lib.hid (fun k => congrFun hg k)
  clear hg hX' hlet hz HRL HLT HFI
  generalize rowB (fun j => X (n - 1 - j)) n = R' at *
  have hBY := Lib.hid (fun k (hk : k < (rowB X n).size) => (show (((rowB X n)[k]'hk).toNat : Int) = ((byteU (rowB X n) k).toNat : Int) by unfold byteU; rw [dif_pos hk]))
  generalize rowB X n = R at *
  generalize sumN X n = S at *
  clear hr
  go_enter Tryd.func12, Tryd.ntmps12
  go_wp2_with fail
  refine (okT_s A n c w.heap.size X st _ hn (HR.out.below (K := w.heap.size) (by go_grown) (Nat.le_refl _)) (by go_simp) (by go_simp)).mono ?_
  rintro e w1 ⟨rfl, hd⟩
  have z1 := hd.below.size
  simp at z1
  have p0 : w1.cell? ⟨w.heap.size, 0, none⟩ = some (.slice A n c) := hd.cell (by go_simp)
  have p1 : w1.cell? ⟨w.heap.size, 1, none⟩ = some (.int .i64 st) := hd.cell (by go_simp)
  have q0 : w1.cell? ⟨w.heap.size + 1, 0, none⟩ = some (.slice none 0 0) := hd.cell (by go_simp)
  have q1 : w1.cell? ⟨w.heap.size + 1, 1, none⟩ = some (.int .i64 0) := hd.cell (by go_simp)
  have qf0 : w1.frozen? ⟨w.heap.size + 1, 0, none⟩ = false := by obtain ⟨m, rfl⟩ := hd; go_simp
  have qf1 : w1.frozen? ⟨w.heap.size + 1, 1, none⟩ = false := by obtain ⟨m, rfl⟩ := hd; go_simp
  have b1 : Below w.heap.size w w1 := by obtain ⟨m, rfl⟩ := hd; exact drewN_below (by go_grown) m
  clear hd
  rw [hv]
  go_wp2_with fail
  refine (HRO.out _ b1 p0).mono ?_
  rintro e w' ⟨rfl, rfl⟩
  have hw0 : IntKind.i64.wrap ((m : Int) - 1) = (m : Int) - 1 := by rw [IntKind.wrap_i64]; omega
  have HB1 := Lib.hid b1
  have K1 := Lib.hid (⟨p0, p1, q0, q1, qf0, qf1⟩ : w1.cell? ⟨w.heap.size, 0, none⟩ = some (.slice A n c) ∧ w1.cell? ⟨w.heap.size, 1, none⟩ = some (.int .i64 st) ∧ w1.cell? ⟨w.heap.size + 1, 0, none⟩ = some (.slice none 0 0) ∧ w1.cell? ⟨w.heap.size + 1, 1, none⟩ = some (.int .i64 0) ∧ w1.frozen? ⟨w.heap.size + 1, 0, none⟩ = false ∧ w1.frozen? ⟨w.heap.size + 1, 1, none⟩ = false)
  clear b1 p0 p1 q0 q1 qf0 qf1
  go_wp2_with fail
  go_loopw [5, 6] (fun v i wr => ∃ (k : Nat) (z : Int), k ≤ m ∧ z = (m : Int) - 1 - (k : Int) ∧ i = .int .i64 z ∧ Hid (wr.ownsRow w1.heap.size 5 1 v k ((mkL g k).map bv)) ∧ Below w1.heap.size w1 wr) (fun _ i _ => (intOf i + 1).toNat)
  case atStart => exact ⟨0, (m : Int) - 1, by omega, by omega, rfl, ownsB_empty w1 _ _ (Nat.le_refl _), by go_grown⟩
  case round =>
    obtain ⟨k, z, hk, hz, rfl, hown, hbl⟩ := hrel
    have HB := Lib.hid hbl
    have hzz := hbl.size
    clear hbl hw0
    by_cases hlt : k < m
    · obtain ⟨r, hr⟩ : ∃ r : Nat, r = m - 1 - k := ⟨_, rfl⟩
      obtain rfl : z = (r : Int) := by omega
      have HRK := Lib.hid hr
      have hrR' : r < R.size := by omega
      have hr0 : (0 : Int) ≤ (r : Int) := by omega
      have hr1 : (r : Int) < (R.size : Int) := by omega
      have hr2 : (r : Int) < (m : Int) := by omega
      have hw0 : IntKind.i64.wrap ((r : Int) - 1) = (r : Int) - 1 := by rw [IntKind.wrap_i64]; omega
      have hl1 : k + 1 ≤ maxLen := by unfold maxLen; omega
      have hl2 : (k + 1) * 1 ≤ 140737488355328 := by omega
      have hkm := hlt
      clear hz hr hlt
      rcases HLE.out r (by omega) with hb | hb
      · have e1 : (((R[r]'hrR').toNat : Int) == 70) = true := by rw [hBY.out r hrR', hb]; rfl
        have HGK := Lib.hid (show g k = 66 by rw [HG.out k, ← HRK.out, hb]; rfl)
        clear hb
        go_wp2_with (at_builtin; refine wpList_append_own _ rfl _ _ 22 rfl w1.heap.size 5 i0 (.int .u8 0) 1 1 Tryd.underlying22 hi0 hz0 hz1 hz2 rfl (by decide) _ _ _ rfl (hown.out.alloc _) ⟨wr.heap.size, 0, none⟩ 1 1 [bv 66] rfl rfl ?c1 ?c2 hl1 hl2 ?c5 ?_)
        case c1 => intro j u hj; rcases j with _ | j <;> simp at hj; subst hj; go_simp; rfl
        case c2 => intro u hu; simp at hu; subst hu; rfl
        case c5 => first | (simp; done) | (simp; omega)
        intro v' w2 hown2 hgrow2 _
        have g2 : Below w1.heap.size w1 w2 := Below.grown (HB.out.alloc hzz _) hgrow2 (by simp; omega) (owns_block hown.out)
        have HO := Lib.hid (ownsB_snoc hown2)
        rw [← HGK.out, ← mkL_succ] at HO
        clear hown2 hgrow2
        go_wp2
        go_roundw
        case rel => exact ⟨k + 1, (r : Int) - 1, by omega, by have := HRK.out; omega, by go_num, HO, g2⟩
        case measure => first | (simp [intOf]; done) | (simp [intOf]; omega)
      · have e1 : (((R[r]'hrR').toNat : Int) == 70) = false := by rw [hBY.out r hrR', hb]; rfl
        have HGK := Lib.hid (show g k = 70 by rw [HG.out k, ← HRK.out, hb]; rfl)
        clear hb
        go_wp2_with (at_builtin; refine wpList_append_own _ rfl _ _ 22 rfl w1.heap.size 5 i0 (.int .u8 0) 1 1 Tryd.underlying22 hi0 hz0 hz1 hz2 rfl (by decide) _ _ _ rfl (hown.out.alloc _) ⟨wr.heap.size, 0, none⟩ 1 1 [bv 70] rfl rfl ?c1 ?c2 hl1 hl2 ?c5 ?_)
        case c1 => intro j u hj; rcases j with _ | j <;> simp at hj; subst hj; go_simp; rfl
        case c2 => intro u hu; simp at hu; subst hu; rfl
        case c5 => first | (simp; done) | (simp; omega)
        intro v' w2 hown2 hgrow2 _
        have g2 : Below w1.heap.size w1 w2 := Below.grown (HB.out.alloc hzz _) hgrow2 (by simp; omega) (owns_block hown.out)
        have HO := Lib.hid (ownsB_snoc hown2)
        rw [← HGK.out, ← mkL_succ] at HO
        clear hown2 hgrow2
        go_wp2
        go_roundw
        case rel => exact ⟨k + 1, (r : Int) - 1, by omega, by have := HRK.out; omega, by go_num, HO, g2⟩
        case measure => first | (simp [intOf]; done) | (simp [intOf]; omega)
    · obtain rfl : k = m := by omega
      obtain rfl : z = -1 := by omega
      obtain ⟨p0, p1, q0, q1, qf0, qf1⟩ := K1.out
      have hcv : (convert 22 9 u5).run Tryd.prog wr = .ok (.string R') wr := by rw [← HOV.out]; exact str_of_owns (P := Tryd.prog) 22 9 5 Tryd.underlying22 Tryd.underlying5 Tryd.underlying9 (mkL g k) hown.out
      have hzw : w.heap.size + 1 < w1.heap.size := by omega
      replace p0 := (HB.out.cell (p := ⟨w.heap.size, 0, none⟩) (by show w.heap.size < _; omega)).trans p0
      replace p1 := (HB.out.cell (p := ⟨w.heap.size, 1, none⟩) (by show w.heap.size < _; omega)).trans p1
      replace q0 := (HB.out.cell (p := ⟨w.heap.size + 1, 0, none⟩) (by show w.heap.size + 1 < _; omega)).trans q0
      replace q1 := (HB.out.cell (p := ⟨w.heap.size + 1, 1, none⟩) (by show w.heap.size + 1 < _; omega)).trans q1
      replace qf0 := ((bcell HB.out).2 (w.heap.size + 1) 0 (by omega)).trans qf0
      replace qf1 := ((bcell HB.out).2 (w.heap.size + 1) 1 (by omega)).trans qf1
      have b1 : Below w.heap.size w wr := HB1.out.trans (HB.out.mono (by omega))
      clear hz hlt hk
      go_wp2_with fail
      refine (HTB.out _ (by omega) (by omega)).mono ?_
      rintro e w2 ⟨rfl, hd⟩
      have z2 := hd.below.size
      replace p0 := hd.cell p0
      replace p1 := hd.cell p1
      replace q0 := hd.cell q0
      replace q1 := hd.cell q1
      replace qf0 : w2.frozen? ⟨w.heap.size + 1, 0, none⟩ = false := by obtain ⟨x, rfl⟩ := hd; exact qf0
      replace qf1 : w2.frozen? ⟨w.heap.size + 1, 1, none⟩ = false := by obtain ⟨x, rfl⟩ := hd; exact qf1
      have b2 : Below w.heap.size w w2 := b1.trans (hd.below.mono b1.size)
      clear hd b1 hown HB
      go_wp2_with fail
      go_region_held3 (fun x => x.cell? ⟨w.heap.size, 0, none⟩ = some (.slice A n c) ∧ x.cell? ⟨w.heap.size, 1, none⟩ = some (.int .i64 st)) (first | exact ⟨p0, p1⟩ | go_keep)
        (first
          | (go_at_call 45; refine (HWI.out _ b2.drew p0).mono ?_; rintro e w' ⟨rfl, rfl⟩)
          | (go_at_call 44; refine (HDR.out (S - st) _ (by omega)).mono ?_; rintro e w3 ⟨A3, c3, rfl, k3, m3, row3, hb⟩
             have z3 := hb.size
             try simp at z3
             have s3 : Below w2.heap.size w2 w3 := Below.trans (Below.drew (Below.refl _ _)) (hb.mono (by first | omega | (simp; done)))
             have b3 : Below w.heap.size w w3 := b2.trans (s3.mono (by omega))
             replace p0 := (s3.cell (p := ⟨w.heap.size, 0, none⟩) (by show w.heap.size < _; omega)).trans p0
             replace p1 := (s3.cell (p := ⟨w.heap.size, 1, none⟩) (by show w.heap.size < _; omega)).trans p1
             replace q0 := (s3.cell (p := ⟨w.heap.size + 1, 0, none⟩) (by show w.heap.size + 1 < _; omega)).trans q0
             replace q1 := (s3.cell (p := ⟨w.heap.size + 1, 1, none⟩) (by show w.heap.size + 1 < _; omega)).trans q1
             replace qf0 := ((bcell s3).2 (w.heap.size + 1) 0 (by omega)).trans qf0
             replace qf1 := ((bcell s3).2 (w.heap.size + 1) 1 (by omega)).trans qf1
             have R3 := Lib.hid (row3.wide (lo' := w2.heap.size) (by simp) (Nat.le_refl _))
             clear hb s3 row3))
      go_wp2
      generalize overL X n = l at *
      refine bodyPost_ret (v := .tuple #[.agg #[.slice A3 l.length c3, .int .i64 (S - st)], .int .i64 0]) (by simp [results, Tryd.results12, go_sem, q0, q1]) rfl
        ⟨A3, c3, rfl, k3, m3, ?_, Below.setCell (Below.setCell (by first | exact b3 | exact b3.drew) (by simp) _) (by simp) _⟩
      intro hn0
      obtain ⟨g3, e3, a1, a2, ho⟩ := R3.out hn0
      exact ⟨g3, e3, by omega, by simp; omega, (ho.setOther (by simp; omega) _).setOther (by simp; omega) _⟩

end Go.Proofs.YtopiecbldnhihaaDoor.twl
