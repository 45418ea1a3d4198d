/-
  Twills: the share of a face in front, contracts of the model and of the program. No condition of a statement lies here.
-/
import Derived.Test.YtakcgeafcecimaaQh
namespace Go.Proofs.Ytakcgeafcecimaa.twl
open Go.ChangeShapes Go.WideShapes Go.ChangeAt Go.RowKit Go.Deep Go.Proofs.Ytakcgeafcecimaa.mem Go.Proofs.Ytakcgeafcecimaa.rod Go.Proofs.Ytakcgeafcecimaa.nums Go.Proofs.Ytakcgeafcecimaa.shp Go.Proofs.Ytakcgeafcecimaa.wv Go.Proofs.Ytakcgeafcecimaa.wk
set_option linter.unusedVariables false
set_option maxRecDepth 100000

/-- how many of the first k letters are F -/
def cntF (s : ByteArray) : Nat → Nat
  | 0 => 0
  | k + 1 => cntF s k + if byteAt s k = 70 then 1 else 0
theorem cntF_le (s : ByteArray) (k : Nat) : cntF s k ≤ k := by
  induction k with
  | zero => exact Nat.le_refl _
  | succ k ih => simp only [cntF]; split <;> omega
theorem cntF_list (s : ByteArray) : ∀ k, k ≤ s.size → (s.data.toList.take k).count 70 = cntF s k
  | 0, _ => by simp [cntF]
  | k + 1, h => by
    have ih := cntF_list s k (by omega)
    have hk : k < s.data.toList.length := by simpa using (show k < s.size by omega)
    rw [List.take_succ_eq_append_getElem hk, List.count_append, ih]
    have e : s.data.toList[k]'hk = s[k]'(by omega) := by simp [ByteArray.getElem_eq_getElem_data]
    rw [e]
    simp only [cntF]
    rw [byteAt_eq (show k < s.size by omega)]
    by_cases h70 : s[k]'(by omega) = 70
    · rw [h70]; simp
    · have : ¬ ((s[k]'(by omega)).toNat : Int) = 70 := fun q => h70 (UInt8.toNat_inj.1 (by show _ = 70; omega))
      rw [if_neg this]
      simp [h70]
theorem cntF_count (s : ByteArray) : Lib.countByte s.data.toList 70 = cntF s s.size := by
  rw [← cntF_list s s.size (Nat.le_refl _)]
  unfold Lib.countByte
  rw [List.take_of_length_le (by simp)]

set_option maxHeartbeats 1000000 in
theorem front_s (s : ByteArray) (w : World) (hs : s.size ≤ 12) :
    Calls Try.prog 64 #[.string s] w fun e w' => e = .returned (.int .i64 (cntF s s.size : Nat)) ∧ w = w' := by
  go_enter Try.func64, Try.ntmps64
  go_wp2_with fail
  go_loop [3, 4] (fun t i => ∃ k : Nat, k ≤ s.size ∧ i = .int .i64 (k : Int) ∧ t = .int .i64 (cntF s k : Nat)) (fun _ i => s.size - (intOf i).toNat)
  case atStart => exact ⟨0, by omega, rfl, rfl⟩
  case round =>
    obtain ⟨k, hk, rfl, rfl⟩ := hrel
    by_cases hlt : k < s.size
    · have hlt' : (k : Int) < (s.size : Int) := by omega
      have hk0 : (0 : Int) ≤ (k : Int) := by omega
      have hle := cntF_le s k
      by_cases h70 : byteAt s k = 70
      · have HN := Lib.hid (show cntF s (k + 1) = cntF s k + 1 by simp only [cntF, if_pos h70])
        rw [byteAt_eq hlt] at h70
        have e1 : (((s[k]'hlt).toNat : Int) == 70) = true := by rw [h70]; rfl
        clear h70
        generalize cntF s k = C at *
        go_wp2
        go_round
        case rel => exact ⟨k + 1, by omega, by go_num, by rw [HN.out]; go_num⟩
        case measure => simp [intOf]; omega
      · have HN := Lib.hid (show cntF s (k + 1) = cntF s k by simp only [cntF, if_neg h70]; rfl)
        rw [byteAt_eq hlt] at h70
        have e1 : (((s[k]'hlt).toNat : Int) == 70) = false := by simpa using h70
        clear h70
        go_wp2
        go_round
        case rel => exact ⟨k + 1, by omega, by go_num, by rw [HN.out]⟩
        case measure => simp [intOf]; omega
    · obtain rfl : k = s.size := by omega
      go_wp2
      go_ret
      exact ⟨rfl, rfl⟩

set_option maxHeartbeats 1000000 in
theorem share_s_no (A : Option Addr) (n c : Nat) (X : Nat → Int) (st : Int) (w : World) (hn : n ≤ maxLen) (hr : Sl w A n 1 X) (hv : twB n X st = false) :
    Calls Try.prog 29 #[.agg #[.slice A n c, .int .i64 st]] w fun e w' => e = .returned (.tuple #[.agg #[.int .i64 0, .int .i64 0], .int .i64 1]) ∧ Below w.heap.size w w' := by
  have HR := Lib.hid hr
  clear hr
  go_enter Try.func29, Try.ntmps29
  go_wp2_with fail
  refine (okT_s A n c w.heap.size X st _ hn (HR.out.below (K := w.heap.size) (by go_grown) (Nat.le_refl _)) (by go_simp) (by go_simp)).mono ?_
  rintro e w1 ⟨rfl, hd⟩
  have z1 := hd.below.size
  simp at z1
  have q0 : w1.cell? ⟨w.heap.size + 1, 0, none⟩ = some (.int .i64 0) := hd.cell (by go_simp)
  have q1 : w1.cell? ⟨w.heap.size + 1, 1, none⟩ = some (.int .i64 0) := hd.cell (by go_simp)
  have qf0 : w1.frozen? ⟨w.heap.size + 1, 0, none⟩ = false := by obtain ⟨m, rfl⟩ := hd; go_simp
  have qf1 : w1.frozen? ⟨w.heap.size + 1, 1, none⟩ = false := by obtain ⟨m, rfl⟩ := hd; go_simp
  have b1 : Below w.heap.size w w1 := by obtain ⟨m, rfl⟩ := hd; exact drewN_below (by go_grown) m
  clear hd
  rw [hv]
  go_wp2
  exact bodyPost_ret (v := .tuple #[.agg #[.int .i64 0, .int .i64 0], .int .i64 1]) (by simp [results, Try.results29, go_sem, q0, q1]) rfl
    ⟨rfl, Below.setCell (Below.setCell b1 (by simp) _) (by simp) _⟩

set_option maxHeartbeats 1000000 in
theorem share_i_no (A : Option Addr) (n c : Nat) (X : Nat → Int) (st : Int) (w : World) (hn : n ≤ maxLen) (hr : Sl w A n 1 X) (hv : twB n X st = false) :
    Calls Try.prog 30 #[.agg #[.slice A n c, .int .i64 st]] w fun e w' => e = .returned (.tuple #[.agg #[.int .i64 0, .int .i64 0], .int .i64 1]) ∧ Below w.heap.size w w' := by
  have HR := Lib.hid hr
  clear hr
  go_enter Try.func30, Try.ntmps30
  go_wp2_with fail
  refine (twval_i A n c X st _ hn (HR.out.below (K := w.heap.size) (by go_grown) (Nat.le_refl _))).mono ?_
  rintro e w1 ⟨rfl, hb⟩
  have z1 := hb.size
  simp at z1
  have q0 : w1.cell? ⟨w.heap.size + 1, 0, none⟩ = some (.int .i64 0) := by rw [(bcell hb).1 _ _ (by simp)]; go_simp
  have q1 : w1.cell? ⟨w.heap.size + 1, 1, none⟩ = some (.int .i64 0) := by rw [(bcell hb).1 _ _ (by simp)]; go_simp
  have qf0 : w1.frozen? ⟨w.heap.size + 1, 0, none⟩ = false := by rw [(bcell hb).2 _ _ (by simp)]; go_simp
  have qf1 : w1.frozen? ⟨w.heap.size + 1, 1, none⟩ = false := by rw [(bcell hb).2 _ _ (by simp)]; go_simp
  have b1 : Below w.heap.size w w1 := Below.trans (by go_grown) (hb.mono (by simp; omega))
  clear hb
  rw [hv]
  go_wp2
  exact bodyPost_ret (v := .tuple #[.agg #[.int .i64 0, .int .i64 0], .int .i64 1]) (by simp [results, Try.results30, go_sem, q0, q1]) rfl
    ⟨rfl, Below.setCell (Below.setCell b1 (by simp) _) (by simp) _⟩

set_option maxHeartbeats 1000000 in
theorem share_s (A : Option Addr) (n c : Nat) (X : Nat → Int) (st : Int) (w : World) (hr : Sl w A n 1 X) (hv : twB n X st = true) :
    Calls Try.prog 29 #[.agg #[.slice A n c, .int .i64 st]] w fun e w' => e = .returned (.tuple #[.agg #[.int .i64 ((cntF (rowB X n) (rowB X n).size : Nat) / gcdI (cntF (rowB X n) (rowB X n).size : Nat) (sumN X n)), .int .i64 (sumN X n / gcdI (cntF (rowB X n) (rowB X n).size : Nat) (sumN X n))], .int .i64 0]) ∧ Below w.heap.size w w' := by
  have T := twB_of hv
  have hz := row_size T
  have h12 := T.n12
  have hw := T.wide
  have hw2 := T.wide2
  have hn : n ≤ maxLen := by unfold maxLen; omega
  have hc := cntF_le (rowB X n) (rowB X n).size
  have HR := Lib.hid hr
  have HM := Lib.hid (fun W => make_s (cntF (rowB X n) (rowB X n).size : Nat) (sumN X n) (by omega) (by omega) (by omega) (by omega) W)
  have HF := Lib.hid (fun W => front_s (rowB X n) W (by omega))
  have HO := Lib.hid (fun W (hw : Below w.heap.size w W) p0 => row_s A n c w.heap.size X W h12 T.part (HR.out.below hw (Nat.le_refl _)) p0)
  generalize cntF (rowB X n) (rowB X n).size = C at *
  generalize rowB X n = R at *
  generalize (C : Int) / gcdI (C : Int) (sumN X n) = u at *
  generalize sumN X n / gcdI (C : Int) (sumN X n) = v at *
  clear hr
  go_enter Try.func29, Try.ntmps29
  go_wp2_with fail
  refine (okT_s A n c w.heap.size X st _ hn (HR.out.below (K := w.heap.size) (by go_grown) (Nat.le_refl _)) (by go_simp) (by go_simp)).mono ?_
  rintro e w1 ⟨rfl, hd⟩
  have z1 := hd.below.size
  simp at z1
  have p0 : w1.cell? ⟨w.heap.size, 0, none⟩ = some (.slice A n c) := hd.cell (by go_simp)
  have q0 : w1.cell? ⟨w.heap.size + 1, 0, none⟩ = some (.int .i64 0) := hd.cell (by go_simp)
  have q1 : w1.cell? ⟨w.heap.size + 1, 1, none⟩ = some (.int .i64 0) := hd.cell (by go_simp)
  have qf0 : w1.frozen? ⟨w.heap.size + 1, 0, none⟩ = false := by obtain ⟨m, rfl⟩ := hd; go_simp
  have qf1 : w1.frozen? ⟨w.heap.size + 1, 1, none⟩ = false := by obtain ⟨m, rfl⟩ := hd; go_simp
  have b1 : Below w.heap.size w w1 := by obtain ⟨m, rfl⟩ := hd; exact drewN_below (by go_grown) m
  clear hd
  rw [hv]
  go_wp2_with fail
  refine (HO.out _ b1 p0).mono ?_
  rintro e w' ⟨rfl, rfl⟩
  go_wp2_with fail
  refine (HF.out _).mono ?_
  rintro e w' ⟨rfl, rfl⟩
  go_wp2_with fail
  refine (HM.out _).mono ?_
  rintro e w2 ⟨rfl, hb⟩
  replace q0 := (hb.cell (p := ⟨w.heap.size + 1, 0, none⟩) (by show w.heap.size + 1 < _; omega)).trans q0
  replace q1 := (hb.cell (p := ⟨w.heap.size + 1, 1, none⟩) (by show w.heap.size + 1 < _; omega)).trans q1
  replace qf0 := ((bcell hb).2 (w.heap.size + 1) 0 (by omega)).trans qf0
  replace qf1 := ((bcell hb).2 (w.heap.size + 1) 1 (by omega)).trans qf1
  have b2 : Below w.heap.size w w2 := b1.trans (hb.mono (by omega))
  clear hb b1
  go_wp2
  exact bodyPost_ret (v := .tuple #[.agg #[.int .i64 u, .int .i64 v], .int .i64 0]) (by simp [results, Try.results29, go_sem, q0, q1]) rfl
    ⟨rfl, Below.setCell (Below.setCell b2 (by simp) _) (by simp) _⟩

set_option maxHeartbeats 2000000 in
theorem share_i (A : Option Addr) (n c : Nat) (X : Nat → Int) (st : Int) (w : World) (hr : Sl w A n 1 X) (hv : twB n X st = true) :
    Calls Try.prog 30 #[.agg #[.slice A n c, .int .i64 st]] w fun e w' => e = .returned (.tuple #[.agg #[.int .i64 ((cntF (rowB X n) (rowB X n).size : Nat) / gcdI (cntF (rowB X n) (rowB X n).size : Nat) (sumN X n)), .int .i64 (sumN X n / gcdI (cntF (rowB X n) (rowB X n).size : Nat) (sumN X n))], .int .i64 0]) ∧ Below w.heap.size w w' := by
  have T := twB_of hv
  have hz := row_size T
  have h12 := T.n12
  have hw := T.wide
  have hw2 := T.wide2
  have hn : n ≤ maxLen := by unfold maxLen; omega
  have hc := cntF_le (rowB X n) (rowB X n).size
  have HR := Lib.hid hr
  have HM := Lib.hid (fun W => lowest_i (cntF (rowB X n) (rowB X n).size : Nat) (sumN X n) (by omega) (by omega) (by omega) (by omega) W)
  have HF := Lib.hid (fun W => Any.strings_Count_one Try.lays138 (rowB X n) 70 W)
  rw [cntF_count] at HF
  have HW := Lib.hid (fun W (hw : Below w.heap.size w W) => width_i A n c X st W h12 T.part (HR.out.below hw (Nat.le_refl _)))
  have HO := Lib.hid (fun W (hw : Below w.heap.size w W) => row_i A n c X st W h12 T.part (HR.out.below hw (Nat.le_refl _)))
  generalize cntF (rowB X n) (rowB X n).size = C at *
  clear hr
  go_enter Try.func30, Try.ntmps30
  go_wp2_with fail
  refine (twval_i A n c X st _ hn (HR.out.below (K := w.heap.size) (by go_grown) (Nat.le_refl _))).mono ?_
  rintro e w1 ⟨rfl, hb⟩
  have z1 := hb.size
  simp at z1
  have p0 : w1.cell? ⟨w.heap.size, 0, none⟩ = some (.slice A n c) := by rw [(bcell hb).1 _ _ (by first | (simp; done) | (simp; omega))]; go_simp
  have p1 : w1.cell? ⟨w.heap.size, 1, none⟩ = some (.int .i64 st) := by rw [(bcell hb).1 _ _ (by first | (simp; done) | (simp; omega))]; go_simp
  have q0 : w1.cell? ⟨w.heap.size + 1, 0, none⟩ = some (.int .i64 0) := by rw [(bcell hb).1 _ _ (by simp)]; go_simp
  have q1 : w1.cell? ⟨w.heap.size + 1, 1, none⟩ = some (.int .i64 0) := by rw [(bcell hb).1 _ _ (by simp)]; go_simp
  have qf0 : w1.frozen? ⟨w.heap.size + 1, 0, none⟩ = false := by rw [(bcell hb).2 _ _ (by simp)]; go_simp
  have qf1 : w1.frozen? ⟨w.heap.size + 1, 1, none⟩ = false := by rw [(bcell hb).2 _ _ (by simp)]; go_simp
  have b1 : Below w.heap.size w w1 := Below.trans (by go_grown) (hb.mono (by simp; omega))
  clear hb
  rw [hv]
  go_wp2_with fail
  go_region_held3 (fun x => x.cell? ⟨w.heap.size, 0, none⟩ = some (.slice A n c) ∧ x.cell? ⟨w.heap.size, 1, none⟩ = some (.int .i64 st)) (first | exact ⟨p0, p1⟩ | go_keep)
    (first
      | (go_at_call 53; refine (HO.out _ b1.drew).mono ?_; rintro e w2 ⟨rfl, hb⟩
         have z2 := hb.size
         try simp at z2
         have b2 : Below w.heap.size w w2 := b1.trans ((Below.drew (Below.refl _ _)).trans (hb.mono (by first | omega | (simp; omega))) |>.mono (by omega))
         have s2 : Below w1.heap.size w1 w2 := Below.trans (Below.drew (Below.refl _ _)) (hb.mono (by first | omega | (simp; done)))
         replace p0 := (s2.cell (p := ⟨w.heap.size, 0, none⟩) (by show w.heap.size < _; omega)).trans p0
         replace p1 := (s2.cell (p := ⟨w.heap.size, 1, none⟩) (by show w.heap.size < _; omega)).trans p1
         replace q0 := (s2.cell (p := ⟨w.heap.size + 1, 0, none⟩) (by show w.heap.size + 1 < _; omega)).trans q0
         replace q1 := (s2.cell (p := ⟨w.heap.size + 1, 1, none⟩) (by show w.heap.size + 1 < _; omega)).trans q1
         replace qf0 := ((bcell s2).2 (w.heap.size + 1) 0 (by omega)).trans qf0
         replace qf1 := ((bcell s2).2 (w.heap.size + 1) 1 (by omega)).trans qf1
         clear hb s2)
      | (go_at_call 66; refine (HF.out _).mono ?_; rintro e w' ⟨rfl, rfl⟩)
      | (go_at_call 44; refine (HW.out _ b2).mono ?_; rintro e w3 ⟨rfl, hb⟩
         have z3 := hb.size
         have b3 : Below w.heap.size w w3 := b2.trans (hb.mono (by omega))
         replace p0 := (hb.cell (p := ⟨w.heap.size, 0, none⟩) (by show w.heap.size < _; omega)).trans p0
         replace p1 := (hb.cell (p := ⟨w.heap.size, 1, none⟩) (by show w.heap.size < _; omega)).trans p1
         replace q0 := (hb.cell (p := ⟨w.heap.size + 1, 0, none⟩) (by show w.heap.size + 1 < _; omega)).trans q0
         replace q1 := (hb.cell (p := ⟨w.heap.size + 1, 1, none⟩) (by show w.heap.size + 1 < _; omega)).trans q1
         replace qf0 := ((bcell hb).2 (w.heap.size + 1) 0 (by omega)).trans qf0
         replace qf1 := ((bcell hb).2 (w.heap.size + 1) 1 (by omega)).trans qf1
         clear hb)
      | (go_at_call 65; refine (HM.out _).mono ?_; rintro e w4 ⟨rfl, hb⟩
         have z4 := hb.size
         have b4 : Below w.heap.size w w4 := b3.trans (hb.mono (by omega))
         replace p0 := (hb.cell (p := ⟨w.heap.size, 0, none⟩) (by show w.heap.size < _; omega)).trans p0
         replace p1 := (hb.cell (p := ⟨w.heap.size, 1, none⟩) (by show w.heap.size < _; omega)).trans p1
         replace q0 := (hb.cell (p := ⟨w.heap.size + 1, 0, none⟩) (by show w.heap.size + 1 < _; omega)).trans q0
         replace q1 := (hb.cell (p := ⟨w.heap.size + 1, 1, none⟩) (by show w.heap.size + 1 < _; omega)).trans q1
         replace qf0 := ((bcell hb).2 (w.heap.size + 1) 0 (by omega)).trans qf0
         replace qf1 := ((bcell hb).2 (w.heap.size + 1) 1 (by omega)).trans qf1
         clear hb))
  go_wp2
  exact bodyPost_ret (v := .tuple #[.agg #[.int .i64 ((C : Int) / gcdI (C : Int) (sumN X n)), .int .i64 (sumN X n / gcdI (C : Int) (sumN X n))], .int .i64 0]) (by simp [results, Try.results30, go_sem, q0, q1]) rfl
    ⟨rfl, Below.setCell (Below.setCell b4 (by simp) _) (by simp) _⟩

end Go.Proofs.Ytakcgeafcecimaa.twl
