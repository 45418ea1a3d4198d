/-
  The first place of a row, and its runs, of the program. No condition of a statement lies here.
-/
import Derived.Test.YtakcgeafcecimaaDoorQk
import Derived.Test.YtakcgeafcecimaaDoorShelfM
import Derived.Test.YtakcgeafcecimaaDoorOpen
import Derived.Lib.IndexLaws
import Derived.Shelf.Strings.Search3
namespace Go.Proofs.YtakcgeafcecimaaDoor.twl
open Go.ChangeShapes Go.WideShapes Go.ChangeAt Go.RowKit Go.Deep Go.Proofs.YtakcgeafcecimaaDoor.mem Go.Proofs.YtakcgeafcecimaaDoor.rod Go.Proofs.YtakcgeafcecimaaDoor.nums Go.Proofs.YtakcgeafcecimaaDoor.shp Go.Proofs.YtakcgeafcecimaaDoor.wv Go.Proofs.YtakcgeafcecimaaDoor.wk
set_option linter.unusedVariables false
set_option maxRecDepth 100000

/-- the library's variable MaxLen holds a whole number -/
def MaxAt (w : World) : Prop := ∃ m, w.cell? ⟨0, 0, none⟩ = some (.int .i64 m)
theorem maxAt_below {w w' : World} (h : MaxAt w) (hb : Below w.heap.size w w') : MaxAt w' := by
  obtain ⟨m, hm⟩ := h
  refine ⟨m, (hb.cell (p := ⟨_, 0, none⟩) ?_).trans hm⟩
  exact lt_of_cell hm
/-- the last letter, then the row -/
def ringB (s : ByteArray) : ByteArray := s.extract (s.size - 1) s.size ++ s
theorem ringB_size {s : ByteArray} (h : 1 ≤ s.size) : (ringB s).size = s.size + 1 := by
  unfold ringB
  rw [ByteArray.size_append, extract_size s (by omega) (Nat.le_refl _)]
  omega
theorem ringB_at {s : ByteArray} {i : Nat} (h : 1 ≤ s.size) (hi : i < s.size) : byteAt (ringB s) i = byteAt s ((i + s.size - 1) % s.size) ∧ byteAt (ringB s) (i + 1) = byteAt s i := by
  have hz := extract_size s (i := s.size - 1) (j := s.size) (by omega) (Nat.le_refl _)
  unfold ringB
  constructor
  · rw [append_byte _ _ (by omega)]
    by_cases h0 : i = 0
    · subst h0
      rw [if_pos (by omega), extract_byte s (Nat.le_refl _) (by omega)]
      congr 1
      rw [Nat.mod_eq_of_lt (by omega)]; omega
    · rw [if_neg (by omega)]
      congr 1
      rw [hz, show i + s.size - 1 = (i - 1) + s.size by omega, Nat.add_mod_right, Nat.mod_eq_of_lt (by omega)]
      omega
  · rw [append_byte _ _ (by omega), if_neg (by omega)]
    congr 1
    omega
theorem byte_list {s : ByteArray} {i : Nat} (h : i < s.size) : s.data.toList[i]? = some (s[i]'h) := by
  rw [Array.getElem?_toList]; exact Array.getElem?_eq_getElem h
theorem occ_at {s : ByteArray} {i : Nat} : Lib.occAt s.data.toList [66, 70] i = true ↔ i + 1 < s.size ∧ byteAt s i = 66 ∧ byteAt s (i + 1) = 70 := by
  unfold Lib.occAt
  rw [List.isPrefixOf_iff_prefix]
  constructor
  · rintro ⟨r, hr⟩
    have h0 : s.data.toList[i]? = some 66 := by
      have := congrArg (fun l => l[0]?) hr
      simpa using this.symm
    have h1 : s.data.toList[i + 1]? = some 70 := by
      have := congrArg (fun l => l[1]?) hr
      simpa using this.symm
    have l1 : i + 1 < s.size := by
      have := (List.getElem?_eq_some_iff.1 h1).1
      rw [Array.length_toList] at this
      exact this
    rw [byte_list l1] at h1
    rw [byte_list (by omega)] at h0
    rw [byteAt_eq l1, byteAt_eq (show i < s.size by omega), Option.some.inj h1, Option.some.inj h0]
    exact ⟨l1, rfl, rfl⟩
  · rintro ⟨l1, h0, h1⟩
    rw [byteAt_eq (show i < s.size by omega)] at h0
    rw [byteAt_eq l1] at h1
    have e0 : s[i]'(by omega) = 66 := UInt8.toNat_inj.1 (by have : (66 : UInt8).toNat = 66 := rfl; omega)
    have e1 : s[i + 1]'l1 = 70 := UInt8.toNat_inj.1 (by have : (70 : UInt8).toNat = 70 := rfl; omega)
    have hl : s.data.toList.length = s.size := Array.length_toList
    refine ⟨s.data.toList.drop (i + 2), ?_⟩
    have d0 : s.data.toList.drop i = (s[i]'(by omega)) :: s.data.toList.drop (i + 1) := by
      rw [List.drop_eq_getElem_cons (by omega)]; rfl
    have d1 : s.data.toList.drop (i + 1) = (s[i + 1]'l1) :: s.data.toList.drop (i + 2) := by
      rw [List.drop_eq_getElem_cons (by omega)]; rfl
    rw [d0, d1, e0, e1]; rfl
theorem occ_ring {s : ByteArray} {i : Nat} (h : 1 ≤ s.size) : Lib.occAt (ringB s).data.toList [66, 70] i = true ↔ i < s.size ∧ frontAt s i := by
  rw [occ_at, ringB_size h]
  constructor
  · rintro ⟨h1, h2, h3⟩
    have hi : i < s.size := by omega
    obtain ⟨e1, e2⟩ := ringB_at h hi
    rw [e1] at h2
    rw [e2] at h3
    exact ⟨hi, h3, h2⟩
  · rintro ⟨hi, h3, h2⟩
    obtain ⟨e1, e2⟩ := ringB_at h hi
    rw [e1, e2]
    exact ⟨by omega, h2, h3⟩
/-- the answer of the program's look for the first place -/
def placeI (s : ByteArray) : Int := Lib.index (ringB s).data.toList [66, 70]
theorem place_yes {s : ByteArray} {f : Nat} (h : 1 ≤ s.size) (hf : First s f) : placeI s = (f : Int) := by
  unfold placeI
  have hl : (ringB s).data.toList.length = s.size + 1 := by rw [← ringB_size h]; exact Array.length_toList
  refine Lib.index_first (by rw [hl]; have := hf.1; omega) ((occ_ring h).2 ⟨hf.1, hf.2.1⟩) fun j hj => ?_
  cases hb : Lib.occAt (ringB s).data.toList [66, 70] j
  · rfl
  · exact absurd ((occ_ring h).1 hb).2 (hf.2.2 j hj)
theorem place_no {s : ByteArray} (h : 1 ≤ s.size) (hf : ∀ i, i < s.size → ¬ frontAt s i) : placeI s = -1 := by
  unfold placeI
  refine Lib.index_none fun j _ => ?_
  cases hb : Lib.occAt (ringB s).data.toList [66, 70] j
  · rfl
  · have := (occ_ring h).1 hb
    exact absurd this.2 (hf j this.1)

set_option maxHeartbeats 1000000 in
theorem place_i (s : ByteArray) (w : World) (h1 : 1 ≤ s.size) (hs : s.size ≤ 12) (hm : MaxAt w) :
    Calls Tryd.prog 20 #[.string s] w fun e w' => e = .returned (.int .i64 (placeI s)) ∧ w = w' := by
  have hz := ringB_size h1
  have HI : Hid (∀ W, MaxAt W → Calls Tryd.prog 34 #[.string (ringB s), .string ⟨#[66, 70]⟩] W fun e w' => e = .returned (.int .i64 (placeI s)) ∧ W = w') := fun W ⟨m, hm⟩ =>
    (Any.strings_Index { Tryd.laysM143 with } (ringB s) ⟨#[66, 70]⟩ m W (by omega) hm).mono fun _ _ ⟨p, q⟩ => ⟨p, q.symm⟩
  have hw1 : wrap64 ((s.size : Int) - 1) = ((s.size - 1 : Nat) : Int) := by
    have e : (s.size : Int) - 1 = ((s.size - 1 : Nat) : Int) := by omega
    rw [e]; exact IntWalk.wrap64_in _ ⟨by omega, by omega⟩
  have hadd : ∀ W, (Op.stringOp .add (s.extract (s.size - 1) s.size) s).run Tryd.prog W = .ok (.string (ringB s)) W := fun W =>
    run_string_add_sum W _ _ (by rw [extract_size s (by omega) (Nat.le_refl _)]; omega)
  have HM := Lib.hid hm
  clear hm
  generalize ringB s = u at *
  generalize placeI s = p at *
  go_enter Tryd.func20, Tryd.ntmps20
  go_wp2_with (go_at_call 34; refine (HI.out _ HM.out).mono ?_; rintro e w' ⟨rfl, rfl⟩)
  go_ret
  exact ⟨rfl, rfl⟩

set_option maxHeartbeats 4000000 in
theorem runsOf_i (s : ByteArray) (w : World) (hs : s.size ≤ 12) :
    Calls Tryd.prog 21 #[.string s] w fun e w' => ∃ A c, e = .returned (.slice A (rle s s.size).length c) ∧ (rle s s.size).length ≤ c ∧ c ≤ maxLen ∧ Row w' w.heap.size w'.heap.size A (rle s s.size).length 1 2 (fun j => (rle s s.size).getD j 0) ∧ Below w.heap.size w w' := by
  obtain ⟨i0, hi0, hz0, hz1, hz2⟩ := info_parts (show (Tryd.prog.info? 2).map (fun i => (i.zero, i.size, i.bytes)) = some (some (.int .i64 0), 1, 8) from info_num)
  obtain ⟨L, hL⟩ : ∃ L, L = rle s s.size := ⟨_, rfl⟩
  rw [← hL]
  have HL := Lib.hid hL
  clear hL
  go_enter Tryd.func21, Tryd.ntmps21
  go_wp2_with fail
  go_loopw [7, 3] (fun i v wr => ∃ (k : Nat), k ≤ s.size ∧ i = .int .i64 (k : Int) ∧ Hid (wr.ownsRow w.heap.size 2 1 v (rle s k).length ((rle s k).map (Value.int .i64))) ∧ Hid (Below w.heap.size w wr)) (fun i _ _ => s.size - (intOf i).toNat)
  case atStart => exact ⟨0, by omega, rfl, ⟨rfl, .inl ⟨rfl, rfl⟩⟩, Below.refl _ _⟩
  case round =>
    obtain ⟨k, hk, rfl, HO, HB⟩ := hrel
    have hzz := HB.out.size
    have hlen := rle_len s k
    by_cases hlt : k < s.size
    · have hlt' : (k : Int) < (s.size : Int) := by omega
      have hk0 : (0 : Int) ≤ (k : Int) := by omega
      by_cases hsame : 0 < k ∧ byteAt s k = byteAt s (k - 1)
      · obtain ⟨l, q, e1, e2, q1, q2, hl⟩ := rle_same hsame
        have HE2 := Lib.hid e2
        rw [e1] at HO
        obtain ⟨g, cp, rfl⟩ := slice_of_owns HO.out (by simp)
        have hL : (l ++ [q]).length = l.length + 1 := by simp
        rw [hL] at HO
        have hcell := HO.out.cellAt l.length (by omega)
        have hv : ((l ++ [q]).map (Value.int .i64))[l.length]? = some (.int .i64 q) := by simp
        rw [hv] at hcell
        have hfz := HO.out.frozenAt l.length
        obtain ⟨hkp, hb⟩ := hsame
        obtain ⟨r, hr⟩ : ∃ r : Nat, r = k - 1 := ⟨_, rfl⟩
        have hrs : r < s.size := by omega
        rw [← hr, byteAt_eq hlt, byteAt_eq hrs] at hb
        have hk1 : ((k : Int) == 0) = false := beq_false_of_ne (by omega)
        have hr0 : (0 : Int) ≤ (r : Int) := by omega
        have hr1 : (r : Int) < (s.size : Int) := by omega
        have hw1 : IntKind.i64.wrap ((k : Int) - 1) = (r : Int) := by rw [IntKind.wrap_i64]; omega
        have hbb : (((s[k]'hlt).toNat : Int) == ((s[r]'hrs).toNat : Int)) = true := beq_iff_eq.2 hb
        have hbn : (((s[k]'hlt).toNat : Int) != ((s[r]'hrs).toNat : Int)) = false := by rw [bne, hbb]; rfl
        have hw2 : IntKind.i64.wrap (((l.length + 1 : Nat) : Int) - 1) = (l.length : Int) := by rw [IntKind.wrap_i64]; omega
        have hw3 : IntKind.i64.wrap (q + 1) = q + 1 := by rw [IntKind.wrap_i64]; omega
        clear hr hb hv e1 e2 hL
        go_wp2_with fail
        go_quiet (fail)
        go_wp2
        have hg3 := (HO.out.lt g rfl).1
        obtain ⟨HO2, _⟩ := World.ownsRow.stored (w := wr.drewN nq) HO.out l.length (.int .i64 (q + 1))
        have hset : ((l ++ [q]).map (Value.int .i64)).set l.length (.int .i64 (q + 1)) = (l ++ [q + 1]).map (Value.int .i64) := by simp
        rw [hset] at HO2
        refine ⟨⟨k + 1, by omega, by go_num, Lib.hid ?_, Lib.hid (Below.setCell (drewN_below HB.out nq) hg3 _)⟩, by simp [intOf]; omega⟩
        rw [HE2.out, show (l ++ [q + 1]).length = l.length + 1 by simp, show (l ++ [q]).length = l.length + 1 by simp]
        exact HO2
      · have HN := Lib.hid (rle_new hsame)
        have hl1 : (rle s k).length + 1 ≤ maxLen := by unfold maxLen; omega
        have hl2 : ((rle s k).length + 1) * 8 ≤ 140737488355328 := by omega
        have hcond : (0 < k → ∃ (r : Nat) (hrs : r < s.size), (r : Int) = (k : Int) - 1 ∧ (((s[k]'hlt).toNat : Int) == ((s[r]'hrs).toNat : Int)) = false) := fun h0 => by
          refine ⟨k - 1, by omega, by omega, beq_false_of_ne fun e => hsame ⟨h0, ?_⟩⟩
          rw [byteAt_eq hlt, byteAt_eq (show k - 1 < s.size by omega)]; exact e
        generalize rle s k = l at *
        by_cases h0 : 0 < k
        · obtain ⟨r, hrs, hr, hbb⟩ := hcond h0
          have hbn : (((s[k]'hlt).toNat : Int) != ((s[r]'hrs).toNat : Int)) = true := by rw [bne, hbb]; rfl
          have hk1 : ((k : Int) == 0) = false := beq_false_of_ne (by omega)
          have hr0 : (0 : Int) ≤ (r : Int) := by omega
          have hr1 : (r : Int) < (s.size : Int) := by omega
          have hw1 : IntKind.i64.wrap ((k : Int) - 1) = (r : Int) := by rw [IntKind.wrap_i64]; omega
          clear hr hcond hsame
          go_wp2_with fail
          go_quiet (fail)
          obtain ⟨wq, hwq⟩ : ∃ wq, wq = wr.drewN nq := ⟨_, rfl⟩
          have HOq : Hid (wq.ownsRow w.heap.size 2 1 u3 l.length (l.map (Value.int .i64))) := by rw [hwq]; exact HO.out
          have HBq : Hid (Below w.heap.size w wq) := by rw [hwq]; exact drewN_below HB.out nq
          rw [← hwq]
          clear hwq HO HB
          have hzq := HBq.out.size
          go_wp2_with (at_builtin; refine wpList_append_own _ rfl _ _ 41 rfl w.heap.size 2 i0 (.int .i64 0) 1 8 Tryd.underlying41 hi0 hz0 hz1 hz2 rfl (by decide) _ _ _ rfl (HOq.out.alloc _) ⟨wq.heap.size, 0, none⟩ 1 1 [.int .i64 0] rfl rfl ?c1 ?c2 hl1 hl2 ?c5 ?_)
          case c1 => intro j u hj; rcases j with _ | j <;> simp at hj; subst hj; go_simp
          case c2 => intro u hu; simp at hu; subst hu; rfl
          case c5 => simp <;> omega
          intro v' w6 hown6 hgrow6 _
          obtain ⟨gv, cv, rfl⟩ := slice_of_owns hown6 (by omega)
          have g6 : Below w.heap.size w w6 := Below.grown (HBq.out.alloc hzq _) hgrow6 (by simp; omega) (owns_block HOq.out)
          have HB6 := Lib.hid g6
          have HO6 := Lib.hid (owns_snoc hown6)
          have hL6 : (l ++ [(0 : Int)]).length = l.length + 1 := by simp
          rw [hL6] at HO6
          have hcell := HO6.out.cellAt l.length (by omega)
          have hv : ((l ++ [(0 : Int)]).map (Value.int .i64))[l.length]? = some (.int .i64 0) := by simp
          rw [hv] at hcell
          have hfz := HO6.out.frozenAt l.length
          have hw2 : IntKind.i64.wrap (((l.length + 1 : Nat) : Int) - 1) = (l.length : Int) := by rw [IntKind.wrap_i64]; omega
          clear hown6 hgrow6 hv hL6 g6
          go_wp2
          have hg3 := (HO6.out.lt gv rfl).1
          obtain ⟨HO2, _⟩ := World.ownsRow.stored (w := w6) HO6.out l.length (.int .i64 1)
          have hset : ((l ++ [(0 : Int)]).map (Value.int .i64)).set l.length (.int .i64 1) = (l ++ [1]).map (Value.int .i64) := by simp
          rw [hset] at HO2
          refine ⟨⟨k + 1, by omega, by go_num, Lib.hid ?_, Lib.hid (Below.setCell HB6.out hg3 _)⟩, by simp [intOf]; omega⟩
          rw [HN.out, show (l ++ [(1 : Int)]).length = l.length + 1 by simp]
          exact HO2
        · obtain rfl : k = 0 := by omega
          have hk1 : (((0 : Nat) : Int) == 0) = true := rfl
          clear hcond hsame h0
          go_wp2_with fail
          go_quiet (fail)
          obtain ⟨wq, hwq⟩ : ∃ wq, wq = wr.drewN nq := ⟨_, rfl⟩
          have HOq : Hid (wq.ownsRow w.heap.size 2 1 u3 l.length (l.map (Value.int .i64))) := by rw [hwq]; exact HO.out
          have HBq : Hid (Below w.heap.size w wq) := by rw [hwq]; exact drewN_below HB.out nq
          rw [← hwq]
          clear hwq HO HB
          have hzq := HBq.out.size
          go_wp2_with (at_builtin; refine wpList_append_own _ rfl _ _ 41 rfl w.heap.size 2 i0 (.int .i64 0) 1 8 Tryd.underlying41 hi0 hz0 hz1 hz2 rfl (by decide) _ _ _ rfl (HOq.out.alloc _) ⟨wq.heap.size, 0, none⟩ 1 1 [.int .i64 0] rfl rfl ?c1 ?c2 hl1 hl2 ?c5 ?_)
          case c1 => intro j u hj; rcases j with _ | j <;> simp at hj; subst hj; go_simp
          case c2 => intro u hu; simp at hu; subst hu; rfl
          case c5 => simp <;> omega
          intro v' w6 hown6 hgrow6 _
          obtain ⟨gv, cv, rfl⟩ := slice_of_owns hown6 (by omega)
          have g6 : Below w.heap.size w w6 := Below.grown (HBq.out.alloc hzq _) hgrow6 (by simp; omega) (owns_block HOq.out)
          have HB6 := Lib.hid g6
          have HO6 := Lib.hid (owns_snoc hown6)
          have hL6 : (l ++ [(0 : Int)]).length = l.length + 1 := by simp
          rw [hL6] at HO6
          have hcell := HO6.out.cellAt l.length (by omega)
          have hv : ((l ++ [(0 : Int)]).map (Value.int .i64))[l.length]? = some (.int .i64 0) := by simp
          rw [hv] at hcell
          have hfz := HO6.out.frozenAt l.length
          have hw2 : IntKind.i64.wrap (((l.length + 1 : Nat) : Int) - 1) = (l.length : Int) := by rw [IntKind.wrap_i64]; omega
          clear hown6 hgrow6 hv hL6 g6
          go_wp2
          have hg3 := (HO6.out.lt gv rfl).1
          obtain ⟨HO2, _⟩ := World.ownsRow.stored (w := w6) HO6.out l.length (.int .i64 1)
          have hset : ((l ++ [(0 : Int)]).map (Value.int .i64)).set l.length (.int .i64 1) = (l ++ [1]).map (Value.int .i64) := by simp
          rw [hset] at HO2
          refine ⟨⟨0 + 1, by omega, by go_num, Lib.hid ?_, Lib.hid (Below.setCell HB6.out hg3 _)⟩, by simp [intOf]; omega⟩
          rw [HN.out, show (l ++ [(1 : Int)]).length = l.length + 1 by simp]
          exact HO2
    · obtain rfl : k = s.size := by omega
      rw [← HL.out] at HO
      obtain ⟨A, cp, rfl, ha, hb, hrow⟩ := row_of_owns HO.out
      have HW := Lib.hid hrow
      clear hrow
      go_wp2
      go_ret
      exact ⟨A, cp, rfl, ha, hb, HW.out, HB.out⟩

end Go.Proofs.YtakcgeafcecimaaDoor.twl
