/-
  TwillText of the model and of the program. No condition of a statement lies here.
-/
import Derived.Test.YtopiecbldnhihaaDoorDecI
import Derived.Test.YtopiecbldnhihaaDoorQb
import Derived.Test.YtopiecbldnhihaaDoorQc
import Derived.Test.YtopiecbldnhihaaDoorFold3
import Derived.Test.YtopiecbldnhihaaDoorFold6
import Derived.Lib.ItoaLen
import Derived.Lib.Join
import Derived.Shelf.Strings.OnBuilder
namespace Go.Proofs.YtopiecbldnhihaaDoor.twt
open Go.ChangeShapes Go.WideShapes Go.ChangeAt Go.RowKit Go.Deep Go.Proofs.YtopiecbldnhihaaDoor.mem Go.Proofs.YtopiecbldnhihaaDoor.rod Go.Proofs.YtopiecbldnhihaaDoor.nums Go.Proofs.YtopiecbldnhihaaDoor.shp Go.Proofs.YtopiecbldnhihaaDoor.twl Go.Proofs.YtopiecbldnhihaaDoor.dec
set_option linter.unusedVariables false
set_option maxRecDepth 100000

def decB (n : Int) : ByteArray := ⟨(Lib.itoa n).toArray⟩
theorem decB_size {n : Int} (h0 : -9223372036854775808 ≤ n) (h1 : n ≤ 9223372036854775807) : (decB n).size ≤ 21 := by
  have := Lib.itoa_length_le n h0 h1
  show (Lib.itoa n).toArray.size ≤ 21
  simpa using this
theorem dec_st (n : Int) (s : ByteArray) (h0 : -9223372036854775808 ≤ n) (h1 : n ≤ 9223372036854775807) (hs : decB n = s) (W : World) :
    Calls Tryd.prog 56 #[.int .i64 n] W fun e w' => e = .returned (.string s) ∧ Below W.heap.size W w' :=
  (dec_s n h0 h1 W).mono fun e w' ⟨p, q⟩ => ⟨by rw [p, ← hs]; rfl, q⟩
theorem dec_it (n : Int) (s : ByteArray) (h0 : -9223372036854775808 ≤ n) (h1 : n ≤ 9223372036854775807) (hs : decB n = s) (W : World) (ht : Tab W) :
    Calls Tryd.prog 54 #[.int .i64 n] W fun e w' => e = .returned (.string s) ∧ Below W.heap.size W w' :=
  (dec_i n h0 h1 W ht).mono fun e w' ⟨p, q⟩ => ⟨by rw [p, ← hs]; rfl, q⟩
/-- the first k parts as a text -/
def ttB (X : Nat → Int) : Nat → ByteArray
  | 0 => ⟨#[]⟩
  | k + 1 => (if k = 0 then ⟨#[]⟩ else ttB X k ++ ⟨#[47]⟩) ++ decB (X k)
/-- the text of a twill -/
def twT (X : Nat → Int) (n : Nat) (st : Int) : ByteArray := ttB X n ++ ⟨#[32, 115, 116, 101, 112, 32]⟩ ++ decB st
theorem ttB_size {X : Nat → Int} : ∀ {k : Nat}, (∀ j, j < k → 1 ≤ X j ∧ X j ≤ 12) → (ttB X k).size ≤ 22 * k
  | 0, _ => Nat.le_refl _
  | k + 1, h => by
    have ih := ttB_size (X := X) (k := k) fun j hj => h j (by omega)
    obtain ⟨h0, h1⟩ := h k (by omega)
    have hd := decB_size (n := X k) (by omega) (by omega)
    unfold ttB
    rw [ByteArray.size_append]
    by_cases e : k = 0
    · rw [if_pos e]
      have e2 : (⟨#[]⟩ : ByteArray).size = 0 := rfl
      omega
    · rw [if_neg e, ByteArray.size_append]
      have e2 : (⟨#[47]⟩ : ByteArray).size = 1 := rfl
      omega
theorem empty_append (b : ByteArray) : (⟨#[]⟩ : ByteArray) ++ b = b := by
  apply ByteArray.ext
  rw [ByteArray.data_append]; simp
theorem ttB_1 (X : Nat → Int) : ttB X 1 = decB (X 0) := by unfold ttB; rw [if_pos rfl, empty_append]
theorem ttB_more (X : Nat → Int) {k : Nat} (h : ¬ k = 0) : ttB X (k + 1) = ttB X k ++ ⟨#[47]⟩ ++ decB (X k) := by
  rw [ttB, if_neg h]
def itL (X : Nat → Int) (n : Nat) : List ByteArray := (List.range n).map fun j => decB (X j)
theorem itL_len (X : Nat → Int) (n : Nat) : (itL X n).length = n := by unfold itL; simp
theorem join_snoc (x : List UInt8) (r : List (List UInt8)) (y sep : List UInt8) : Lib.join ((x :: r) ++ [y]) sep = Lib.join (x :: r) sep ++ sep ++ y := by
  rw [List.cons_append, Lib.join_cons, Lib.join_cons]
  unfold Lib.joinTail
  simp
theorem join_tt (X : Nat → Int) : ∀ n, Lib.join ((itL X n).map (·.data.toList)) [47] = (ttB X n).data.toList
  | 0 => rfl
  | 1 => by rw [ttB_1]; unfold itL; simp [Lib.join_one]
  | k + 2 => by
    have ih := join_tt X (k + 1)
    have e : (itL X (k + 2)).map (·.data.toList) = (itL X (k + 1)).map (·.data.toList) ++ [(decB (X (k + 1))).data.toList] := by
      unfold itL; rw [List.range_succ, List.map_append, List.map_append]; rfl
    obtain ⟨x, r, hx⟩ : ∃ x r, (itL X (k + 1)).map (·.data.toList) = x :: r := by
      cases h : (itL X (k + 1)).map (·.data.toList) with
      | nil => have := congrArg List.length h; rw [List.length_map, itL_len] at this; simp at this
      | cons a b => exact ⟨a, b, rfl⟩
    have e5 := ttB_more X (k := k + 1) (by omega)
    rw [e, hx, join_snoc, ← hx, ih, e5, ByteArray.data_append, ByteArray.data_append]
    simp
theorem extra_j : Builder.Extra Tryd.prog Tryd.lays156_ren where
  sizeBuilder := by kernel_rfl
  liesBuilder := by kernel_rfl
  t5 := Tryd.underlying5
  a5 := Tryd.isAgg5
  z5 := Tryd.sizeOf5
  v5 := Tryd.zeroValue5
  infoByte := by kernel_rfl
  cellsByte := by kernel_rfl
  sizeByte := by kernel_rfl
  neB5 := by decide
theorem info_text : (Tryd.prog.info? 9).map (fun i => (i.zero, i.size, i.bytes)) = some (some (.string ByteArray.empty), 1, 16) := by kernel_rfl
def txL (X : Nat → Int) (n : Nat) : List Value := (itL X n).map Value.string
theorem txL_succ (X : Nat → Int) (n : Nat) : txL X (n + 1) = txL X n ++ [.string (decB (X n))] := by unfold txL itL; rw [List.range_succ, List.map_append, List.map_append]; rfl
theorem owns_keep2 {w w' : World} {B n size : Nat} {E : TypeId} {v : Value} {xs : List Value} (h : w.ownsRow B E size v n xs) (hb : Below w.heap.size w w') : w'.ownsRow B E size v n xs := by
  obtain ⟨hl, h⟩ := h
  rcases h with h0 | ⟨g, cap, cur, rfl, hB, hh, r⟩
  · exact ⟨hl, .inl h0⟩
  · exact ⟨hl, .inr ⟨g, cap, cur, rfl, hB, (hb.block g (Array.getElem?_eq_some_iff.1 hh).1).trans hh, r⟩⟩
theorem owns_from {w : World} {B n size : Nat} {E : TypeId} {v : Value} {xs : List Value} (h : w.ownsRow B E size v n xs) : ∀ g, v.ownBlock = some g → B ≤ g := by
  intro g hg
  rcases h.2 with ⟨rfl, _⟩ | ⟨g', cap, cur, rfl, hB, _⟩
  · simp [Value.ownBlock] at hg
  · simp [Value.ownBlock] at hg
    omega
theorem drew1_owns {w : World} {B n size : Nat} {E : TypeId} {v : Value} {xs : List Value} (h : w.ownsRow B E size v n xs) : w.drew.ownsRow B E size v n xs := h
theorem ne_type2 {w : World} {B n size g : Nat} {E E' : TypeId} {v : Value} {xs : List Value} {c : Array Value} {z : Nat × Nat} (h : w.ownsRow B E size v n xs) (hg : w.heap[g]? = some (.cells c E' z)) (hE : E ≠ E') : v.ownBlock ≠ some g := fun e => by
  rcases h.2 with ⟨rfl, _⟩ | ⟨g', cap, cur, rfl, _, hh, _⟩
  · simp [Value.ownBlock] at e
  · simp [Value.ownBlock] at e
    subst e
    rw [hg] at hh
    injection hh with hh
    injection hh with _ hh _
    exact hE hh.symm
/-- Join of a list of the call's own -/
theorem join_i (B n : Nat) (X : Nat → Int) (v : Value) (T : ByteArray) (hT : ttB X n = T) (w : World) (h0 : 0 < n) (hn : n ≤ 12) (hX : ∀ j, j < n → 1 ≤ X j ∧ X j ≤ 12) (h : w.ownsRow B 9 1 v n (txL X n)) :
    Calls Tryd.prog 55 #[v, .string ⟨#[47]⟩] w fun e w' => e = .returned (.string T) ∧ Below w.heap.size w w' := by
  have hs := ttB_size hX
  have e : txL X n = (List.range (n * 1)).map (fun j => Value.string (decB (X j))) := by unfold txL itL; rw [Nat.mul_one, List.map_map]; rfl
  rw [e] at h
  obtain ⟨A, c, rfl, h1, h2, h3⟩ := ownV_of_owns h
  obtain ⟨g, rfl, hB, hl, ho⟩ := h3 h0
  have hj := Any.strings_Join Tryd.lays156 extra_j g 0 c (itL X n) ⟨#[47]⟩ w (fun j x hx => by
    have hj : j < n := by have := (List.getElem?_eq_some_iff.1 hx).1; rwa [itL_len] at this
    have hc := ho.cell (j := j) (by omega)
    rw [Nat.zero_add, hc]
    have e2 : x = decB (X j) := by
      unfold itL at hx
      rw [List.getElem?_map, List.getElem?_range hj] at hx
      exact (Option.some.inj hx).symm
    rw [e2]) hl (by rw [itL_len]; omega) (by rw [itL_len]; omega) (by
      have e3 : (⟨#[47]⟩ : ByteArray).data.toList = [47] := rfl
      rw [e3, join_tt]
      have e4 : (ttB X n).data.toList.length = (ttB X n).size := by rw [Array.length_toList]; rfl
      omega)
  rw [itL_len] at hj
  refine hj.mono ?_
  rintro e' w' ⟨rfl, hb⟩
  refine ⟨?_, hb⟩
  have e3 : (⟨#[47]⟩ : ByteArray).data.toList = [47] := rfl
  rw [e3, join_tt, ← hT]

set_option maxHeartbeats 1000000 in
theorem tt_s_no (A : Option Addr) (n c : Nat) (X : Nat → Int) (st : Int) (w : World) (hn : n ≤ maxLen) (hr : Sl w A n 1 X) (hv : twB n X st = false) :
    Calls Tryd.prog 22 #[.agg #[.slice A n c, .int .i64 st]] w fun e w' => e = .returned (.string ⟨#[]⟩) ∧ Below w.heap.size w w' := by
  have HR := Lib.hid hr
  clear hr
  go_enter Tryd.func22, Tryd.ntmps22
  go_wp2_with (go_at_call 31; refine (okT_s A n c w.heap.size X st _ hn (HR.out.below (K := w.heap.size) (by go_grown) (Nat.le_refl _)) (by go_simp) (by go_simp)).mono ?_; rintro e w' ⟨rfl, m, rfl⟩)
  go_returns
  exact ⟨rfl, drewN_below (by go_grown) _⟩
set_option maxHeartbeats 1000000 in
theorem tt_i_no (A : Option Addr) (n c : Nat) (X : Nat → Int) (st : Int) (w : World) (hn : n ≤ maxLen) (hr : Sl w A n 1 X) (hv : twB n X st = false) :
    Calls Tryd.prog 21 #[.agg #[.slice A n c, .int .i64 st]] w fun e w' => e = .returned (.string ⟨#[]⟩) ∧ Below w.heap.size w w' := by
  have HR := Lib.hid hr
  clear hr
  go_enter Tryd.func21, Tryd.ntmps21
  go_wp2_with (go_at_call 19; refine (twval_i A n c X st _ hn (HR.out.below (K := w.heap.size) (by go_grown) (Nat.le_refl _))).mono ?_; rintro e w' ⟨rfl, hb⟩; have g1 : Below w.heap.size w w' := Below.trans (by go_grown) (hb.mono (by simp)); clear hb)
  go_returns
  exact ⟨rfl, g1⟩

set_option maxHeartbeats 4000000 in
theorem tt_s (A : Option Addr) (n c : Nat) (X : Nat → Int) (st : Int) (w : World) (hr : Sl w A n 1 X) (hv : twB n X st = true) :
    Calls Tryd.prog 22 #[.agg #[.slice A n c, .int .i64 st]] w fun e w' => e = .returned (.string (twT X n st)) ∧ Below w.heap.size w w' := by
  have T := twB_of hv
  have h12 := T.n12
  have t1 := T.st1
  have t2 := T.st2
  have hw := T.wide
  have hn : n ≤ maxLen := by unfold maxLen; omega
  have HR := Lib.hid hr
  have HX := Lib.hid T.part
  have HDS := Lib.hid (fun W => dec_st st _ (by omega) (by omega) rfl W)
  have HDX := Lib.hid (fun j (hj : j < n) W => dec_st (X j) _ (by have := T.part j hj; omega) (by have := T.part j hj; omega) rfl W)
  have hts := ttB_size T.part
  have hds := decB_size (n := st) (by omega) (by omega)
  have HAD : Hid (∀ W, (Op.stringOp .add (ttB X n ++ ⟨#[32, 115, 116, 101, 112, 32]⟩) (decB st)).run Tryd.prog W = .ok (.string (twT X n st)) W) := fun W => by
    have e6 : (⟨#[32, 115, 116, 101, 112, 32]⟩ : ByteArray).size = 6 := rfl
    exact run_string_add_sum W _ _ (by rw [ByteArray.size_append]; omega)
  have HA6 : Hid (∀ W, (Op.stringOp .add (ttB X n) ⟨#[32, 115, 116, 101, 112, 32]⟩).run Tryd.prog W = .ok (.string (ttB X n ++ ⟨#[32, 115, 116, 101, 112, 32]⟩)) W) := fun W => by
    have e6 : (⟨#[32, 115, 116, 101, 112, 32]⟩ : ByteArray).size = 6 := rfl
    exact run_string_add_sum W _ _ (by omega)
  have HA1 : Hid (∀ k W, ¬ k = 0 → k < n → (Op.stringOp .add (ttB X k) ⟨#[47]⟩).run Tryd.prog W = .ok (.string (ttB X k ++ ⟨#[47]⟩)) W) := fun k W _ hk => by
    have e1 : (⟨#[47]⟩ : ByteArray).size = 1 := rfl
    have := ttB_size (X := X) (k := k) fun j hj => T.part j (by omega)
    exact run_string_add_sum W _ _ (by omega)
  have HAM : Hid (∀ k W, ¬ k = 0 → k < n → (Op.stringOp .add (ttB X k ++ ⟨#[47]⟩) (decB (X k))).run Tryd.prog W = .ok (.string (ttB X (k + 1))) W) := fun k W h0 hk => by
    have e1 : (⟨#[47]⟩ : ByteArray).size = 1 := rfl
    have := ttB_size (X := X) (k := k) fun j hj => T.part j (by omega)
    have := T.part k hk
    have := decB_size (n := X k) (by omega) (by omega)
    rw [ttB_more X h0]
    exact run_string_add_sum W _ _ (by rw [ByteArray.size_append]; omega)
  have HA0 : Hid (∀ W, 0 < n → (Op.stringOp .add ⟨#[]⟩ (decB (X 0))).run Tryd.prog W = .ok (.string (ttB X 1)) W) := fun W hk => by
    have e1 : (⟨#[]⟩ : ByteArray).size = 0 := rfl
    have := T.part 0 hk
    have := decB_size (n := X 0) (by omega) (by omega)
    rw [ttB_1, ← empty_append (decB (X 0))]
    rw [run_string_add_sum W _ _ (by rw [empty_append]; omega), empty_append]
  generalize decB st = dS at *
  generalize twT X n st = TT at *
  clear hr hts hds hw t1 t2
  go_enter Tryd.func22, Tryd.ntmps22
  go_wp2_with fail
  refine (okT_s A n c w.heap.size X st _ hn (HR.out.below (K := w.heap.size) (by go_grown) (Nat.le_refl _)) (by go_simp) (by go_simp)).mono ?_
  rintro e w1 ⟨rfl, hd⟩
  have p0 : w1.cell? ⟨w.heap.size, 0, none⟩ = some (.slice A n c) := hd.cell (by go_simp)
  have p1 : w1.cell? ⟨w.heap.size, 1, none⟩ = some (.int .i64 st) := hd.cell (by go_simp)
  have HB : Hid (Below w.heap.size w w1) := by obtain ⟨m, rfl⟩ := hd; exact drewN_below (by go_grown) m
  have z1 : w.heap.size < w1.heap.size := by obtain ⟨m, rfl⟩ := hd; simp
  clear hd
  rw [hv]
  go_wp2_with fail
  go_loopw [4, 3] (fun i v wr => ∃ (k : Nat) (S : ByteArray), k ≤ n ∧ i = .int .i64 (k : Int) ∧ v = .string S ∧ Hid (S = ttB X k) ∧ wr.cell? ⟨w.heap.size, 0, none⟩ = some (.slice A n c) ∧ wr.cell? ⟨w.heap.size, 1, none⟩ = some (.int .i64 st) ∧ w.heap.size < wr.heap.size ∧ Hid (Below w.heap.size w wr)) (fun i _ _ => n - (intOf i).toNat)
  case atStart => exact ⟨0, _, by omega, rfl, rfl, rfl, p0, p1, z1, HB⟩
  case round =>
    clear p0 p1 z1 HB
    obtain ⟨k, S, hk, rfl, rfl, HS, p0, p1, z1, HB⟩ := hrel
    by_cases hlt : k < n
    · have hlt' : (k : Int) < (n : Int) := by omega
      have hk0 : (0 : Int) ≤ (k : Int) := by omega
      obtain ⟨b0, o0, rfl, hb0, hI⟩ := HR.out (by omega)
      have q0 : wr.cell? ⟨b0, o0 + k, none⟩ = some (.int .i64 (X k)) := (HB.out.cell (p := ⟨b0, o0 + k, none⟩) hb0).trans (hI k (by omega))
      have HD := Lib.hid (HDX.out k hlt)
      clear hI
      by_cases hz : k = 0
      · subst hz
        have q0' : wr.cell? ⟨b0, o0, none⟩ = some (.int .i64 (X 0)) := q0
        clear q0
        obtain rfl : S = ⟨#[]⟩ := HS.out
        have HA := Lib.hid (fun W => HA0.out W hlt)
        generalize hS1 : ttB X 1 = S1 at *
        have hS1' := Lib.hid hS1
        clear hS1
        generalize decB (X 0) = dX at *
        have HA' := HA.out
        go_wp2_with (go_at_call 56; refine (HD.out _).mono ?_; rintro e w2 ⟨rfl, hb⟩)
        have HB2 := Lib.hid (HB.out.trans (hb.mono (by have := HB.out.size; omega)))
        have r0 := (hb.cell (p := ⟨w.heap.size, 0, none⟩) z1).trans p0
        have r1 := (hb.cell (p := ⟨w.heap.size, 1, none⟩) z1).trans p1
        have z2 : w.heap.size < w2.heap.size := by have := hb.size; omega
        go_roundw
        case rel => exact ⟨1, _, by omega, by go_num, rfl, hS1'.out.symm, r0, r1, z2, HB2⟩
        case measure => simp [intOf]; omega
      · have hkp : (0 : Int) < (k : Int) := by omega
        have HA := Lib.hid (fun W => HA1.out k W hz hlt)
        have HC := Lib.hid (fun W => HAM.out k W hz hlt)
        rw [← HS.out] at HA HC
        generalize decB (X k) = dX at *
        generalize hS1 : ttB X (k + 1) = S1 at *
        have hS1' := Lib.hid hS1
        clear hS1
        generalize S ++ (⟨#[47]⟩ : ByteArray) = S2 at *
        have HA' := HA.out
        have HC' := HC.out
        go_wp2_with (go_at_call 56; refine (HD.out _).mono ?_; rintro e w2 ⟨rfl, hb⟩)
        have HB2 := Lib.hid (HB.out.trans (hb.mono (by have := HB.out.size; omega)))
        have r0 := (hb.cell (p := ⟨w.heap.size, 0, none⟩) z1).trans p0
        have r1 := (hb.cell (p := ⟨w.heap.size, 1, none⟩) z1).trans p1
        have z2 : w.heap.size < w2.heap.size := by have := hb.size; omega
        go_roundw
        case rel => exact ⟨k + 1, _, by omega, by go_num, rfl, hS1'.out.symm, r0, r1, z2, HB2⟩
        case measure => simp [intOf]; omega
    · obtain rfl : k = n := by omega
      rw [← HS.out] at HA6 HAD
      generalize S ++ (⟨#[32, 115, 116, 101, 112, 32]⟩ : ByteArray) = S6 at *
      have HA' := HA6.out
      have HC' := HAD.out
      go_wp2_with (go_at_call 56; refine (HDS.out _).mono ?_; rintro e w2 ⟨rfl, hb⟩)
      go_ret
      exact ⟨rfl, HB.out.trans (hb.mono (by have := HB.out.size; omega))⟩

set_option maxHeartbeats 4000000 in
theorem tt_i (A : Option Addr) (n c : Nat) (X : Nat → Int) (st : Int) (w : World) (hr : Sl w A n 1 X) (hv : twB n X st = true) (ht : Tab w) :
    Calls Tryd.prog 21 #[.agg #[.slice A n c, .int .i64 st]] w fun e w' => e = .returned (.string (twT X n st)) ∧ Below w.heap.size w w' := by
  have T := twB_of hv
  have h12 := T.n12
  have h0n := T.n2
  have t1 := T.st1
  have t2 := T.st2
  have hw := T.wide
  have hn : n ≤ maxLen := by unfold maxLen; omega
  have HT := Lib.hid ht
  clear ht
  have HR := Lib.hid hr
  have HDS := Lib.hid (fun W => dec_it st _ (by omega) (by omega) rfl W)
  have HDX := Lib.hid (fun j (hj : j < n) W => dec_it (X j) _ (by have := T.part j hj; omega) (by have := T.part j hj; omega) rfl W)
  have HJ := Lib.hid (fun v W h => join_i w.heap.size n X v (ttB X n) rfl W (by omega) h12 T.part h)
  have hts := ttB_size T.part
  have hds := decB_size (n := st) (by omega) (by omega)
  have HAD : Hid (∀ W, (Op.stringOp .add (ttB X n ++ ⟨#[32, 115, 116, 101, 112, 32]⟩) (decB st)).run Tryd.prog W = .ok (.string (twT X n st)) W) := fun W => by
    have e6 : (⟨#[32, 115, 116, 101, 112, 32]⟩ : ByteArray).size = 6 := rfl
    exact run_string_add_sum W _ _ (by rw [ByteArray.size_append]; omega)
  have HA6 : Hid (∀ W, (Op.stringOp .add (ttB X n) ⟨#[32, 115, 116, 101, 112, 32]⟩).run Tryd.prog W = .ok (.string (ttB X n ++ ⟨#[32, 115, 116, 101, 112, 32]⟩)) W) := fun W => by
    have e6 : (⟨#[32, 115, 116, 101, 112, 32]⟩ : ByteArray).size = 6 := rfl
    exact run_string_add_sum W _ _ (by omega)
  generalize decB st = dS at *
  generalize twT X n st = TT at *
  generalize ttB X n = S at *
  generalize S ++ (⟨#[32, 115, 116, 101, 112, 32]⟩ : ByteArray) = S6 at *
  have HXS := Lib.hid (txL_succ X)
  obtain ⟨i0, hi0, hz0, hz1, hz2⟩ := info_parts info_text
  clear hr hts hds hw t1 t2
  go_enter Tryd.func21, Tryd.ntmps21
  go_wp2_with fail
  refine (twval_i A n c X st _ hn (HR.out.below (K := w.heap.size) (by go_grown) (Nat.le_refl _))).mono ?_
  rintro e w1 ⟨rfl, hb⟩
  have p0 : w1.cell? ⟨w.heap.size, 0, none⟩ = some (.slice A n c) := by rw [(bcell hb).1 _ _ (by simp)]; go_simp
  have K1 : w1.heap[w.heap.size]? = some (.cells #[.slice A n c, .int .i64 st] 26 (0, 0)) := by rw [hb.block _ (by simp)]; exact Go.Deep.blk_alloc_new _ _
  have HB : Hid (Below w.heap.size w w1) := Lib.hid (Below.trans (by go_grown) (hb.mono (by simp)))
  have HK := Lib.hid K1
  clear hb K1
  rw [hv]
  go_wp2_with fail
  go_loopw [12, 3] (fun i v wr => ∃ k : Nat, k ≤ n ∧ i = .int .i64 (k : Int) ∧ Hid (wr.ownsRow w.heap.size 9 1 v k (txL X k)) ∧ Hid (wr.heap[w.heap.size]? = some (.cells #[.slice A n c, .int .i64 st] 26 (0, 0))) ∧ Hid (Below w.heap.size w wr)) (fun i _ _ => n - (intOf i).toNat)
  case atStart => exact ⟨0, by omega, rfl, ⟨rfl, .inl ⟨rfl, rfl⟩⟩, HK, HB⟩
  case round =>
    clear HK HB p0
    obtain ⟨k, hk, rfl, HO, HK, HB⟩ := hrel
    have zk : w.heap.size < wr.heap.size := (Array.getElem?_eq_some_iff.1 HK.out).1
    by_cases hlt : k < n
    · have hlt' : (k : Int) < (n : Int) := by omega
      have hk0 : (0 : Int) ≤ (k : Int) := by omega
      obtain ⟨b0, o0, rfl, hb0, hI⟩ := HR.out (by omega)
      have q0 : wr.cell? ⟨b0, o0 + k, none⟩ = some (.int .i64 (X k)) := (HB.out.cell (p := ⟨b0, o0 + k, none⟩) hb0).trans (hI k (by omega))
      have HD := Lib.hid (HDX.out k hlt _ (tab_below HT.out HB.out))
      have HS := Lib.hid (HXS.out k)
      have hl1 : k + 1 ≤ maxLen := by unfold maxLen; omega
      have hl2 : (k + 1) * 16 ≤ 140737488355328 := by omega
      clear hI
      generalize decB (X k) = dX at *
      go_wp2_with fail
      refine HD.out.mono ?_
      rintro e w2 ⟨rfl, hb⟩
      have HO2 := Lib.hid (owns_keep2 HO.out hb)
      have HK2 := Lib.hid (show w2.heap[w.heap.size]? = some (.cells #[.slice (some ⟨b0, o0, none⟩) n c, .int .i64 st] 26 (0, 0)) from (hb.block _ zk).trans HK.out)
      have HB2 := Lib.hid (HB.out.trans (hb.mono HB.out.size))
      have hzz := HB2.out.size
      clear hb HO HK HB zk
      go_wp2_with (at_builtin; refine wpList_append_own _ rfl _ _ 29 rfl w.heap.size 9 i0 (.string ByteArray.empty) 1 16 Tryd.underlying29 hi0 hz0 hz1 hz2 rfl (by decide) _ _ _ rfl (HO2.out.alloc _) ⟨w2.heap.size, 0, none⟩ 1 1 [.string dX] rfl rfl ?c1 ?c2 hl1 hl2 ?c5 ?_)
      case c1 => intro j u hj; rcases j with _ | j <;> simp at hj; subst hj; go_simp
      case c2 => intro u hu; simp at hu; subst hu; rfl
      case c5 => simp; omega
      intro v' w5 hown5 hgrow5 _
      have g5 : Below w.heap.size w w5 := Below.grown (HB2.out.alloc hzz _) hgrow5 (by simp; omega) (owns_from HO2.out)
      have HB5 := Lib.hid g5
      have HO5 : Hid (w5.ownsRow w.heap.size 9 1 v' (k + 1) (txL X (k + 1))) := by rw [HS.out]; exact hown5
      have HK5 := Lib.hid (show w5.heap[w.heap.size]? = some (.cells #[.slice (some ⟨b0, o0, none⟩) n c, .int .i64 st] 26 (0, 0)) from ((hgrow5.block w.heap.size (by simp; have := (Array.getElem?_eq_some_iff.1 HK2.out).1; omega) (fun e => ne_type2 HO2.out HK2.out (by decide) e.symm)).trans (Go.Deep.blk_alloc_lt _ _ _ (Array.getElem?_eq_some_iff.1 HK2.out).1)).trans HK2.out)
      clear hown5 hgrow5 g5
      go_wp2
      go_roundw
      case rel => exact ⟨k + 1, by omega, by go_num, HO5, HK5, HB5⟩
      case measure => simp [intOf]; omega
    · obtain rfl : k = n := by omega
      have p1 : wr.cell? ⟨w.heap.size, 1, none⟩ = some (.int .i64 st) := by have h := HK.out; simp [World.cell?, h]
      have HA' := HA6.out
      have HC' := HAD.out
      go_wp2_with fail
      go_region_held3 (fun x => x.cell? ⟨w.heap.size, 1, none⟩ = some (.int .i64 st)) (first | exact p1 | go_keep)
        (first
          | (go_at_call 55; refine (HJ.out _ _ (drew1_owns HO.out)).mono ?_; rintro e w2 ⟨rfl, hb⟩
             have HB2 := Lib.hid (HB.out.drew.trans (hb.mono (by have := HB.out.size; simp; omega)))
             have p1 : w2.cell? ⟨w.heap.size, 1, none⟩ = some (.int .i64 st) := (hb.cell (p := ⟨w.heap.size, 1, none⟩) (by simp; omega)).trans p1
             have z2 : w.heap.size < w2.heap.size := by have := hb.size; simp at this; omega
             clear hb)
          | (go_at_call 54; refine (HDS.out _ (tab_below HT.out HB2.out)).mono ?_; rintro e w3 ⟨rfl, hb⟩
             have HB3 := Lib.hid (HB2.out.trans (hb.mono HB2.out.size))
             have p1 : w3.cell? ⟨w.heap.size, 1, none⟩ = some (.int .i64 st) := (hb.cell (p := ⟨w.heap.size, 1, none⟩) z2).trans p1
             clear hb))
      go_wp2
      go_ret
      exact ⟨rfl, HB3.out⟩

end Go.Proofs.YtopiecbldnhihaaDoor.twt
