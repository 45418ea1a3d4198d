/-
  FaceOf of the model and of the program. No condition of a statement lies here.
-/
import Derived.Test.YtopiecbldnhihaaDoorQv
import Derived.Test.YtopiecbldnhihaaDoorQc
import Derived.Test.YtopiecbldnhihaaDoorFold10
namespace Go.Proofs.YtopiecbldnhihaaDoor.twl
open Go.ChangeShapes Go.WideShapes Go.ChangeAt Go.RowKit Go.Deep Go.Proofs.YtopiecbldnhihaaDoor.mem Go.Proofs.YtopiecbldnhihaaDoor.rod Go.Proofs.YtopiecbldnhihaaDoor.nums Go.Proofs.YtopiecbldnhihaaDoor.shp Go.Proofs.YtopiecbldnhihaaDoor.wv Go.Proofs.YtopiecbldnhihaaDoor.wk
set_option linter.unusedVariables false
set_option maxRecDepth 100000

/-- round r of a face, as a text -/
def faceU (s : ByteArray) (t r : Nat) : Nat → UInt8 := fun k => byteU s (plc s.size t k r)
def faceT (s : ByteArray) (t S r : Nat) : ByteArray := mkB (faceU s t r) S
/-- the answer is a new list of texts, and a code -/
def TextsCode (w : World) (n : Nat) (T : Nat → ByteArray) (code : Int) (e : Ending) (w' : World) : Prop :=
  ∃ A c, e = .returned (.tuple #[.slice A n c, .int .i64 code]) ∧ n ≤ c ∧ c ≤ maxLen ∧ split.RowT w' w.heap.size w'.heap.size A n T ∧ Below w.heap.size w w'
theorem texts_no {w w' : World} {T : Nat → ByteArray} {code : Int} (hb : Below w.heap.size w w') : TextsCode w 0 T code (.returned (.tuple #[.slice none 0 0, .int .i64 code])) w' :=
  ⟨none, 0, rfl, Nat.le_refl _, by unfold maxLen; omega, fun h => absurd h (by omega), hb⟩
def txL (T : Nat → ByteArray) (n : Nat) : List Value := (List.range n).map fun j => Value.string (T j)
theorem txL_succ (T : Nat → ByteArray) (n : Nat) : txL T (n + 1) = txL T n ++ [.string (T n)] := by unfold txL; rw [List.range_succ, List.map_append]; rfl
theorem rowT_owns {w : World} {B n : Nat} {v : Value} {T : Nat → ByteArray} (h : w.ownsRow B 9 1 v n (txL T n)) : ∃ A c, v = .slice A n c ∧ n ≤ c ∧ c ≤ maxLen ∧ split.RowT w B w.heap.size A n T := by
  have e : txL T n = (List.range (n * 1)).map (fun j => Value.string (T j)) := by unfold txL; rw [Nat.mul_one]
  rw [e] at h
  obtain ⟨A, c, e1, h1, h2, h3⟩ := ownV_of_owns h
  refine ⟨A, c, e1, h1, h2, fun hn => ?_⟩
  obtain ⟨g, e2, a, b, ho⟩ := h3 hn
  exact ⟨g, e2, a, b, by rwa [Nat.mul_one] at ho⟩
theorem info_text : (Tryd.prog.info? 9).map (fun i => (i.zero, i.size, i.bytes)) = some (some (.string ByteArray.empty), 1, 16) := by kernel_rfl
theorem owns_is {w : World} {B n size : Nat} {E : TypeId} {v : Value} {xs : List Value} (h : w.ownsRow B E size v n xs) : ∀ g, v.ownBlock = some g → ∃ c, w.heap[g]? = some (.cells c E (0, 0)) := fun j e => by
  rcases h.2 with ⟨rfl, _⟩ | ⟨g, cap, cur, rfl, hB, hh, _⟩
  · simp [Value.ownBlock] at e
  · simp [Value.ownBlock] at e
    subst e
    exact ⟨cur, hh⟩
theorem owns_in {w : World} {B n size : Nat} {E : TypeId} {v : Value} {xs : List Value} (h : w.ownsRow B E size v n xs) : ∀ g, v.ownBlock = some g → g < w.heap.size := fun j e => by
  obtain ⟨c, hc⟩ := owns_is h j e
  exact (Array.getElem?_eq_some_iff.1 hc).1
theorem face_row {w : World} {B g b R S : Nat} {s : ByteArray} {t : Nat} (h : FaceAt w B g b R S (fun r k => byteU s (plc s.size t k r))) {r : Nat} (hr : r < R) :
    (convert 22 9 (.slice (some ⟨b, r * S, none⟩) S S)).run Tryd.prog w = .ok (.string (faceT s t S r)) w := by
  refine run_str_row (P := Tryd.prog) w 22 9 5 Tryd.underlying22 Tryd.underlying5 Tryd.underlying9 _ S S (mkL (faceU s t r) S) (mkL_len _ _) fun j v hj => ?_
  have hjk : j < S := by have := (List.getElem?_eq_some_iff.1 hj).1; rw [List.length_map, mkL_len] at this; exact this
  have hc := h.cell hr hjk
  rw [List.getElem?_map, show (mkL (faceU s t r) S)[j]? = some (faceU s t r j) by simp [mkL, hjk]] at hj
  simp only [Option.map_some, Option.some.injEq] at hj
  rw [← hj, Addr.add_lit]
  exact hc

theorem at09_f (s : ByteArray) (t k r : Nat) (w : World) (h0 : 0 < s.size) (hs : s.size ≤ 12) (ht : t ≤ s.size) (hk : k ≤ 40) (hr : r ≤ 40) :
    Calls Tryd.prog 34 #[.string s, .int .i64 (t : Int), .int .i64 (k : Int), .int .i64 (r : Int)] w fun e w' => e = .returned (.int .u8 ((faceU s t r k).toNat : Int)) ∧ Drew w w' := at09_s s t k r w h0 hs ht hk hr

set_option maxHeartbeats 1000000 in
theorem faceOf_s_no (A : Option Addr) (n c : Nat) (X : Nat → Int) (st a b : Int) (T : Nat → ByteArray) (w : World) (hn : n ≤ maxLen) (hr : Sl w A n 1 X) (hv : twB n X st = false) :
    Calls Tryd.prog 7 #[.agg #[.slice A n c, .int .i64 st], .int .i64 a, .int .i64 b] w (TextsCode w 0 T 1) := by
  have HR := Lib.hid hr
  clear hr
  go_enter Tryd.func7, Tryd.ntmps7
  go_wp2_with fail
  refine (okT_s A n c w.heap.size X st _ hn (HR.out.below (K := w.heap.size) (by go_grown) (Nat.le_refl _)) (by go_simp) (by go_simp)).mono ?_
  rintro e w1 ⟨rfl, hd⟩
  have b1 : Below w.heap.size w w1 := by obtain ⟨m, rfl⟩ := hd; exact drewN_below (by go_grown) m
  clear hd
  rw [hv]
  go_wp2
  go_returns
  exact texts_no b1
set_option maxHeartbeats 1000000 in
theorem faceOf_s_out (A : Option Addr) (n c : Nat) (X : Nat → Int) (st a b : Int) (T : Nat → ByteArray) (w : World) (hn : n ≤ maxLen) (hr : Sl w A n 1 X) (hv : twB n X st = true) (ho : (inB a 1 40 && inB b 1 40) = false) :
    Calls Tryd.prog 7 #[.agg #[.slice A n c, .int .i64 st], .int .i64 a, .int .i64 b] w (TextsCode w 0 T 2) := by
  have HR := Lib.hid hr
  clear hr
  have H1 := Lib.hid (fun W => in_s a 1 40 W)
  have H2 := Lib.hid (fun W => in_s b 1 40 W)
  cases h1 : inB a 1 40
  all_goals
    rw [h1] at H1 ho
  · clear H2 ho
    go_enter Tryd.func7, Tryd.ntmps7
    go_wp2_with fail
    refine (okT_s A n c w.heap.size X st _ hn (HR.out.below (K := w.heap.size) (by go_grown) (Nat.le_refl _)) (by go_simp) (by go_simp)).mono ?_
    rintro e w1 ⟨rfl, hd⟩
    have b1 : Below w.heap.size w w1 := by obtain ⟨m, rfl⟩ := hd; exact drewN_below (by go_grown) m
    clear hd
    rw [hv]
    go_wp2_with (go_at_call 32; refine (H1.out _).mono ?_; rintro e w' ⟨rfl, rfl⟩)
    go_returns
    exact texts_no b1
  · have h2 : inB b 1 40 = false := by simpa using ho
    rw [h2] at H2
    clear ho
    go_enter Tryd.func7, Tryd.ntmps7
    go_wp2_with fail
    refine (okT_s A n c w.heap.size X st _ hn (HR.out.below (K := w.heap.size) (by go_grown) (Nat.le_refl _)) (by go_simp) (by go_simp)).mono ?_
    rintro e w1 ⟨rfl, hd⟩
    have b1 : Below w.heap.size w w1 := by obtain ⟨m, rfl⟩ := hd; exact drewN_below (by go_grown) m
    clear hd
    rw [hv]
    go_wp2_with (first
      | (go_at_call_of 32 (Value.int IntKind.i64 a); refine (H1.out _).mono ?_; rintro e w' ⟨rfl, rfl⟩)
      | (go_at_call_of 32 (Value.int IntKind.i64 b); refine (H2.out _).mono ?_; rintro e w' ⟨rfl, rfl⟩))
    go_returns
    exact texts_no b1

set_option maxHeartbeats 1000000 in
theorem faceOf_i_no (A : Option Addr) (n c : Nat) (X : Nat → Int) (st a b : Int) (T : Nat → ByteArray) (w : World) (hn : n ≤ maxLen) (hr : Sl w A n 1 X) (hv : twB n X st = false) :
    Calls Tryd.prog 6 #[.agg #[.slice A n c, .int .i64 st], .int .i64 a, .int .i64 b] w (TextsCode w 0 T 1) := by
  have HR := Lib.hid hr
  clear hr
  go_enter Tryd.func6, Tryd.ntmps6
  go_wp2_with fail
  refine (twval_i A n c X st _ hn (HR.out.below (K := w.heap.size) (by go_grown) (Nat.le_refl _))).mono ?_
  rintro e w1 ⟨rfl, hd⟩
  have b1 : Below w.heap.size w w1 := Below.trans (by go_grown) (hd.mono (by simp))
  clear hd
  rw [hv]
  go_wp2
  go_returns
  exact texts_no b1
set_option maxHeartbeats 1000000 in
theorem faceOf_i_out (A : Option Addr) (n c : Nat) (X : Nat → Int) (st a b : Int) (T : Nat → ByteArray) (w : World) (hn : n ≤ maxLen) (hr : Sl w A n 1 X) (hv : twB n X st = true) (ho : (inB a 1 40 && inB b 1 40) = false) :
    Calls Tryd.prog 6 #[.agg #[.slice A n c, .int .i64 st], .int .i64 a, .int .i64 b] w (TextsCode w 0 T 2) := by
  have HR := Lib.hid hr
  clear hr
  have H1 := Lib.hid (fun W => in_i a 1 40 W)
  have H2 := Lib.hid (fun W => in_i b 1 40 W)
  cases h1 : inB a 1 40
  all_goals
    rw [h1] at H1 ho
  · clear H2 ho
    go_enter Tryd.func6, Tryd.ntmps6
    go_wp2_with fail
    refine (twval_i A n c X st _ hn (HR.out.below (K := w.heap.size) (by go_grown) (Nat.le_refl _))).mono ?_
    rintro e w1 ⟨rfl, hd⟩
    have b1 : Below w.heap.size w w1 := Below.trans (by go_grown) (hd.mono (by simp))
    clear hd
    rw [hv]
    go_wp2_with (go_at_call 29; refine (H1.out _).mono ?_; rintro e w' ⟨rfl, rfl⟩)
    go_returns
    exact texts_no b1
  · have h2 : inB b 1 40 = false := by simpa using ho
    rw [h2] at H2
    clear ho
    go_enter Tryd.func6, Tryd.ntmps6
    go_wp2_with fail
    refine (twval_i A n c X st _ hn (HR.out.below (K := w.heap.size) (by go_grown) (Nat.le_refl _))).mono ?_
    rintro e w1 ⟨rfl, hd⟩
    have b1 : Below w.heap.size w w1 := Below.trans (by go_grown) (hd.mono (by simp))
    clear hd
    rw [hv]
    go_wp2_with (first
      | (go_at_call_of 29 (Value.int IntKind.i64 a); refine (H1.out _).mono ?_; rintro e w' ⟨rfl, rfl⟩)
      | (go_at_call_of 29 (Value.int IntKind.i64 b); refine (H2.out _).mono ?_; rintro e w' ⟨rfl, rfl⟩))
    go_returns
    exact texts_no b1

set_option maxHeartbeats 8000000 in
theorem faceOf_i (A : Option Addr) (n c : Nat) (X : Nat → Int) (t S R : Nat) (w : World) (hr : Sl w A n 1 X) (hv : twB n X (t : Int) = true) (h1 : inB (S : Int) 1 40 = true) (h2 : inB (R : Int) 1 40 = true) :
    Calls Tryd.prog 6 #[.agg #[.slice A n c, .int .i64 (t : Int)], .int .i64 (S : Int), .int .i64 (R : Int)] w (TextsCode w R (faceT (rowB X n) t S) 0) := by
  have T := twB_of hv
  have h12 := T.n12
  have hn : n ≤ maxLen := by unfold maxLen; omega
  obtain ⟨s0, s1⟩ := inB_of h1
  obtain ⟨r0, r1⟩ := inB_of h2
  have HR := Lib.hid hr
  clear hr
  have H1 := Lib.hid (fun W => in_i (S : Int) 1 40 W)
  have H2 := Lib.hid (fun W => in_i (R : Int) 1 40 W)
  rw [h1] at H1
  rw [h2] at H2
  have HN := Lib.hid (fun W (hw : Below w.heap.size w W) => face9_i A n c X t S R W T (HR.out.below hw (Nat.le_refl _)) (by omega) (by omega) (by omega) (by omega))
  generalize rowB X n = s at *
  obtain ⟨G, hG⟩ : ∃ G, G = faceT s t S := ⟨_, rfl⟩
  have HG := Lib.hid hG
  rw [← hG]
  clear hG h1 h2
  obtain ⟨i0, hi0, hz0, hz1, hz2⟩ := info_parts info_text
  go_enter Tryd.func6, Tryd.ntmps6
  go_wp2_with fail
  refine (twval_i A n c X (t : Int) _ hn (HR.out.below (K := w.heap.size) (by go_grown) (Nat.le_refl _))).mono ?_
  rintro e w1 ⟨rfl, hb⟩
  have p0 : w1.cell? ⟨w.heap.size, 0, none⟩ = some (.slice A n c) := by rw [(bcell hb).1 _ _ (by simp)]; go_simp
  have p1 : w1.cell? ⟨w.heap.size, 1, none⟩ = some (.int .i64 (t : Int)) := by rw [(bcell hb).1 _ _ (by simp)]; go_simp
  have b1 : Below w.heap.size w w1 := Below.trans (by go_grown) (hb.mono (by simp))
  clear hb
  rw [hv]
  go_wp2_with (first
    | (go_at_call_of 29 (Value.int IntKind.i64 (S : Int)); refine (H1.out _).mono ?_; rintro e w' ⟨rfl, rfl⟩)
    | (go_at_call_of 29 (Value.int IntKind.i64 (R : Int)); refine (H2.out _).mono ?_; rintro e w' ⟨rfl, rfl⟩)
    | (go_at_call 30; refine (HN.out _ b1).mono ?_; rintro e w2 ⟨g, b, cap, rfl, hc1, hc2, hF, hb⟩))
  have HF := Lib.hid (FaceAt.lower hF b1.size)
  have HB := Lib.hid (b1.trans (hb.mono b1.size))
  clear hF hb b1 p0 p1
  go_loopw [27, 8] (fun i v wr => ∃ r : Nat, r ≤ R ∧ i = .int .i64 (r : Int) ∧ Hid (wr.ownsRow w.heap.size 9 1 v r (txL G r)) ∧ Hid (FaceAt wr w.heap.size g b R S (fun r k => byteU s (plc s.size t k r))) ∧ Hid (Below w.heap.size w wr)) (fun i _ _ => R - (intOf i).toNat)
  case atStart => exact ⟨0, by omega, rfl, ⟨rfl, .inl ⟨rfl, rfl⟩⟩, HF, HB⟩
  case round =>
    clear HF HB
    obtain ⟨r, hr, rfl, HO, HF, HB⟩ := hrel
    by_cases hlt : r < R
    · have hlt' : (r : Int) < (R : Int) := by omega
      have hr0 : (0 : Int) ≤ (r : Int) := by omega
      have hl1 : r + 1 ≤ maxLen := by unfold maxLen; omega
      have hl2 : (r + 1) * 16 ≤ 140737488355328 := by omega
      have q0 := HF.out.round hlt
      have hcv := face_row HF.out hlt
      have HS := Lib.hid (txL_succ G r)
      rw [← HG.out] at hcv
      generalize r * S = m at *
      generalize G r = line at *
      have hzz := HB.out.size
      go_wp2_with (at_builtin; refine wpList_append_own _ rfl _ _ 29 rfl w.heap.size 9 i0 (.string ByteArray.empty) 1 16 Tryd.underlying29 hi0 hz0 hz1 hz2 rfl (by decide) _ _ _ rfl (HO.out.alloc _) ⟨wr.heap.size, 0, none⟩ 1 1 [.string line] rfl rfl ?c1 ?c2 hl1 hl2 ?c5 ?_)
      case c1 => intro j u hj; rcases j with _ | j <;> simp at hj; subst hj; go_simp
      case c2 => intro u hu; simp at hu; subst hu; rfl
      case c5 => simp; omega
      intro v' w5 hown5 hgrow5 _
      have g5 : Below w.heap.size w w5 := Below.grown (HB.out.alloc hzz _) hgrow5 (by simp; omega) (owns_block HO.out)
      have HB5 := Lib.hid g5
      have HO5 : Hid (w5.ownsRow w.heap.size 9 1 v' (r + 1) (txL G (r + 1))) := by rw [HS.out]; exact hown5
      have HF5 : Hid (FaceAt w5 w.heap.size g b R S (fun r k => byteU s (plc s.size t k r))) := ⟨
        HF.out.list.of_block ((hgrow5.block g (by simp; have := HF.out.list.lt; omega) (fun e => ownV_ne HF.out.list HO.out (by decide) e.symm)).trans (Go.Deep.blk_alloc_lt _ _ _ HF.out.list.lt)),
        HF.out.rows.of_block ((hgrow5.block b (by simp; have := HF.out.rows.lt; omega) (fun e => ownV_ne HF.out.rows HO.out (by decide) e.symm)).trans (Go.Deep.blk_alloc_lt _ _ _ HF.out.rows.lt)), HF.out.lo⟩
      clear hown5 hgrow5 g5
      go_wp2
      go_roundw
      case rel => exact ⟨r + 1, by omega, by go_num, HO5, HF5, HB5⟩
      case measure => simp [intOf]; omega
    · obtain rfl : r = R := by omega
      obtain ⟨A8, c8, rfl, k1, k2, k3⟩ := rowT_owns HO.out
      have HK3 := Lib.hid k3
      clear k3
      go_wp2
      go_returns
      exact ⟨A8, c8, rfl, k1, k2, HK3.out, HB.out⟩

set_option maxHeartbeats 8000000 in
theorem faceOf_s (A : Option Addr) (n c : Nat) (X : Nat → Int) (t S R : Nat) (w : World) (hr : Sl w A n 1 X) (hv : twB n X (t : Int) = true) (h1 : inB (S : Int) 1 40 = true) (h2 : inB (R : Int) 1 40 = true) :
    Calls Tryd.prog 7 #[.agg #[.slice A n c, .int .i64 (t : Int)], .int .i64 (S : Int), .int .i64 (R : Int)] w (TextsCode w R (faceT (rowB X n) t S) 0) := by
  have T := twB_of hv
  have hz := row_size T
  have h12 := T.n12
  have hw := T.wide
  have t1 := T.st1
  have t2 := T.st2
  have hn : n ≤ maxLen := by unfold maxLen; omega
  obtain ⟨s0, s1⟩ := inB_of h1
  obtain ⟨r0, r1⟩ := inB_of h2
  have HR := Lib.hid hr
  clear hr
  have H1 := Lib.hid (fun W => in_s (S : Int) 1 40 W)
  have H2 := Lib.hid (fun W => in_s (R : Int) 1 40 W)
  rw [h1] at H1
  rw [h2] at H2
  have HRW := Lib.hid (fun W (hw : Below w.heap.size w W) p0 => row_s A n c w.heap.size X W h12 T.part (HR.out.below hw (Nat.le_refl _)) p0)
  rw [← hz] at hw t2
  have HAT := Lib.hid (fun (k r : Nat) W (hk : k ≤ 40) (hr : r ≤ 40) => at09_f (rowB X n) t k r W (by omega) (by omega) (by omega) hk hr)
  generalize rowB X n = s at *
  obtain ⟨G, hG⟩ : ∃ G, G = faceT s t S := ⟨_, rfl⟩
  have HG : Hid (∀ r, G r = ⟨(mkL (faceU s t r) S).toArray⟩) := by rw [hG]; exact fun _ => rfl
  rw [← hG]
  clear hG h1 h2 hz hw t1 t2
  obtain ⟨i0, hi0, hz0, hz1, hz2⟩ := info_parts info_text
  obtain ⟨j0, hj0, hy0, hy1, hy2⟩ := info_parts info_u8
  go_enter Tryd.func7, Tryd.ntmps7
  go_wp2_with fail
  refine (okT_s A n c w.heap.size X (t : Int) _ hn (HR.out.below (K := w.heap.size) (by go_grown) (Nat.le_refl _)) (by go_simp) (by go_simp)).mono ?_
  rintro e w1 ⟨rfl, hd⟩
  have HK := Lib.hid (drew_tw hd (Go.Deep.blk_alloc_new _ _ : TwBlk (w.alloc (Obj.cells #[Value.slice A n c, .int .i64 (t : Int)] 26)) w.heap.size (.slice A n c) (t : Int)))
  have HB : Hid (Below w.heap.size w w1) := by obtain ⟨m, rfl⟩ := hd; exact drewN_below (by go_grown) m
  clear hd
  have p0 := HK.out.cell0
  rw [hv]
  go_wp2_with (first
    | (go_at_call_of 32 (Value.int IntKind.i64 (S : Int)); refine (H1.out _).mono ?_; rintro e w' ⟨rfl, rfl⟩)
    | (go_at_call_of 32 (Value.int IntKind.i64 (R : Int)); refine (H2.out _).mono ?_; rintro e w' ⟨rfl, rfl⟩)
    | (go_at_call 33; refine (HRW.out _ HB.out p0).mono ?_; rintro e w' ⟨rfl, rfl⟩))
  clear p0
  have HO0 : Hid ((w1.alloc (Obj.cells #[] 9)).ownsRow w.heap.size 9 1 (.slice (some ⟨w1.heap.size, 0, none⟩) 0 0) 0 (txL G 0)) := ⟨rfl, .inr ⟨w1.heap.size, 0, #[], rfl, HB.out.size, Go.Deep.blk_alloc_new _ _, Nat.le_refl _, by unfold maxLen; omega, rfl, rfl⟩⟩
  have HK0 := Lib.hid (HK.out.of_block (w' := w1.alloc (Obj.cells #[] 9)) (Go.Deep.blk_alloc_lt _ _ _ HK.out.lt))
  have HB0 := Lib.hid (show Below w.heap.size w (w1.alloc (Obj.cells #[] 9)) from HB.out.alloc HB.out.size _)
  generalize w1.alloc (Obj.cells #[] 9) = wa at *
  generalize Value.slice (some ⟨w1.heap.size, 0, none⟩) 0 0 = va at *
  clear HK HB
  go_loopw [10, 9] (fun i v wr => ∃ r : Nat, r ≤ R ∧ i = .int .i64 (r : Int) ∧ Hid (wr.ownsRow w.heap.size 9 1 v r (txL G r)) ∧ Hid (TwBlk wr w.heap.size (.slice A n c) (t : Int)) ∧ Hid (Below w.heap.size w wr)) (fun i _ _ => R - (intOf i).toNat)
  case atStart => exact ⟨0, by omega, rfl, HO0, HK0, HB0⟩
  case round =>
    clear HO0 HK0 HB0
    obtain ⟨r, hr, rfl, HO, HK, HB⟩ := hrel
    by_cases hlt : r < R
    · have hlt' : (r : Int) < (R : Int) := by omega
      have HAT1 := Lib.hid (fun (k : Nat) (hk : k ≤ 40) W => HAT.out k r W hk (by omega))
      have HG1 := Lib.hid (HG.out r)
      have HS := Lib.hid (txL_succ G r)
      generalize faceU s t r = f at *
      generalize G r = line at *
      go_wp2_with fail
      have HL0 : Hid ((wr.alloc (Obj.cells #[] 5)).ownsRow w.heap.size 5 1 (.slice (some ⟨wr.heap.size, 0, none⟩) 0 0) 0 ((mkL f 0).map bv)) := ownsB_empty wr _ _ HB.out.size
      have HO1 := Lib.hid (owns_keep (w' := wr.alloc (Obj.cells #[] 5)) HO.out fun g _ hg => Go.Deep.blk_alloc_lt _ _ _ hg)
      have HK1 := Lib.hid (HK.out.of_block (w' := wr.alloc (Obj.cells #[] 5)) (Go.Deep.blk_alloc_lt _ _ _ HK.out.lt))
      have HB1 := Lib.hid (show Below w.heap.size w (wr.alloc (Obj.cells #[] 5)) from HB.out.alloc HB.out.size _)
      generalize wr.alloc (Obj.cells #[] 5) = wb at *
      generalize Value.slice (some ⟨wr.heap.size, 0, none⟩) 0 0 = vb at *
      clear HO HK HB
      go_loopw [12, 11] (fun i v wr => ∃ k : Nat, k ≤ S ∧ i = .int .i64 (k : Int) ∧ Hid (wr.ownsRow w.heap.size 5 1 v k ((mkL f k).map bv)) ∧ Hid (wr.ownsRow w.heap.size 9 1 u9 r (txL G r)) ∧ Hid (TwBlk wr w.heap.size (.slice A n c) (t : Int)) ∧ Hid (Below w.heap.size w wr)) (fun i _ _ => S - (intOf i).toNat)
      case atStart => exact ⟨0, by omega, rfl, HL0, HO1, HK1, HB1⟩
      case round =>
        clear HL0 HO1 HK1 HB1
        obtain ⟨k, hk, rfl, HL, HO, HK, HB⟩ := hrel
        have c1 := HK.out.cell1
        by_cases hlk : k < S
        · have hlk' : (k : Int) < (S : Int) := by omega
          have hl1 : k + 1 ≤ maxLen := by unfold maxLen; omega
          have hl2 : (k + 1) * 1 ≤ 140737488355328 := by omega
          have HA2 := Lib.hid (HAT1.out k (by omega))
          have HS2 := Lib.hid (mkL_succ f k)
          have hbv := Lib.hid (show bv (f k) = .int .u8 ((f k).toNat : Int) from rfl)
          generalize f k = b at *
          go_wp2_with fail
          refine (HA2.out _).mono ?_
          rintro e w2 ⟨rfl, hd⟩
          have HL2 := Lib.hid (drew_owns hd HL.out)
          have HO2 := Lib.hid (drew_owns hd HO.out)
          have HK2 := Lib.hid (drew_tw hd HK.out)
          have HB2 := Lib.hid (HB.out.trans ((drew_below hd).mono HB.out.size))
          have hzz := HB2.out.size
          clear hd HL HO HK HB
          go_wp2_with (at_builtin; refine wpList_append_own _ rfl _ _ 22 rfl w.heap.size 5 j0 (.int .u8 0) 1 1 Tryd.underlying22 hj0 hy0 hy1 hy2 rfl (by decide) _ _ _ rfl (HL2.out.alloc _) ⟨w2.heap.size, 0, none⟩ 1 1 [bv b] rfl rfl ?c1 ?c2 hl1 hl2 ?c5 ?_)
          case c1 => intro j u hj; rcases j with _ | j <;> simp at hj; subst hj; rw [hbv.out]; go_simp
          case c2 => intro u hu; simp at hu; subst hu; rfl
          case c5 => simp; omega
          intro v' w5 hown5 hgrow5 _
          have g5 : Below w.heap.size w w5 := Below.grown (HB2.out.alloc hzz _) hgrow5 (by simp; omega) (owns_block HL2.out)
          have HB5 := Lib.hid g5
          have HL5 := Lib.hid (ownsB_snoc hown5)
          have HO5 := Lib.hid (owns_keep (w' := w5) HO2.out fun g e hg => by
            obtain ⟨cs, hcs⟩ := owns_is HO2.out g e
            exact (hgrow5.block g (by simp; omega) (fun e2 => ne_type HL2.out hcs (by decide) e2.symm)).trans (Go.Deep.blk_alloc_lt _ _ _ hg))
          have HK5 := Lib.hid (HK2.out.of_block (w' := w5) ((hgrow5.block w.heap.size (by simp; have := HK2.out.lt; omega) (fun e => ne_type HL2.out HK2.out (by decide) e.symm)).trans (Go.Deep.blk_alloc_lt _ _ _ HK2.out.lt)))
          clear hown5 hgrow5 g5
          go_wp2
          go_roundw
          case rel => exact ⟨k + 1, by omega, by go_num, by rw [HS2.out]; exact HL5.out, HO5, HK5, HB5⟩
          case measure => simp [intOf]; omega
        · obtain rfl : k = S := by omega
          have hl1 : r + 1 ≤ maxLen := by unfold maxLen; omega
          have hl2 : (r + 1) * 16 ≤ 140737488355328 := by omega
          have hcv1 : (convert 22 9 u11).run Tryd.prog wr = .ok (.string line) wr := by
            rw [HG1.out]
            exact str_of_owns (P := Tryd.prog) 22 9 5 Tryd.underlying22 Tryd.underlying5 Tryd.underlying9 (mkL f k) HL.out
          have hzz := HB.out.size
          go_wp2_with (at_builtin; refine wpList_append_own _ rfl _ _ 29 rfl w.heap.size 9 i0 (.string ByteArray.empty) 1 16 Tryd.underlying29 hi0 hz0 hz1 hz2 rfl (by decide) _ _ _ rfl (HO.out.alloc _) ⟨wr.heap.size, 0, none⟩ 1 1 [.string line] rfl rfl ?c1 ?c2 hl1 hl2 ?c5 ?_)
          case c1 => intro j u hj; rcases j with _ | j <;> simp at hj; subst hj; go_simp
          case c2 => intro u hu; simp at hu; subst hu; rfl
          case c5 => simp; omega
          intro v' w5 hown5 hgrow5 _
          have g5 : Below w.heap.size w w5 := Below.grown (HB.out.alloc hzz _) hgrow5 (by simp; omega) (owns_block HO.out)
          have HB5 := Lib.hid g5
          have HO5 : Hid (w5.ownsRow w.heap.size 9 1 v' (r + 1) (txL G (r + 1))) := by rw [HS.out]; exact hown5
          have HK5 := Lib.hid (HK.out.of_block (w' := w5) ((hgrow5.block w.heap.size (by simp; have := HK.out.lt; omega) (fun e => ne_type HO.out HK.out (by decide) e.symm)).trans (Go.Deep.blk_alloc_lt _ _ _ HK.out.lt)))
          clear hown5 hgrow5 g5
          go_wp2
          go_roundw
          case rel => exact ⟨r + 1, by omega, by go_num, HO5, HK5, HB5⟩
          case measure => simp [intOf]; omega
    · obtain rfl : r = R := by omega
      obtain ⟨A8, c8, rfl, k1, k2, k3⟩ := rowT_owns HO.out
      have HK3 := Lib.hid k3
      clear k3
      go_wp2
      go_returns
      exact ⟨A8, c8, rfl, k1, k2, HK3.out, HB.out⟩

end Go.Proofs.YtopiecbldnhihaaDoor.twl
