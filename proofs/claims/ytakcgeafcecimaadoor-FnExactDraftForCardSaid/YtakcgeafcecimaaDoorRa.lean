/-
  DraftFor of the model and of the program. No condition of a statement lies here.
-/
import Derived.Test.YtakcgeafcecimaaDoorQx
import Derived.Test.YtakcgeafcecimaaDoorQj
namespace Go.Proofs.YtakcgeafcecimaaDoor.twl
open Go.ChangeShapes Go.WideShapes Go.ChangeAt Go.RowKit Go.Deep Go.Proofs.YtakcgeafcecimaaDoor.mem Go.Proofs.YtakcgeafcecimaaDoor.rod Go.Proofs.YtakcgeafcecimaaDoor.nums Go.Proofs.YtakcgeafcecimaaDoor.shp Go.Proofs.YtakcgeafcecimaaDoor.wv Go.Proofs.YtakcgeafcecimaaDoor.wk
set_option linter.unusedVariables false
set_option maxRecDepth 100000

/-- the answer is a draft of the call's own, and a code -/
def TwCode (w : World) (l : List Int) (st code : Int) (e : Ending) (w' : World) : Prop :=
  ∃ A c, e = .returned (.tuple #[.agg #[.slice A l.length c, .int .i64 st], .int .i64 code]) ∧ l.length ≤ c ∧ c ≤ maxLen ∧ Row w' w.heap.size w'.heap.size A l.length 1 2 (fun j => l.getD j 0) ∧ Below w.heap.size w w'
theorem tw_new (w : World) : TwBlk (w.alloc (Obj.cells #[Value.slice none 0 0, .int .i64 0] 24)) w.heap.size (.slice none 0 0) 0 := Go.Deep.blk_alloc_new _ _

set_option maxHeartbeats 2000000 in
theorem draft_s_bad (s : ByteArray) (x : Int) (w : World) (hs : s.size ≤ 1048576) (hv : strokeB s = false) :
    Calls Tryd.prog 5 #[.string s, .int .i64 x] w (TwCode w [] 0 7) := by
  have HOK := Lib.hid (fun W => ok_s s W hs)
  rw [hv] at HOK
  go_enter Tryd.func5, Tryd.ntmps5
  go_wp2_with fail
  refine (HOK.out _).mono ?_
  rintro e w' ⟨rfl, rfl⟩
  have K1 := tw_new w
  have b1 : Below w.heap.size w (w.alloc (Obj.cells #[Value.slice none 0 0, .int .i64 0] 24)) := by go_grown
  generalize hw1 : w.alloc (Obj.cells #[Value.slice none 0 0, .int .i64 0] 24) = w1 at *
  clear hw1
  have q0 := K1.cell0
  have q1 := K1.cell1
  have qf0 := K1.frozen 0
  have qf1 := K1.frozen 1
  go_wp2
  exact bodyPost_ret (v := .tuple #[.agg #[.slice none 0 0, .int .i64 0], .int .i64 7]) (by simp [results, Tryd.results5, go_sem, q0, q1]) rfl
    ⟨none, 0, rfl, Nat.le_refl _, by unfold maxLen; omega, Row.none_, Below.setCell (Below.setCell b1 (by simp) _) (by simp) _⟩

set_option maxHeartbeats 2000000 in
theorem draft_s_one (s : ByteArray) (x : Int) (w : World) (hs : s.size ≤ 1048576) (hv : strokeB s = true) (h2 : s.size < 2) :
    Calls Tryd.prog 5 #[.string s, .int .i64 x] w (TwCode w [] 0 7) := by
  have HOK := Lib.hid (fun W => ok_s s W hs)
  rw [hv] at HOK
  have h2' : (s.size : Int) < 2 := by omega
  go_enter Tryd.func5, Tryd.ntmps5
  go_wp2_with fail
  refine (HOK.out _).mono ?_
  rintro e w' ⟨rfl, rfl⟩
  have K1 := tw_new w
  have b1 : Below w.heap.size w (w.alloc (Obj.cells #[Value.slice none 0 0, .int .i64 0] 24)) := by go_grown
  generalize hw1 : w.alloc (Obj.cells #[Value.slice none 0 0, .int .i64 0] 24) = w1 at *
  clear hw1
  have q0 := K1.cell0
  have q1 := K1.cell1
  have qf0 := K1.frozen 0
  have qf1 := K1.frozen 1
  go_wp2
  exact bodyPost_ret (v := .tuple #[.agg #[.slice none 0 0, .int .i64 0], .int .i64 7]) (by simp [results, Tryd.results5, go_sem, q0, q1]) rfl
    ⟨none, 0, rfl, Nat.le_refl _, by unfold maxLen; omega, Row.none_, Below.setCell (Below.setCell b1 (by simp) _) (by simp) _⟩

set_option maxHeartbeats 2000000 in
theorem draft_s_out (s : ByteArray) (x : Int) (w : World) (hs : s.size ≤ 1048576) (hv : strokeB s = true) (h2 : 2 ≤ s.size) (hi : inB x 1 ((s.size : Int) - 1) = false) :
    Calls Tryd.prog 5 #[.string s, .int .i64 x] w (TwCode w [] 0 2) := by
  have HOK := Lib.hid (fun W => ok_s s W hs)
  rw [hv] at HOK
  obtain ⟨h0, h12, _⟩ := stroke_of hv
  have h2' : ¬ (s.size : Int) < 2 := by omega
  have hwn : wrap64 ((s.size : Int) - 1) = (s.size : Int) - 1 := IntWalk.wrap64_in _ ⟨by omega, by omega⟩
  have HIN := Lib.hid (fun W => in_s x 1 ((s.size : Int) - 1) W)
  rw [hi] at HIN
  go_enter Tryd.func5, Tryd.ntmps5
  go_wp2_with fail
  refine (HOK.out _).mono ?_
  rintro e w' ⟨rfl, rfl⟩
  have K1 := tw_new w
  have b1 : Below w.heap.size w (w.alloc (Obj.cells #[Value.slice none 0 0, .int .i64 0] 24)) := by go_grown
  generalize hw1 : w.alloc (Obj.cells #[Value.slice none 0 0, .int .i64 0] 24) = w1 at *
  clear hw1
  have q0 := K1.cell0
  have q1 := K1.cell1
  have qf0 := K1.frozen 0
  have qf1 := K1.frozen 1
  go_wp2_with (go_at_call 15; refine (HIN.out _).mono ?_; rintro e w' ⟨rfl, rfl⟩)
  exact bodyPost_ret (v := .tuple #[.agg #[.slice none 0 0, .int .i64 0], .int .i64 2]) (by simp [results, Tryd.results5, go_sem, q0, q1]) rfl
    ⟨none, 0, rfl, Nat.le_refl _, by unfold maxLen; omega, Row.none_, Below.setCell (Below.setCell b1 (by simp) _) (by simp) _⟩

set_option maxHeartbeats 2000000 in
theorem draft_s_none (s : ByteArray) (x : Int) (w : World) (hs : s.size ≤ 1048576) (hv : strokeB s = true) (h2 : 2 ≤ s.size) (hi : inB x 1 ((s.size : Int) - 1) = true) (hf : ∀ i, i < s.size → ¬ frontAt s i) :
    Calls Tryd.prog 5 #[.string s, .int .i64 x] w (TwCode w [] 0 6) := by
  have HOK := Lib.hid (fun W => ok_s s W hs)
  rw [hv] at HOK
  obtain ⟨h0, h12, _⟩ := stroke_of hv
  have h2' : ¬ (s.size : Int) < 2 := by omega
  have hwn : wrap64 ((s.size : Int) - 1) = (s.size : Int) - 1 := IntWalk.wrap64_in _ ⟨by omega, by omega⟩
  have HIN := Lib.hid (fun W => in_s x 1 ((s.size : Int) - 1) W)
  rw [hi] at HIN
  go_enter Tryd.func5, Tryd.ntmps5
  go_wp2_with fail
  refine (HOK.out _).mono ?_
  rintro e w' ⟨rfl, rfl⟩
  have K1 := tw_new w
  have b1 : Below w.heap.size w (w.alloc (Obj.cells #[Value.slice none 0 0, .int .i64 0] 24)) := by go_grown
  generalize hw1 : w.alloc (Obj.cells #[Value.slice none 0 0, .int .i64 0] 24) = w1 at *
  clear hw1
  have q0 := K1.cell0
  have q1 := K1.cell1
  have qf0 := K1.frozen 0
  have qf1 := K1.frozen 1
  go_wp2_with (go_at_call 15; refine (HIN.out _).mono ?_; rintro e w' ⟨rfl, rfl⟩)
  refine (turn_no s hf _ h0 h12).mono ?_
  rintro e w2 ⟨rfl, hd⟩
  have K2 : TwBlk w2 w.heap.size (.slice none 0 0) 0 := by obtain ⟨m, rfl⟩ := hd; exact K1
  have b2 : Below w.heap.size w w2 := by obtain ⟨m, rfl⟩ := hd; exact drewN_below b1 m
  clear hd q0 q1 qf0 qf1 K1 b1
  have q0 := K2.cell0
  have q1 := K2.cell1
  have qf0 := K2.frozen 0
  have qf1 := K2.frozen 1
  go_wp2
  exact bodyPost_ret (v := .tuple #[.agg #[.slice none 0 0, .int .i64 0], .int .i64 6]) (by simp [results, Tryd.results5, go_sem, q0, q1]) rfl
    ⟨none, 0, rfl, Nat.le_refl _, by unfold maxLen; omega, Row.none_, Below.setCell (Below.setCell b2 (by simp) _) (by simp) _⟩

set_option maxHeartbeats 2000000 in
theorem draft_s_yes (s : ByteArray) (x : Int) (w : World) (hs : s.size ≤ 1048576) (f : Nat) (hv : strokeB s = true) (h2 : 2 ≤ s.size) (hi : inB x 1 ((s.size : Int) - 1) = true) (hf : First s f) :
    Calls Tryd.prog 5 #[.string s, .int .i64 x] w (TwCode w (rle (tB s f) (tB s f).size) x 0) := by
  have HOK := Lib.hid (fun W => ok_s s W hs)
  rw [hv] at HOK
  obtain ⟨h0, h12, _⟩ := stroke_of hv
  have h2' : ¬ (s.size : Int) < 2 := by omega
  have hwn : wrap64 ((s.size : Int) - 1) = (s.size : Int) - 1 := IntWalk.wrap64_in _ ⟨by omega, by omega⟩
  have HIN := Lib.hid (fun W => in_s x 1 ((s.size : Int) - 1) W)
  rw [hi] at HIN
  have htz := tB_size s (k := f) (by have := hf.1; omega)
  have HDR := Lib.hid (fun W => draft_s (tB s f) x W (by omega))
  obtain ⟨L, hL⟩ : ∃ L, L = rle (tB s f) (tB s f).size := ⟨_, rfl⟩
  rw [← hL] at HDR ⊢
  clear hL
  go_enter Tryd.func5, Tryd.ntmps5
  go_wp2_with fail
  refine (HOK.out _).mono ?_
  rintro e w' ⟨rfl, rfl⟩
  have K1 := tw_new w
  have b1 : Below w.heap.size w (w.alloc (Obj.cells #[Value.slice none 0 0, .int .i64 0] 24)) := by go_grown
  generalize hw1 : w.alloc (Obj.cells #[Value.slice none 0 0, .int .i64 0] 24) = w1 at *
  clear hw1
  have q0 := K1.cell0
  have q1 := K1.cell1
  have qf0 := K1.frozen 0
  have qf1 := K1.frozen 1
  go_wp2_with (go_at_call 15; refine (HIN.out _).mono ?_; rintro e w' ⟨rfl, rfl⟩)
  refine (turn_yes s f hf _ h0 h12).mono ?_
  rintro e w2 ⟨rfl, hd⟩
  have K2 : TwBlk w2 w.heap.size (.slice none 0 0) 0 := by obtain ⟨m, rfl⟩ := hd; exact K1
  have b2 : Below w.heap.size w w2 := by obtain ⟨m, rfl⟩ := hd; exact drewN_below b1 m
  clear hd q0 q1 qf0 qf1 K1 b1
  go_wp2_with fail
  refine (HDR.out _).mono ?_
  rintro e w3 ⟨A3, c3, rfl, k3, m3, row3, hb⟩
  have K3 : TwBlk w3 w.heap.size (.slice none 0 0) 0 := K2.of_block (hb.block _ K2.lt)
  have z2 := K2.lt
  have b3 : Below w.heap.size w w3 := b2.trans (hb.mono (by omega))
  have R3 := Lib.hid row3
  clear hb K2 b2 row3
  have q0 := K3.cell0
  have q1 := K3.cell1
  have qf0 := K3.frozen 0
  have qf1 := K3.frozen 1
  go_wp2
  refine bodyPost_ret (v := .tuple #[.agg #[.slice A3 L.length c3, .int .i64 x], .int .i64 0]) (by simp [results, Tryd.results5, go_sem, q0, q1]) rfl
    ⟨A3, c3, rfl, k3, m3, ?_, Below.setCell (Below.setCell b3 (by simp) _) (by simp) _⟩
  intro hn0
  obtain ⟨g3, e3, a1, a2, ho⟩ := R3.out hn0
  exact ⟨g3, e3, by omega, by simp; omega, (ho.setOther (by simp; omega) _).setOther (by simp; omega) _⟩

set_option maxHeartbeats 2000000 in
theorem draft_i_one (s : ByteArray) (x : Int) (w : World) (hs : s.size ≤ 1048576) (h2 : s.size < 2) :
    Calls Tryd.prog 6 #[.string s, .int .i64 x] w (TwCode w [] 0 7) := by
  have h2' : (s.size : Int) < 2 := by omega
  have hq0 := (tw_new w).cell0
  go_enter Tryd.func6, Tryd.ntmps6
  go_upto_region 1 with fail
  have K1 := tw_new w
  have b1 : Below w.heap.size w (w.alloc (Obj.cells #[Value.slice none 0 0, .int .i64 0] 24)) := by go_grown
  generalize hw1 : w.alloc (Obj.cells #[Value.slice none 0 0, .int .i64 0] 24) = w1 at *
  clear hw1
  have q0 := K1.cell0
  have q1 := K1.cell1
  have qf0 := K1.frozen 0
  have qf1 := K1.frozen 1
  go_wp2
  exact bodyPost_ret (v := .tuple #[.agg #[.slice none 0 0, .int .i64 0], .int .i64 7]) (by simp [results, Tryd.results6, go_sem, q0, q1]) rfl
    ⟨none, 0, rfl, Nat.le_refl _, by unfold maxLen; omega, Row.none_, Below.setCell (Below.setCell b1 (by simp) _) (by simp) _⟩

set_option maxHeartbeats 2000000 in
theorem draft_i_bad (s : ByteArray) (x : Int) (w : World) (hs : s.size ≤ 1048576) (h2 : 2 ≤ s.size) (hv : strokeB s = false) :
    Calls Tryd.prog 6 #[.string s, .int .i64 x] w (TwCode w [] 0 7) := by
  have HOK := Lib.hid (fun W => valid_i s W hs)
  rw [hv] at HOK
  have h2' : ¬ (s.size : Int) < 2 := by omega
  go_enter Tryd.func6, Tryd.ntmps6
  go_upto_region 1 with fail
  have K1 := tw_new w
  have b1 : Below w.heap.size w (w.alloc (Obj.cells #[Value.slice none 0 0, .int .i64 0] 24)) := by go_grown
  generalize hw1 : w.alloc (Obj.cells #[Value.slice none 0 0, .int .i64 0] 24) = w1 at *
  clear hw1
  have q0 := K1.cell0
  have q1 := K1.cell1
  have qf0 := K1.frozen 0
  have qf1 := K1.frozen 1
  go_wp2_with fail
  refine (HOK.out _).mono ?_
  rintro e w2 ⟨rfl, hb⟩
  have K2 : TwBlk w2 w.heap.size (.slice none 0 0) 0 := K1.of_block (hb.block _ K1.lt)
  have b2 : Below w.heap.size w w2 := b1.trans (hb.mono (by have := K1.lt; omega))
  clear hb q0 q1 qf0 qf1
  have q0 := K2.cell0
  have q1 := K2.cell1
  have qf0 := K2.frozen 0
  have qf1 := K2.frozen 1
  go_wp2
  exact bodyPost_ret (v := .tuple #[.agg #[.slice none 0 0, .int .i64 0], .int .i64 7]) (by simp [results, Tryd.results6, go_sem, q0, q1]) rfl
    ⟨none, 0, rfl, Nat.le_refl _, by unfold maxLen; omega, Row.none_, Below.setCell (Below.setCell b2 (by simp) _) (by simp) _⟩

set_option maxHeartbeats 2000000 in
theorem draft_i_out (s : ByteArray) (x : Int) (w : World) (hs : s.size ≤ 1048576) (hv : strokeB s = true) (h2 : 2 ≤ s.size) (hi : inB x 1 ((s.size : Int) - 1) = false) :
    Calls Tryd.prog 6 #[.string s, .int .i64 x] w (TwCode w [] 0 2) := by
  have HOK := Lib.hid (fun W => valid_i s W hs)
  rw [hv] at HOK
  obtain ⟨h0, h12, _⟩ := stroke_of hv
  have h2' : ¬ (s.size : Int) < 2 := by omega
  have hwn : wrap64 ((s.size : Int) - 1) = (s.size : Int) - 1 := IntWalk.wrap64_in _ ⟨by omega, by omega⟩
  have HIN := Lib.hid (fun W => in_i x 1 ((s.size : Int) - 1) W)
  rw [hi] at HIN
  go_enter Tryd.func6, Tryd.ntmps6
  go_upto_region 1 with fail
  have K1 := tw_new w
  have b1 : Below w.heap.size w (w.alloc (Obj.cells #[Value.slice none 0 0, .int .i64 0] 24)) := by go_grown
  generalize hw1 : w.alloc (Obj.cells #[Value.slice none 0 0, .int .i64 0] 24) = w1 at *
  clear hw1
  have q0 := K1.cell0
  have q1 := K1.cell1
  have qf0 := K1.frozen 0
  have qf1 := K1.frozen 1
  go_wp2_with fail
  refine (HOK.out _).mono ?_
  rintro e w2 ⟨rfl, hb⟩
  have K2 : TwBlk w2 w.heap.size (.slice none 0 0) 0 := K1.of_block (hb.block _ K1.lt)
  have b2 : Below w.heap.size w w2 := b1.trans (hb.mono (by have := K1.lt; omega))
  clear hb q0 q1 qf0 qf1
  have q0 := K2.cell0
  have q1 := K2.cell1
  have qf0 := K2.frozen 0
  have qf1 := K2.frozen 1
  go_wp2_with (go_at_call 19; refine (HIN.out _).mono ?_; rintro e w' ⟨rfl, rfl⟩)
  exact bodyPost_ret (v := .tuple #[.agg #[.slice none 0 0, .int .i64 0], .int .i64 2]) (by simp [results, Tryd.results6, go_sem, q0, q1]) rfl
    ⟨none, 0, rfl, Nat.le_refl _, by unfold maxLen; omega, Row.none_, Below.setCell (Below.setCell b2 (by simp) _) (by simp) _⟩

set_option maxHeartbeats 2000000 in
theorem draft_i_none (s : ByteArray) (x : Int) (w : World) (hs : s.size ≤ 1048576) (hv : strokeB s = true) (h2 : 2 ≤ s.size) (hi : inB x 1 ((s.size : Int) - 1) = true) (hf : ∀ i, i < s.size → ¬ frontAt s i) (hm : MaxAt w) :
    Calls Tryd.prog 6 #[.string s, .int .i64 x] w (TwCode w [] 0 6) := by
  have HOK := Lib.hid (fun W => valid_i s W hs)
  rw [hv] at HOK
  obtain ⟨h0, h12, _⟩ := stroke_of hv
  have h2' : ¬ (s.size : Int) < 2 := by omega
  have hwn : wrap64 ((s.size : Int) - 1) = (s.size : Int) - 1 := IntWalk.wrap64_in _ ⟨by omega, by omega⟩
  have HIN := Lib.hid (fun W => in_i x 1 ((s.size : Int) - 1) W)
  rw [hi] at HIN
  have HFP := Lib.hid (fun W (hW : Below w.heap.size w W) => place_i s W (by omega) h12 (maxAt_below hm hW))
  rw [place_no (by omega) hf] at HFP
  clear hm
  go_enter Tryd.func6, Tryd.ntmps6
  go_upto_region 1 with fail
  have K1 := tw_new w
  have b1 : Below w.heap.size w (w.alloc (Obj.cells #[Value.slice none 0 0, .int .i64 0] 24)) := by go_grown
  generalize hw1 : w.alloc (Obj.cells #[Value.slice none 0 0, .int .i64 0] 24) = w1 at *
  clear hw1
  have q0 := K1.cell0
  have q1 := K1.cell1
  have qf0 := K1.frozen 0
  have qf1 := K1.frozen 1
  go_wp2_with fail
  refine (HOK.out _).mono ?_
  rintro e w2 ⟨rfl, hb⟩
  have K2 : TwBlk w2 w.heap.size (.slice none 0 0) 0 := K1.of_block (hb.block _ K1.lt)
  have b2 : Below w.heap.size w w2 := b1.trans (hb.mono (by have := K1.lt; omega))
  clear hb q0 q1 qf0 qf1
  have q0 := K2.cell0
  have q1 := K2.cell1
  have qf0 := K2.frozen 0
  have qf1 := K2.frozen 1
  go_wp2_with (first
    | (go_at_call 19; refine (HIN.out _).mono ?_; rintro e w' ⟨rfl, rfl⟩)
    | (go_at_call 20; refine (HFP.out _ b2).mono ?_; rintro e w' ⟨rfl, rfl⟩))
  exact bodyPost_ret (v := .tuple #[.agg #[.slice none 0 0, .int .i64 0], .int .i64 6]) (by simp [results, Tryd.results6, go_sem, q0, q1]) rfl
    ⟨none, 0, rfl, Nat.le_refl _, by unfold maxLen; omega, Row.none_, Below.setCell (Below.setCell b2 (by simp) _) (by simp) _⟩

set_option maxHeartbeats 2000000 in
theorem draft_i_yes (s : ByteArray) (x : Int) (w : World) (hs : s.size ≤ 1048576) (f : Nat) (hv : strokeB s = true) (h2 : 2 ≤ s.size) (hi : inB x 1 ((s.size : Int) - 1) = true) (hf : First s f) (hm : MaxAt w) :
    Calls Tryd.prog 6 #[.string s, .int .i64 x] w (TwCode w (rle (tB s f) (tB s f).size) x 0) := by
  have HOK := Lib.hid (fun W => valid_i s W hs)
  rw [hv] at HOK
  obtain ⟨h0, h12, _⟩ := stroke_of hv
  have h2' : ¬ (s.size : Int) < 2 := by omega
  have hwn : wrap64 ((s.size : Int) - 1) = (s.size : Int) - 1 := IntWalk.wrap64_in _ ⟨by omega, by omega⟩
  have HIN := Lib.hid (fun W => in_i x 1 ((s.size : Int) - 1) W)
  rw [hi] at HIN
  have HFP := Lib.hid (fun W (hW : Below w.heap.size w W) => place_i s W (by omega) h12 (maxAt_below hm hW))
  rw [place_yes (by omega) hf] at HFP
  have hfl := hf.1
  have htz := tB_size s (k := f) (by omega)
  have HTU := Lib.hid (fun W => turnT_i s f W h12 (by omega))
  have HRO := Lib.hid (fun W => runsOf_i (tB s f) W (by omega))
  obtain ⟨L, hL⟩ : ∃ L, L = rle (tB s f) (tB s f).size := ⟨_, rfl⟩
  rw [← hL] at HRO ⊢
  clear hL hm hf
  have hf0 : ¬ (f : Int) < 0 := by omega
  go_enter Tryd.func6, Tryd.ntmps6
  go_upto_region 1 with fail
  have K1 := tw_new w
  have b1 : Below w.heap.size w (w.alloc (Obj.cells #[Value.slice none 0 0, .int .i64 0] 24)) := by go_grown
  generalize hw1 : w.alloc (Obj.cells #[Value.slice none 0 0, .int .i64 0] 24) = w1 at *
  clear hw1
  have q0 := K1.cell0
  have q1 := K1.cell1
  have qf0 := K1.frozen 0
  have qf1 := K1.frozen 1
  go_wp2_with fail
  refine (HOK.out _).mono ?_
  rintro e w2 ⟨rfl, hb⟩
  have K2 : TwBlk w2 w.heap.size (.slice none 0 0) 0 := K1.of_block (hb.block _ K1.lt)
  have b2 : Below w.heap.size w w2 := b1.trans (hb.mono (by have := K1.lt; omega))
  clear hb q0 q1 qf0 qf1
  have q0 := K2.cell0
  have q1 := K2.cell1
  have qf0 := K2.frozen 0
  have qf1 := K2.frozen 1
  go_wp2_with (first
    | (go_at_call 19; refine (HIN.out _).mono ?_; rintro e w' ⟨rfl, rfl⟩)
    | (go_at_call 20; refine (HFP.out _ b2).mono ?_; rintro e w' ⟨rfl, rfl⟩))
  refine (HTU.out _).mono ?_
  rintro e w3 ⟨rfl, hd⟩
  have K3 : TwBlk w3 w.heap.size (.slice none 0 0) 0 := by obtain ⟨m, rfl⟩ := hd; exact K2
  have b3 : Below w.heap.size w w3 := by obtain ⟨m, rfl⟩ := hd; exact drewN_below b2 m
  clear hd q0 q1 qf0 qf1 K2 b2 K1 b1
  go_wp2_with fail
  refine (HRO.out _).mono ?_
  rintro e w4 ⟨A3, c3, rfl, k3, m3, row3, hb⟩
  have K4 : TwBlk w4 w.heap.size (.slice none 0 0) 0 := K3.of_block (hb.block _ K3.lt)
  have z3 := K3.lt
  have b4 : Below w.heap.size w w4 := b3.trans (hb.mono (by omega))
  have R3 := Lib.hid row3
  clear hb K3 b3 row3
  have q0 := K4.cell0
  have q1 := K4.cell1
  have qf0 := K4.frozen 0
  have qf1 := K4.frozen 1
  go_wp2
  refine bodyPost_ret (v := .tuple #[.agg #[.slice A3 L.length c3, .int .i64 x], .int .i64 0]) (by simp [results, Tryd.results6, go_sem, q0, q1]) rfl
    ⟨A3, c3, rfl, k3, m3, ?_, Below.setCell (Below.setCell b4 (by simp) _) (by simp) _⟩
  intro hn0
  obtain ⟨g3, e3, a1, a2, ho⟩ := R3.out hn0
  exact ⟨g3, e3, by omega, by simp; omega, (ho.setOther (by simp; omega) _).setOther (by simp; omega) _⟩

/-- what DraftFor tells -/
theorem draft_ways (s : ByteArray) (x : Int) : (∃ l st code, l.length ≤ 12 ∧
    (∀ w, s.size ≤ 1048576 → Calls Tryd.prog 5 #[.string s, .int .i64 x] w (TwCode w l st code)) ∧
    ∀ w, s.size ≤ 1048576 → MaxAt w → Calls Tryd.prog 6 #[.string s, .int .i64 x] w (TwCode w l st code)) := by
  by_cases h2 : 2 ≤ s.size
  · cases hv : strokeB s
    · exact ⟨[], 0, 7, by simp, fun w hs => draft_s_bad s x w hs hv, fun w hs _ => draft_i_bad s x w hs h2 hv⟩
    · cases hi : inB x 1 ((s.size : Int) - 1)
      · exact ⟨[], 0, 2, by simp, fun w hs => draft_s_out s x w hs hv h2 hi, fun w hs _ => draft_i_out s x w hs hv h2 hi⟩
      · rcases First.ex s with ⟨f, hf⟩ | hf
        · have h12 := (stroke_of hv).2.1
          have htz := tB_size s (k := f) (by have := hf.1; omega)
          exact ⟨_, x, 0, by have := rle_len (tB s f) (tB s f).size; omega, fun w hs => draft_s_yes s x w hs f hv h2 hi hf, fun w hs hm => draft_i_yes s x w hs f hv h2 hi hf hm⟩
        · exact ⟨[], 0, 6, by simp, fun w hs => draft_s_none s x w hs hv h2 hi hf, fun w hs hm => draft_i_none s x w hs hv h2 hi hf hm⟩
  · cases hv : strokeB s
    · exact ⟨[], 0, 7, by simp, fun w hs => draft_s_bad s x w hs hv, fun w hs _ => draft_i_one s x w hs (by omega)⟩
    · exact ⟨[], 0, 7, by simp, fun w hs => draft_s_one s x w hs hv (by omega), fun w hs _ => draft_i_one s x w hs (by omega)⟩

end Go.Proofs.YtakcgeafcecimaaDoor.twl
