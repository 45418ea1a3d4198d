/-
  Contracts: the grips of a weaver in all rounds, and whether it holds a stake on both sides; of the program.
-/
import Derived.Test.YtbmdggcfoohmgaaDoorGm
import Derived.Test.YtbmdggcfoohmgaaDoorWb
import Derived.Test.YtbmdggcfoohmgaaDoorWr
namespace Go.Proofs.YtbmdggcfoohmgaaDoor.wk
open Go.ChangeShapes Go.WideShapes Go.ChangeAt Go.RowKit
open Go.Proofs.YtbmdggcfoohmgaaDoor.mem Go.Proofs.YtbmdggcfoohmgaaDoor.rod Go.Proofs.YtbmdggcfoohmgaaDoor.wv Go.Proofs.YtbmdggcfoohmgaaDoor.gm
set_option linter.unusedVariables false

theorem wpList_mapUpdate_gm {P : Program} (w : World) {ops : Array Oper} {rest : List Oper} {o : Oper} {a : Act} {Q : Exit → Act → World → Prop}
    (hg : o.guard = none) (m x v : Operand) (t : TypeId) (hop : o.op = Op.mapUpdate t m x v) (k e : TypeId) (K : WideMaps.KeyLaw P k) (ht : P.underlying t = some (.map k e)) (b : Nat) (S : Value → Prop)
    (hm : a.eval m = .map (some b)) (hgm : GM P k w b S) (key : Value) (kl : Lit) (hx : a.eval x = key) (hv : a.eval v = .bool true) (hkey : keyOf P k key = some kl)
    (hK : ∀ w', GM P k w' b (fun u => S u ∨ u = key) → w.grownBy w' (some b) → wpList P ops Q rest (a.put o.dst undef) w') :
    wpList P ops Q (o :: rest) a w := by
  refine wpList_plain hg fun K' hK' => ?_
  obtain ⟨w', hrun, r1, r2⟩ := hgm.update K ht hkey
  unfold Oper.wp
  simp [execOp, hop, hm, hx, hv, hrun, Result.andThen]
  exact hK' _ _ (hK w' r1 r2)

/-- the grips of the rounds ahead of r, and of the stakes ahead of k in it -/
def grS (s : ByteArray) (n r k : Nat) (v : Value) : Prop := ∃ r' k' : Nat, (r' < r ∧ k' < n ∨ r' = r ∧ k' < k) ∧ v = gk (k' : Int) ((sideU s n r' k').toNat : Int)
theorem grS_0 (s : ByteArray) (n : Nat) (v : Value) : False ↔ grS s n 0 0 v := ⟨False.elim, fun ⟨r', k', h, _⟩ => by omega⟩
theorem grS_step (s : ByteArray) (n r k : Nat) (v : Value) : (grS s n r k v ∨ v = gk (k : Int) ((sideU s n r k).toNat : Int)) ↔ grS s n r (k + 1) v := by
  constructor
  · rintro (⟨r', k', h, e⟩ | e)
    · exact ⟨r', k', by omega, e⟩
    · exact ⟨r, k, .inr ⟨rfl, by omega⟩, e⟩
  · rintro ⟨r', k', h, e⟩
    by_cases hk : r' = r ∧ k' = k
    · obtain ⟨rfl, rfl⟩ := hk; exact .inr e
    · exact .inl ⟨r', k', by omega, e⟩
theorem grS_row (s : ByteArray) (n r : Nat) (v : Value) : grS s n r n v ↔ grS s n (r + 1) 0 v :=
  ⟨fun ⟨r', k', h, e⟩ => ⟨r', k', by omega, e⟩, fun ⟨r', k', h, e⟩ => ⟨r', k', by omega, e⟩⟩
theorem gk_inj {a c a' c' : Int} (h : gk a c = gk a' c') : a = a' ∧ c = c' := by
  unfold gk at h
  simp at h
  exact h
/-- the side is met at the stake -/
theorem grS_has (s : ByteArray) (n k R : Nat) (c : Int) (hk : k < n) : grS s n R 0 (gk (k : Int) c) ↔ ∃ r, r < R ∧ stk (byteAt s) s.size n k r = c := by
  constructor
  · rintro ⟨r', k', h, e⟩
    obtain ⟨e1, e2⟩ := gk_inj e
    have : k = k' := by omega
    subst this
    exact ⟨r', by omega, by show side _ _ _ _ _ = _; rw [sideU_at]; exact e2.symm⟩
  · rintro ⟨r, hr, e⟩
    exact ⟨r, k, by omega, by rw [← sideU_at]; show _ = gk (k : Int) (stk (byteAt s) s.size n k r); rw [e]⟩
theorem side_kinds {s : ByteArray} (hs : strokeB s = true) (n r k : Nat) : side (byteAt s) s.size n r k = 70 ∨ side (byteAt s) s.size n r k = 66 := by
  obtain ⟨h0, _, h2⟩ := stroke_of hs
  exact h2 _ (Nat.mod_lt _ h0)
theorem both_iff {s : ByteArray} (hs : strokeB s = true) {n k : Nat} (hk : k < n) :
    (!looseB (byteAt s) s.size n k) = true ↔ grS s n (rnd s.size n) 0 (gk (k : Int) 70) ∧ grS s n (rnd s.size n) 0 (gk (k : Int) 66) := by
  rw [grS_has s n k _ _ hk, grS_has s n k _ _ hk, ← two_kinds (f := stk (byteAt s) s.size n k) (rnd_pos n (stroke_of hs).1) (fun r _ => side_kinds hs n r k)]
  unfold looseB
  simp
theorem wf_i64 {a : Int} (h : 0 ≤ a) (h1 : a ≤ 1000000) : (Lit.int .i64 a).wf = true := WalkArith.wf_i64 (by omega)
theorem wf_u8 (b : UInt8) : (Lit.int .u8 (b.toNat : Int)).wf = true := by
  have := b.toNat_lt
  simp [Lit.wf, IntKind.min, IntKind.max, IntKind.signed, IntKind.bits]
  omega

set_option maxHeartbeats 4000000 in
set_option maxRecDepth 100000 in
theorem grips_i (s : ByteArray) (n : Nat) (w : World) (h0 : 0 < s.size) (hs : s.size ≤ 12) (hn : n ≤ 60) :
    Calls Tryd.prog 129 #[.agg #[.string s, .int .i64 (n : Int)]] w fun e w' => ∃ b, e = .returned (.map (some b)) ∧ w.heap.size ≤ b ∧ GM Tryd.prog 169 w' b (grS s n (rnd s.size n) 0) ∧ Below w.heap.size w w' := by
  have hmm := @run_makeMap Tryd.prog
  have hR12 := rnd_le s.size n
  have HRO := Lib.hid (fun W => rounds_i s n W h0 hs hn)
  obtain ⟨R, hR⟩ : ∃ R, R = rnd s.size n := ⟨_, rfl⟩
  have HSI := Lib.hid (fun (r k : Nat) (hr : r ≤ 100) (hk : k ≤ 60) W => side_i s n r k W h0 hs hn hr hk)
  rw [← hR] at HRO hR12 ⊢
  clear hR
  go_enter Tryd.func129, Tryd.ntmps129
  go_wp2_with fail
  refine (HRO.out _).mono ?_
  rintro e w1 ⟨rfl, hb⟩
  have z1 := hb.size
  simp at z1
  have HG0 := Lib.hid (((gm_made Tryd.prog 169 (w.alloc (.cells #[.string s, .int .i64 (n : Int)] 68))).below hb (by simp)).congr (grS_0 s n))
  have HB1 := Lib.hid (show Below (w.heap.size + 1) (w.alloc (.cells #[.string s, .int .i64 (n : Int)] 68)) w1 from Below.trans ((Below.refl _ _).alloc (by simp) _) (hb.mono (by simp <;> omega)))
  rw [show (w.alloc (.cells #[.string s, .int .i64 (n : Int)] 68)).heap.size = w.heap.size + 1 by simp] at HG0
  clear hb hmm
  go_wp2_with fail
  go_loopw [9] (fun i wr => ∃ r : Nat, r ≤ R ∧ i = .int .i64 (r : Int) ∧ Hid (GM Tryd.prog 169 wr (w.heap.size + 1) (grS s n r 0)) ∧ Below (w.heap.size + 1) (w.alloc (.cells #[.string s, .int .i64 (n : Int)] 68)) wr) (fun i _ => R - (intOf i).toNat)
  case atStart => exact ⟨0, by omega, rfl, HG0, HB1.out⟩
  case round =>
    obtain ⟨r, hr, rfl, hgm, hbl⟩ := hrel
    rename World => wo
    have hzz := hbl.size
    simp at hzz
    have c0 : wo.cell? ⟨w.heap.size, 0, none⟩ = some (.string s) := (hbl.cell (p := ⟨w.heap.size, 0, none⟩) (by show w.heap.size < _; omega)).trans (by go_simp)
    have c1 : wo.cell? ⟨w.heap.size, 1, none⟩ = some (.int .i64 (n : Int)) := (hbl.cell (p := ⟨w.heap.size, 1, none⟩) (by show w.heap.size < _; omega)).trans (by go_simp)
    have HB := Lib.hid hbl
    clear hbl
    by_cases hlt : r < R
    · have hlt' : (r : Int) < (R : Int) := by omega
      go_wp2_with fail
      go_loopw [14] (fun i wr => ∃ k : Nat, k ≤ n ∧ i = .int .i64 (k : Int) ∧ Hid (GM Tryd.prog 169 wr (w.heap.size + 1) (grS s n r k)) ∧ Below (w.heap.size + 1) (w.alloc (.cells #[.string s, .int .i64 (n : Int)] 68)) wr) (fun i _ => n - (intOf i).toNat)
      case atStart => exact ⟨0, by omega, rfl, hgm, HB.out⟩
      case round =>
        obtain ⟨k, hk, rfl, hgk, hbl⟩ := hrel
        have hz2 := hbl.size
        simp at hz2
        have d0 : wr.cell? ⟨w.heap.size, 0, none⟩ = some (.string s) := (hbl.cell (p := ⟨w.heap.size, 0, none⟩) (by show w.heap.size < _; omega)).trans (by go_simp)
        have d1 : wr.cell? ⟨w.heap.size, 1, none⟩ = some (.int .i64 (n : Int)) := (hbl.cell (p := ⟨w.heap.size, 1, none⟩) (by show w.heap.size < _; omega)).trans (by go_simp)
        have HB2 := Lib.hid hbl
        clear hbl
        by_cases hlk : k < n
        · have hlk' : (k : Int) < (n : Int) := by omega
          have HS := Lib.hid (HSI.out r k (by omega) (by omega))
          rw [sideU_at] at HS
          obtain ⟨kl, hkl⟩ := key_of (a := (k : Int)) (c := ((sideU s n r k).toNat : Int)) (wf_i64 (by omega) (by omega)) (wf_u8 _)
          have HKL := Lib.hid hkl
          have HST := Lib.hid (grS_step s n r k)
          clear hkl
          generalize ((sideU s n r k).toNat : Int) = y at *
          go_wp2_with (first
            | (go_at_call 133; refine (HS.out _).mono ?_; rintro e w2 ⟨rfl, hb⟩; have g2 := Lib.hid (HB2.out.trans (hb.mono (by omega))); have G2 := Lib.hid (hgk.out.below hb hgk.out.lt); have hz3 := hb.size; clear hb)
            | (at_mapUpdate; refine wpList_mapUpdate_gm _ rfl _ _ _ 130 rfl 169 4 keyed Tryd.underlying130 (w.heap.size + 1) _ rfl G2.out (gk (k : Int) y) kl rfl rfl HKL.out ?_; intro w3 hgm3 hgrow; have g3 := Lib.hid (g2.out.grown hgrow (by omega) (fun j e => by cases e; exact Nat.le_refl _)); have G3 := Lib.hid (hgm3.congr HST.out); clear hgm3 hgrow))
          go_roundw
          case rel => exact ⟨k + 1, by omega, by go_num, G3, g3.out⟩
          case measure => simp [intOf]; omega
        · obtain rfl : k = n := by omega
          have G2 := Lib.hid (hgk.out.congr (grS_row s k r))
          go_wp2
          go_roundw
          case rel => exact ⟨r + 1, by omega, by go_num, G2, HB2.out⟩
          case measure => simp [intOf]; omega
    · obtain rfl : r = R := by omega
      go_wp2
      go_ret
      exact ⟨_, rfl, by omega, hgm.out, ((Below.refl _ _).alloc (Nat.le_refl _) _).trans (HB.out.mono (by omega))⟩

end Go.Proofs.YtbmdggcfoohmgaaDoor.wk
