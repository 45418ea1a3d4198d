/-
  The source of numbers that the laws draw from: what 'next', 'pick' give (some number in bounds), and what they leave. The bytes of an argument.
-/
import Derived.Test.YtgfnagkelhbplaaIn
import Derived.ShutString
import Derived.ChangeOld
import Derived.Lib.SmallJoins
import Derived.IntWalk
import Derived.Laws.Bits64b
namespace Go.Proofs.Ytgfnagkelhbplaa.src
open Go.ChangeShapes Go.WideShapes Go.ChangeAt Go.RowKit Go.Proofs.Ytgfnagkelhbplaa.mem
set_option linter.unusedVariables false

/-- bytes lie in a slice, nil or not -/
def Sb (w : World) (A : Option Addr) (n : Nat) (X : Nat → Int) : Prop := 0 < n → ∃ b o, A = some ⟨b, o, none⟩ ∧ b < w.heap.size ∧ ∀ j, j < n → w.cell? ⟨b, o + j, none⟩ = some (.int .u8 (X j)) ∧ 0 ≤ X j ∧ X j ≤ 255
theorem Sb.below {w w' : World} {A : Option Addr} {n : Nat} {X : Nat → Int} {K : Nat} (h : Sb w A n X) (hb : Below K w w') (hK : w.heap.size ≤ K) : Sb w' A n X := fun hn => by
  obtain ⟨b, o, e, h1, h2⟩ := h hn
  have := hb.size
  exact ⟨b, o, e, by omega, fun j hj => ⟨(hb.cell (p := ⟨b, o + j, none⟩) (by show b < K; omega)).trans (h2 j hj).1, (h2 j hj).2⟩⟩
theorem Sb.wrote {w w' : World} {A : Option Addr} {n lo hi N : Nat} {X : Nat → Int} (h : Sb w A n X) (hw : WroteIn w w' lo hi) (hN : 0 < n → ∀ b o, A = some ⟨b, o, none⟩ → b < N) (hd : N ≤ lo) : Sb w' A n X := fun hn => by
  obtain ⟨b, o, e, h1, h2⟩ := h hn
  have := hw.size
  have := hN hn b o e
  exact ⟨b, o, e, by omega, fun j hj => ⟨(hw.cell (by omega) (by omega)).trans (h2 j hj).1, (h2 j hj).2⟩⟩

theorem Sb.low {w : World} {A : Option Addr} {n : Nat} {X : Nat → Int} {N : Nat} (h : Sb w A n X) (hN : w.heap.size ≤ N) : 0 < n → ∀ x o, A = some ⟨x, o, none⟩ → x < N := fun hn x o e => by
  obtain ⟨b, o', e', hb, _⟩ := h hn
  rw [e'] at e
  cases e
  omega

theorem open_bytes {H : Type} {enc : TypeId × Value → H} {P : Program} {w : World} {base : Nat} {spare : Nat → Bool} {held : Bool} {t e : TypeId} {fuel : Nat} {a0 : Option Addr} {len cap : Nat} {x : DataW H × List MemPlace}
    (ht : P.underlying t = some (.slice e)) (he : P.underlying e = some (.int .u8)) (hC : P.cellsOf e = 1) (h : DataW.trod enc P w base spare held fuel t [.slice a0 len cap] = some x) :
    len ≤ cap ∧ cap ≤ maxLen ∧ ∃ X : Nat → Int, Sb w a0 len X := by
  rcases open_ints ht he hC h with ⟨hcs, _⟩ | ⟨a, l, c, zs, hcs, hb, hl, hm, hz, _, hcell, hwz⟩
  · simp at hcs
    obtain ⟨rfl, rfl, rfl⟩ := hcs
    exact ⟨Nat.le_refl _, by unfold maxLen; omega, fun _ => 0, fun hn => absurd hn (by omega)⟩
  · simp at hcs
    obtain ⟨rfl, rfl, rfl⟩ := hcs
    refine ⟨hl, hm, fun j => zs.getD j 0, fun hn => ?_⟩
    have hzl : len ≤ zs.length := by rw [hz]; split <;> omega
    obtain ⟨bb, off, spot⟩ := a
    have c0 := hcell 0 (by omega)
    have hspot : spot = none := by simpa [Addr.add] using World.cell?_spot c0
    subst hspot
    have hc0 : w.cell? ⟨bb, off, none⟩ = some (.int .u8 (zs.getD 0 0)) := by simpa [Addr.add] using c0
    refine ⟨bb, off, rfl, ?_, fun j hj => ⟨?_, ?_⟩⟩
    · rcases Nat.lt_or_ge bb w.heap.size with hlt | hge
      · exact hlt
      · have e : w.heap[bb]? = none := Array.getElem?_eq_none hge
        simp [World.cell?, e] at hc0
    · have := hcell j (by omega)
      unfold Addr.add at this
      split at this
      · rename_i e; subst e; simpa using this
      · simpa using this
    · have hmem : zs.getD j 0 ∈ zs := by
        rw [List.getD_eq_getElem?_getD, List.getElem?_eq_getElem (by omega)]
        exact List.getElem_mem _
      have := hwz _ hmem
      simp [Lit.wf, IntKind.min, IntKind.max, IntKind.bits, IntKind.signed] at this
      exact this

/-- a source lies at block b: the bytes, how many have been read, a number that goes on -/
structure Src (w : World) (b : Nat) (A : Option Addr) (n c : Nat) (K : Int) : Prop where
  code : w.cell? ⟨b, 0, none⟩ = some (.slice A n c)
  rest : ∃ a s : Int, 0 ≤ a ∧ a ≤ K ∧ (Lit.int .u64 s).wf = true ∧ w.cell? ⟨b, 1, none⟩ = some (.int .i64 a) ∧ w.cell? ⟨b, 2, none⟩ = some (.int .u64 s)
  soft : ∀ j, w.frozen? ⟨b, j, none⟩ = false
  lt : b < w.heap.size

/-- the answer is a number from 0 to h, and the source lies on -/
def Drawn (w : World) (b : Nat) (A : Option Addr) (n c : Nat) (K h : Int) (e : Ending) (w' : World) : Prop :=
  ∃ v : Int, e = .returned (.int .i64 v) ∧ 0 ≤ v ∧ v ≤ h ∧ Src w' b A n c K ∧ WroteIn w w' b (b + 1)

theorem byte_bd (y : Int) : 0 ≤ wrap64 (bits BinOp.and IntKind.u64 (IntKind.u64.wrap y / 1099511627776) 255) ∧ wrap64 (bits BinOp.and IntKind.u64 (IntKind.u64.wrap y / 1099511627776) 255) ≤ 255 := by
  have hy : 0 ≤ IntKind.u64.wrap y ∧ IntKind.u64.wrap y ≤ 18446744073709551615 := by rw [IntKind.wrap_u64]; omega
  obtain ⟨m, hm⟩ : ∃ m : Nat, IntKind.u64.wrap y / 1099511627776 = m := ⟨(IntKind.u64.wrap y / 1099511627776).toNat, by omega⟩
  have hb := bits_and_u64_nat m 255 (by omega) (by decide)
  have hle : m &&& 255 ≤ 255 := Nat.and_le_right
  rw [hm, show (255 : Int) = ((255 : Nat) : Int) from rfl, hb, IntWalk.wrap64_in _ (by omega)]
  omega
theorem wrap_wf (y : Int) : (Lit.int .u64 (IntKind.u64.wrap y)).wf = true := by
  have hy : 0 ≤ IntKind.u64.wrap y ∧ IntKind.u64.wrap y ≤ 18446744073709551615 := by rw [IntKind.wrap_u64]; omega
  simp [Lit.wf, IntKind.min, IntKind.max, IntKind.bits, IntKind.signed]
  omega

theorem src_next {w' : World} {b n c : Nat} {A : Option Addr} {K a y : Int} (h0 : w'.cell? ⟨b, 0, none⟩ = some (.slice A n c)) (a0 : 0 ≤ a) (a1 : a ≤ K) (c1 : w'.cell? ⟨b, 1, none⟩ = some (.int .i64 (a + 1)))
    (c2 : w'.cell? ⟨b, 2, none⟩ = some (.int .u64 (IntKind.u64.wrap y))) (hf : ∀ j, w'.frozen? ⟨b, j, none⟩ = false) (lt : b < w'.heap.size) : Src w' b A n c (K + 1) :=
  ⟨h0, ⟨a + 1, _, by omega, by omega, wrap_wf y, c1, c2⟩, hf, lt⟩

theorem from_c (A : Option Addr) (n c : Nat) (w : World) :
    Calls Try.prog 79 #[.slice A n c] w fun e w' => e = .returned (.pointer (some ⟨w.heap.size, 0, none⟩)) ∧ Src w' w.heap.size A n c 0 ∧ Below w.heap.size w w' := by
  go_enter Try.func79, Try.ntmps79
  go_wp2
  go_ret
  refine ⟨rfl, ⟨by go_simp, ⟨0, 0, by omega, by omega, by rfl, by go_simp, by go_simp⟩, fun j => by go_simp, by simp⟩, by go_grown⟩

set_option maxHeartbeats 1000000 in
theorem next_c (b : Nat) (A : Option Addr) (n c : Nat) (X : Nat → Int) (K : Int) (w : World) (hn : n ≤ 4096) (hK : K ≤ 1000000000) (hs : Src w b A n c K) (hx : Sb w A n X) :
    Calls Try.prog 96 #[.pointer (some ⟨b, 0, none⟩)] w (Drawn w b A n c (K + 1) 255) := by
  obtain ⟨h0, ⟨a, s, a0, a1, hw, h1, h2⟩, hf, hlt⟩ := hs
  have f0 := hf 0
  have f1 := hf 1
  have f2 := hf 2
  have HX := Lib.hid hx
  have HF := Lib.hid hf
  clear hf hx
  by_cases ha : a < n
  · obtain ⟨xb, xo, rfl, hxb, hX⟩ := HX.out (by omega)
    obtain ⟨k, rfl⟩ : ∃ k : Nat, a = k := ⟨a.toNat, by omega⟩
    obtain ⟨p0, p1, p2⟩ := hX k (by omega)
    have hk1 : (k : Int) < (n : Int) := by omega
    have hk0 : (0 : Int) ≤ (k : Int) := by omega
    have hk2 : (k : Int) + 1 ≤ (n : Int) := by omega
    generalize X k = x at *
    clear hX
    go_enter Try.func96, Try.ntmps96
    go_wp2_with fail
    go_quiet (fail)
    go_wp2_with fail
    go_quiet (fail)
    go_wp2_with fail
    go_quiet (fail)
    go_wp2
    go_ret
    exact ⟨x, rfl, by omega, by omega, src_next (by go_simp) hk0 (by omega) (by go_simp) (by go_simp; rfl) (fun j => by simp; exact HF.out j) (by simp; omega), by first
      | exact ((((WroteIn.refl w b (b + 1)).drewN _).set (Nat.le_refl _) (Nat.lt_succ_self _) _).set (Nat.le_refl _) (Nat.lt_succ_self _) _).drewN _
      | exact (((WroteIn.refl w b (b + 1)).set (Nat.le_refl _) (Nat.lt_succ_self _) _).set (Nat.le_refl _) (Nat.lt_succ_self _) _).drewN _⟩
  · have hk1 : ¬ a < (n : Int) := by omega
    have hk2 : ¬ a + 1 ≤ (n : Int) := by omega
    go_enter Try.func96, Try.ntmps96
    go_wp2_with fail
    go_quiet (fail)
    go_wp2_with fail
    go_quiet (fail)
    go_wp2
    obtain ⟨y0, y1⟩ := byte_bd (IntKind.u64.wrap (IntKind.u64.wrap (s * 6364136223846793005)) + 1442695040888963407)
    go_ret
    exact ⟨_, rfl, y0, y1, src_next (by go_simp) a0 (by omega) (by go_simp) (by go_simp; rfl) (fun j => by simp; exact HF.out j) (by simp; omega), by first
      | exact ((((WroteIn.refl w b (b + 1)).drewN _).set (Nat.le_refl _) (Nat.lt_succ_self _) _).set (Nat.le_refl _) (Nat.lt_succ_self _) _).drewN _
      | exact (((WroteIn.refl w b (b + 1)).set (Nat.le_refl _) (Nat.lt_succ_self _) _).set (Nat.le_refl _) (Nat.lt_succ_self _) _).drewN _⟩

theorem Src.mono {w : World} {b n c : Nat} {A : Option Addr} {K K' : Int} (h : Src w b A n c K) (hK : K ≤ K') : Src w b A n c K' := by
  obtain ⟨h0, ⟨a, s, a0, a1, r⟩, hf, hlt⟩ := h
  exact ⟨h0, ⟨a, s, a0, by omega, r⟩, hf, hlt⟩
theorem Src.below {w w' : World} {b n c B : Nat} {A : Option Addr} {K : Int} (h : Src w b A n c K) (hb : Below B w w') (hB : b < B) : Src w' b A n c K := by
  obtain ⟨h0, ⟨a, s, a0, a1, r, h1, h2⟩, hf, hlt⟩ := h
  have := hb.size
  exact ⟨(hb.cell (p := ⟨b, 0, none⟩) hB).trans h0, ⟨a, s, a0, a1, r, (hb.cell (p := ⟨b, 1, none⟩) hB).trans h1, (hb.cell (p := ⟨b, 2, none⟩) hB).trans h2⟩, fun j => (hb.frozen (p := ⟨b, j, none⟩) hB).trans (hf j), by omega⟩
theorem Src.wrote {w w' : World} {b n c lo hi : Nat} {A : Option Addr} {K : Int} (h : Src w b A n c K) (hw : WroteIn w w' lo hi) (hd : b < lo ∨ hi ≤ b) : Src w' b A n c K := by
  obtain ⟨h0, ⟨a, s, a0, a1, r, h1, h2⟩, hf, hlt⟩ := h
  have := hw.size
  have e := hw.block b hlt (by omega)
  refine ⟨(hw.cell hlt (by omega)).trans h0, ⟨a, s, a0, a1, r, (hw.cell hlt (by omega)).trans h1, (hw.cell hlt (by omega)).trans h2⟩, fun j => ?_, by omega⟩
  have := hf j
  unfold World.frozen? at this ⊢
  rw [e]
  exact this
theorem wrote_trans {a b c : World} {lo hi : Nat} (h : WroteIn a b lo hi) (k : WroteIn b c lo hi) : WroteIn a c lo hi := by
  have := h.size
  have := k.size
  exact ⟨k.os.trans h.os, k.tape.trans h.tape, k.output.trans h.output, by omega, fun j hj hr => (k.block j (by omega) hr).trans (h.block j hj hr)⟩

theorem mod_bd {v m : Int} (h0 : 0 ≤ v) (hm : 1 < m) : 0 ≤ v % m ∧ v % m ≤ m - 1 := by
  have h1 := Int.emod_nonneg v (show m ≠ 0 by omega)
  have h2 := Int.emod_lt_of_pos v (show 0 < m by omega)
  exact ⟨h1, by omega⟩

set_option maxHeartbeats 1000000 in
theorem pick_c (b : Nat) (A : Option Addr) (n c : Nat) (X : Nat → Int) (K m h : Int) (w : World) (hn : n ≤ 4096) (hK : K ≤ 900000000) (hm : m - 1 ≤ h) (h0 : 0 ≤ h) (hA : 0 < n → ∀ x o, A = some ⟨x, o, none⟩ → x < b) (hs : Src w b A n c K) (hx : Sb w A n X) :
    Calls Try.prog 82 #[.pointer (some ⟨b, 0, none⟩), .int .i64 m] w (Drawn w b A n c (K + 2) h) := by
  have HS := Lib.hid hs
  have HX := Lib.hid hx
  have HA := Lib.hid hA
  have hlt := hs.lt
  clear hs hx hA
  by_cases h1 : m ≤ 1
  · go_enter Try.func82, Try.ntmps82
    go_wp2
    go_ret
    exact ⟨0, rfl, by omega, h0, HS.out.mono (by omega), WroteIn.refl _ _ _⟩
  by_cases h2 : m ≤ 200
  · have h1' : 1 < m := by omega
    go_enter Try.func82, Try.ntmps82
    go_wp2_with fail
    refine (next_c b A n c X K _ hn (by omega) HS.out HX.out).mono ?_
    rintro e w1 ⟨v, rfl, v0, v1, s1, hw1⟩
    obtain ⟨m0, m1⟩ := mod_bd v0 h1'
    have S1 := Lib.hid s1
    clear s1
    go_wp2
    go_ret
    exact ⟨_, rfl, m0, by omega, S1.out.mono (by omega), hw1⟩
  · have h1' : 1 < m := by omega
    have h2' : 200 < m := by omega
    go_enter Try.func82, Try.ntmps82
    go_wp2_with fail
    refine (next_c b A n c X K _ hn (by omega) HS.out HX.out).mono ?_
    rintro e w1 ⟨v, rfl, v0, v1, s1, hw1⟩
    have S1 := Lib.hid s1
    clear s1
    go_wp2_with fail
    refine (next_c b A n c X (K + 1) _ hn (by omega) S1.out (HX.out.wrote hw1 HA.out (Nat.le_refl _))).mono ?_
    rintro e w2 ⟨u, rfl, u0, u1, s2, hw2⟩
    have hvu : 0 ≤ v * 256 + u := by omega
    obtain ⟨m0, m1⟩ := mod_bd hvu h1'
    have S2 := Lib.hid s2
    clear s2
    go_wp2
    go_ret
    exact ⟨_, rfl, m0, by omega, S2.out.mono (by omega), wrote_trans hw1 hw2⟩

theorem wrote_alloc {w w' : World} {lo hi : Nat} (h : WroteIn w w' lo hi) (o : Obj) : WroteIn w (w'.alloc o) lo hi :=
  ⟨h.os, h.tape, h.output, by have := h.size; simp; omega, fun k hk hr => (Go.Deep.blk_alloc_lt _ _ _ (by have := h.size; omega)).trans (h.block k hk hr)⟩
/-- a store into a block that was not there at the start -/
theorem wrote_new {w w' : World} {lo hi : Nat} (h : WroteIn w w' lo hi) {a : Addr} (ha : w.heap.size ≤ a.block) (v : Value) : WroteIn w (w'.setCell a v) lo hi :=
  ⟨h.os, h.tape, h.output, by simpa using h.size, fun k hk hr => (Below.heap_setCell _ _ _ _ (by omega)).trans (h.block k hk hr)⟩
/-- what is written behind the start does not count -/
theorem wrote_join {a b c : World} {lo hi lo' hi' : Nat} (h : WroteIn a b lo hi) (k : WroteIn b c lo' hi') (hd : ∀ j, lo' ≤ j → j < hi' → a.heap.size ≤ j ∨ (lo ≤ j ∧ j < hi)) : WroteIn a c lo hi := by
  have := h.size
  have := k.size
  exact ⟨k.os.trans h.os, k.tape.trans h.tape, k.output.trans h.output, by omega, fun j hj hr => (k.block j (by omega) (fun q => by have := hd j q.1 q.2; omega)).trans (h.block j hj hr)⟩
theorem wrote_set1 {w w' : World} {g : Nat} (h : WroteIn w w' g (g + 1)) (i : Nat) (v : Value) : WroteIn w (w'.setCell ⟨g, i, none⟩ v) g (g + 1) :=
  ⟨h.os, h.tape, h.output, by simpa using h.size, fun k hk hr => (Below.heap_setCell _ _ _ _ (show k ≠ g by omega)).trans (h.block k hk hr)⟩
theorem own_wrote {w w' : World} {g n lo hi : Nat} {E : TypeId} {X : Nat → Int} (h : Own w g E n X) (hw : WroteIn w w' lo hi) (hd : ¬ (lo ≤ g ∧ g < hi)) : Own w' g E n X := h.of_block (hw.block g h.lt hd)
/-- a new block of some whole numbers -/
theorem own_new (w : World) (c : Array Value) (E : TypeId) (n : Nat) (X : Nat → Int) (hc : ∀ i, i < n → c[i]? = some (.int .i64 (X i))) (hn : n ≤ c.size) : Own (w.alloc (.cells c E)) w.heap.size E n X :=
  ⟨c, Go.Deep.blk_alloc_new _ _, hn, hc⟩
def n3 (a b c : Int) (j : Nat) : Int := if j = 0 then a else if j = 1 then b else c
theorem own_new3 (w : World) (a b c : Int) (E : TypeId) : Own (w.alloc (.cells #[.int .i64 a, .int .i64 b, .int .i64 c] E)) w.heap.size E 3 (n3 a b c) :=
  own_new _ _ _ _ _ (fun i hi => by match i, hi with | 0, _ => rfl | 1, _ => rfl | 2, _ => rfl) (by simp)
theorem Src.of_block {w w' : World} {b n c : Nat} {A : Option Addr} {K : Int} (h : Src w b A n c K) (e : w'.heap[b]? = w.heap[b]?) (hz : w.heap.size ≤ w'.heap.size) : Src w' b A n c K := by
  obtain ⟨h0, ⟨a, s, a0, a1, r, h1, h2⟩, hf, hlt⟩ := h
  have hc : ∀ j, w'.cell? ⟨b, j, none⟩ = w.cell? ⟨b, j, none⟩ := fun j => by unfold World.cell?; simp only [e]
  have hq : ∀ j, w'.frozen? ⟨b, j, none⟩ = w.frozen? ⟨b, j, none⟩ := fun j => by unfold World.frozen?; simp only [e]
  exact ⟨(hc 0).trans h0, ⟨a, s, a0, a1, r, (hc 1).trans h1, (hc 2).trans h2⟩, fun j => (hq j).trans (hf j), by omega⟩
theorem Src.set {w : World} {b n c : Nat} {A : Option Addr} {K : Int} (h : Src w b A n c K) {a : Addr} (hne : b ≠ a.block) (v : Value) : Src (w.setCell a v) b A n c K :=
  h.of_block (Go.Deep.blk_setCell_other _ _ _ _ hne) (by simp)
end Go.Proofs.Ytgfnagkelhbplaa.src
