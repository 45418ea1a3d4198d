/-
  Contracts: the grips of a weaver in all rounds, and whether it holds a stake on both sides; of the program.
-/
import Derived.Test.YtakcgeafcecimaaGm
import Derived.Test.YtakcgeafcecimaaWb
import Derived.Test.YtakcgeafcecimaaWr
namespace Go.Proofs.Ytakcgeafcecimaa.wk
open Go.ChangeShapes Go.WideShapes Go.ChangeAt Go.RowKit
open Go.Proofs.Ytakcgeafcecimaa.mem Go.Proofs.Ytakcgeafcecimaa.rod Go.Proofs.Ytakcgeafcecimaa.wv Go.Proofs.Ytakcgeafcecimaa.gm
set_option linter.unusedVariables false

theorem wpList_mapUpdate_gm {P : Program} (w : World) {ops : Array Oper} {rest : List Oper} {o : Oper} {a : Act} {Q : Exit → Act → World → Prop}
    (hg : o.guard = none) (m x v : Operand) (t : TypeId) (hop : o.op = Op.mapUpdate t m x v) (k e : TypeId) (K : WideMaps.KeyLaw P k) (ht : P.underlying t = some (.map k e)) (b : Nat) (S : Value → Prop)
    (hm : a.eval m = .map (some b)) (hgm : GM P k w b S) (key : Value) (kl : Lit) (hx : a.eval x = key) (hv : a.eval v = .bool true) (hkey : keyOf P k key = some kl)
    (hK : ∀ w', GM P k w' b (fun u => S u ∨ u = key) → w.grownBy w' (some b) → wpList P ops Q rest (a.put o.dst undef) w') :
    wpList P ops Q (o :: rest) a w := by
  refine wpList_plain hg fun K' hK' => ?_
  obtain ⟨w', hrun, r1, r2⟩ := hgm.update K ht hkey
  unfold Oper.wp
  simp [execOp, hop, hm, hx, hv, hrun, Result.andThen]
  exact hK' _ _ (hK w' r1 r2)

/-- the grips of the rounds ahead of r, and of the stakes ahead of k in it -/
def grS (s : ByteArray) (n r k : Nat) (v : Value) : Prop := ∃ r' k' : Nat, (r' < r ∧ k' < n ∨ r' = r ∧ k' < k) ∧ v = gk (k' : Int) ((sideU s n r' k').toNat : Int)
theorem grS_0 (s : ByteArray) (n : Nat) (v : Value) : False ↔ grS s n 0 0 v := ⟨False.elim, fun ⟨r', k', h, _⟩ => by omega⟩
theorem grS_step (s : ByteArray) (n r k : Nat) (v : Value) : (grS s n r k v ∨ v = gk (k : Int) ((sideU s n r k).toNat : Int)) ↔ grS s n r (k + 1) v := by
  constructor
  · rintro (⟨r', k', h, e⟩ | e)
    · exact ⟨r', k', by omega, e⟩
    · exact ⟨r, k, .inr ⟨rfl, by omega⟩, e⟩
  · rintro ⟨r', k', h, e⟩
    by_cases hk : r' = r ∧ k' = k
    · obtain ⟨rfl, rfl⟩ := hk; exact .inr e
    · exact .inl ⟨r', k', by omega, e⟩
theorem grS_row (s : ByteArray) (n r : Nat) (v : Value) : grS s n r n v ↔ grS s n (r + 1) 0 v :=
  ⟨fun ⟨r', k', h, e⟩ => ⟨r', k', by omega, e⟩, fun ⟨r', k', h, e⟩ => ⟨r', k', by omega, e⟩⟩
theorem gk_inj {a c a' c' : Int} (h : gk a c = gk a' c') : a = a' ∧ c = c' := by
  unfold gk at h
  simp at h
  exact h
/-- the side is met at the stake -/
theorem grS_has (s : ByteArray) (n k R : Nat) (c : Int) (hk : k < n) : grS s n R 0 (gk (k : Int) c) ↔ ∃ r, r < R ∧ stk (byteAt s) s.size n k r = c := by
  constructor
  · rintro ⟨r', k', h, e⟩
    obtain ⟨e1, e2⟩ := gk_inj e
    have : k = k' := by omega
    subst this
    exact ⟨r', by omega, by show side _ _ _ _ _ = _; rw [sideU_at]; exact e2.symm⟩
  · rintro ⟨r, hr, e⟩
    exact ⟨r, k, by omega, by rw [← sideU_at]; show _ = gk (k : Int) (stk (byteAt s) s.size n k r); rw [e]⟩
theorem side_kinds {s : ByteArray} (hs : strokeB s = true) (n r k : Nat) : side (byteAt s) s.size n r k = 70 ∨ side (byteAt s) s.size n r k = 66 := by
  obtain ⟨h0, _, h2⟩ := stroke_of hs
  exact h2 _ (Nat.mod_lt _ h0)
theorem both_iff {s : ByteArray} (hs : strokeB s = true) {n k : Nat} (hk : k < n) :
    (!looseB (byteAt s) s.size n k) = true ↔ grS s n (rnd s.size n) 0 (gk (k : Int) 70) ∧ grS s n (rnd s.size n) 0 (gk (k : Int) 66) := by
  rw [grS_has s n k _ _ hk, grS_has s n k _ _ hk, ← two_kinds (f := stk (byteAt s) s.size n k) (rnd_pos n (stroke_of hs).1) (fun r _ => side_kinds hs n r k)]
  unfold looseB
  simp
theorem wf_i64 {a : Int} (h : 0 ≤ a) (h1 : a ≤ 1000000) : (Lit.int .i64 a).wf = true := WalkArith.wf_i64 (by omega)
theorem wf_u8 (b : UInt8) : (Lit.int .u8 (b.toNat : Int)).wf = true := by
  have := b.toNat_lt
  simp [Lit.wf, IntKind.min, IntKind.max, IntKind.signed, IntKind.bits]
  omega

end Go.Proofs.Ytakcgeafcecimaa.wk
