/-
  Contracts: the loose stakes, of the program and of the model; whether a weave is sound.
-/
import Derived.Test.YtakcgeafcecimaaWd
import Derived.Test.YtakcgeafcecimaaWs
import Derived.Test.YtakcgeafcecimaaWl
namespace Go.Proofs.Ytakcgeafcecimaa.wk
open Go.ChangeShapes Go.WideShapes Go.ChangeAt Go.RowKit
open Go.Proofs.Ytakcgeafcecimaa.mem Go.Proofs.Ytakcgeafcecimaa.rod Go.Proofs.Ytakcgeafcecimaa.wv Go.Proofs.Ytakcgeafcecimaa.gm Go.Proofs.Ytakcgeafcecimaa.nums
set_option linter.unusedVariables false

/-- the loose stakes as numbers -/
def looseL (s : ByteArray) (n : Nat) : List Int := idxs (looseB (byteAt s) s.size n) n
theorem looseL_len (s : ByteArray) (n : Nat) : (looseL s n).length ≤ n := idxs_len _ _
theorem idxs_filter (p : Nat → Bool) (n : Nat) : idxs p n = ((List.range n).filter p).map (fun (i : Nat) => (i : Int)) := by
  induction n with
  | zero => rfl
  | succ n ih =>
    rw [List.range_succ, List.filter_append, List.map_append, ← ih]
    show idxs p n ++ _ = _
    cases h : p n <;> simp [h]
theorem looseL_nil (s : ByteArray) (n : Nat) : looseL s n = [] ↔ loose (byteAt s) s.size n = [] := by
  unfold looseL loose
  rw [idxs_filter]
  simp

/-! ### the model's loose stakes -/
theorem frun_mk (g : Nat → UInt8) {m : Nat} (hm : 0 < m) : frun (byteAt (mkB g m)) (mkB g m).size = frun (fun i => ((g i).toNat : Int)) m := by
  unfold frun
  rw [mkB_size]
  have e : cyc (byteAt (mkB g m)) m = cyc (fun i => ((g i).toNat : Int)) m := funext fun i => by
    unfold cyc
    exact mkB_byte g (Nat.mod_lt _ hm)
  rw [e]
theorem lrun_mk (g : Nat → UInt8) {m : Nat} (hm : 0 < m) : lrun (byteAt (mkB g m)) (mkB g m).size = lrun (fun i => ((g i).toNat : Int)) m := by
  unfold lrun
  rw [mkB_size]
  have e : cyc (byteAt (mkB g m)) m = cyc (fun i => ((g i).toNat : Int)) m := funext fun i => by
    unfold cyc
    exact mkB_byte g (Nat.mod_lt _ hm)
  rw [e]
theorem stk_U (s : ByteArray) (n k : Nat) : stk (byteAt s) s.size n k = fun r => ((sideU s n r k).toNat : Int) := funext fun r => sideU_at s n r k

end Go.Proofs.Ytakcgeafcecimaa.wk
