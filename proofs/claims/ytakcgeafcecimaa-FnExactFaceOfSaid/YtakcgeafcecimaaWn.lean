/-
  Contracts: the longest run of a text that is repeated, of the model and of the program.
-/
import Derived.Test.YtakcgeafcecimaaWr
import Derived.Laws.RangeString
import Derived.Laws.RangeAny
namespace Go.Proofs.Ytakcgeafcecimaa.wk
open Go.ChangeShapes Go.WideShapes Go.ChangeAt Go.RowKit
open Go.Proofs.Ytakcgeafcecimaa.mem Go.Proofs.Ytakcgeafcecimaa.rod Go.Proofs.Ytakcgeafcecimaa.wv
set_option linter.unusedVariables false

theorem max_s (a b : Nat) (w : World) :
    Calls Try.prog 60 #[.int .i64 (a : Int), .int .i64 (b : Int)] w fun e w' => e = .returned (.int .i64 ((max a b : Nat) : Int)) ∧ w = w' := by
  by_cases h : b < a
  · have h' : (b : Int) < (a : Int) := by omega
    have e : max a b = a := by omega
    rw [e]
    clear e
    go_enter Try.func60, Try.ntmps60
    go_wp2
    go_ret
    exact ⟨rfl, rfl⟩
  · have h' : ¬ (b : Int) < (a : Int) := by omega
    have e : max a b = b := by omega
    rw [e]
    clear e
    go_enter Try.func60, Try.ntmps60
    go_wp2
    go_ret
    exact ⟨rfl, rfl⟩

theorem rs_eq {f : Nat → Int} {k : Nat} (h : f (k + 1) = f k) : rs f (k + 1) = re f k := if_pos h
theorem rs_ne {f : Nat → Int} {k : Nat} (h : ¬ f (k + 1) = f k) : rs f (k + 1) = 0 := if_neg h
theorem mb_eq {f : Nat → Int} {k : Nat} (h : f (k + 1) = f k) : mb f (k + 1) = mb f k := if_pos h
theorem mb_ne {f : Nat → Int} {k : Nat} (h : ¬ f (k + 1) = f k) : mb f (k + 1) = max (mb f k) (re f k) := if_neg h
theorem rs_le (f : Nat → Int) (i : Nat) : rs f i ≤ i := by have := re_le f i; have := re_rs f i; omega
end Go.Proofs.Ytakcgeafcecimaa.wk
