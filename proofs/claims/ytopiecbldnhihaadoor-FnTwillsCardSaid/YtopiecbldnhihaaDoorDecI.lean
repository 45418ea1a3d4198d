/-
  Decimal of the program by the library's contract, and the law's two sides met.
-/
import Derived.Test.YtopiecbldnhihaaDoorDec
import Derived.Test.YtopiecbldnhihaaDoorShelf
import Derived.Lib.LaidTab
import Derived.Lib.LaidU8
import Derived.WalkSmall
namespace Go.Proofs.YtopiecbldnhihaaDoor.dec
open Go.ChangeShapes Go.WideShapes Go.ChangeAt Go.RowKit
open Go.Proofs.YtopiecbldnhihaaDoor.mem
set_option linter.unusedVariables false

/-- the name of the library's table of powers, as the given row has it -/
def powName : String := Rows.fnTwillsRow.named.headD default
def Tab (w : World) : Prop := Lib.TabIs Tryd.prog w powName .u64 Lib.pow10Tab

theorem g_pow : Tryd.prog.globalNamed powName = some 0 := by kernel_rfl
theorem tab_lt {w : World} (h : Tab w) : 0 < w.heap.size := by
  have hc := Lib.TabIs.cell h g_pow 0 (by decide)
  rcases Nat.lt_or_ge 0 w.heap.size with hlt | hge
  · exact hlt
  · have e : w.heap[(0 : Nat)]? = none := Array.getElem?_eq_none hge
    simp [World.cell?, e] at hc
theorem tab_below {w w' : World} (h : Tab w) (hb : Below w.heap.size w w') : Tab w' := var?_below hb g_pow (tab_lt h) h
theorem grow_below (w : World) (os : Array Obj) : Below w.heap.size w (Sort.grow w os) :=
  ⟨rfl, rfl, rfl, by simp [Sort.grow], fun k hk => by simp [Sort.grow, Array.getElem?_append, hk]⟩

set_option maxHeartbeats 1000000 in
theorem dec_i (n : Int) (h0 : -9223372036854775808 ≤ n) (h1 : n ≤ 9223372036854775807) (w : World) (ht : Tab w) :
    Calls Tryd.prog 54 #[.int .i64 n] w fun e w' => e = .returned (.string ⟨(Lib.itoa n).toArray⟩) ∧ Below w.heap.size w w' := by
  have hS := fun (W : World) (htab : Tab W) => Any.strconv_FormatInt_10 Tryd.laysM173 n h0 h1 W htab
  have HS := Lib.hid hS
  have HT := Lib.hid ht
  clear hS ht h0 h1
  go_enter Tryd.func54, Tryd.ntmps54
  go_wp2_with fail
  refine (HS.out _ HT.out).mono ?_
  rintro e w' ⟨rfl, k, os, rfl⟩
  go_wp2
  go_ret
  exact ⟨rfl, (drewN_below (Below.refl _ _) k).trans ((grow_below _ os).mono (Nat.le_refl _))⟩

end Go.Proofs.YtopiecbldnhihaaDoor.dec
