/-
  The comparison of indices by falling weight.
-/
import Derived.Test.YtlepgkmpbhlajaaDoorStab
import Derived.Test.YtlepgkmpbhlajaaDoorIn
import Derived.Test.YtlepgkmpbhlajaaDoorScU
import Derived.Test.YtlepgkmpbhlajaaDoorSwN
import Derived.Deep.CutRange
import Derived.BigRegion
import Derived.Deep.RegionWith
namespace Go.Proofs.YtlepgkmpbhlajaaDoor.rod
open Go.ChangeShapes Go.WideShapes Go.ChangeAt Go.RowKit Go.Proofs.YtlepgkmpbhlajaaDoor.mem Go.Proofs.YtlepgkmpbhlajaaDoor.stab
set_option linter.unusedVariables false

/-- the captured list is there -/
def Cap (w : World) (g hb : Nat) (A : Option Addr) (n cc : Nat) (X : Nat → Int) : Prop :=
  hb < g ∧ g < w.heap.size ∧ w.cell? ⟨hb, 0, none⟩ = some (.slice A n cc) ∧ (0 < n → ∃ b o, A = some ⟨b, o, none⟩ ∧ b < g ∧ Ints w b o (n * 3) X)
theorem Cap.wrote {w w' : World} {g hb n cc : Nat} {A : Option Addr} {X : Nat → Int} (h : Cap w g hb A n cc X) (hw : WroteIn w w' g (g + 1)) : Cap w' g hb A n cc X := by
  obtain ⟨h1, h2, h3, h4⟩ := h
  have hz := hw.size
  refine ⟨h1, by omega, (hw.cell (b := hb) (o := 0) (by omega) (by omega)).trans h3, fun hn => ?_⟩
  obtain ⟨b, o, e, hb', hX⟩ := h4 hn
  exact ⟨b, o, e, hb', fun j hj => (hw.cell (b := b) (o := o + j) (by omega) (by omega)).trans (hX j hj)⟩
theorem Cap.drew {w : World} {g hb n cc : Nat} {A : Option Addr} {X : Nat → Int} (h : Cap w g hb A n cc X) : Cap w.drew g hb A n cc X := h
/-- a bundle comes first: the heavier one -/
def ltN (X : Nat → Int) (x y : Nat) : Bool := decide (X (y * 3 + 2) < X (x * 3 + 2))
theorem ltN_swo (X : Nat → Int) : Swo (ltN X) where
  asymm := fun x y h => by
    unfold ltN at *
    simp only [decide_eq_true_eq] at h
    simp only [decide_eq_false_iff_not]
    omega
  ntrans := fun x y z h k => by
    unfold ltN at *
    simp only [decide_eq_false_iff_not] at h k
    simp only [decide_eq_false_iff_not]
    omega
theorem ltN_neg (X : Nat → Int) (x y : Nat) : (cmpI (X (y * 3 + 2)) (X (x * 3 + 2)) < 0) ↔ ltN X x y = true := by
  unfold ltN
  rw [cmpI_neg, decide_eq_true_eq]

set_option maxHeartbeats 4000000 in
set_option maxRecDepth 100000 in
theorem cmpN_c (X : Nat → Int) (g hb : Nat) (A : Option Addr) (n cc x y : Nat) (hx : x < n) (hy : y < n) (w : World) (hc : Cap w g hb A n cc X) :
    Calls Tryd.prog 80 #[.int .i64 ((x : Nat) : Int), .int .i64 ((y : Nat) : Int), .pointer (some ⟨hb, 0, none⟩)] w fun e w' => e = .returned (.int .i64 (cmpI (X (y * 3 + 2)) (X (x * 3 + 2)))) ∧ Below w.heap.size w w' := by
  obtain ⟨_, _, hs, hl⟩ := hc
  obtain ⟨b, o, rfl, _, hX⟩ := hl (by omega)
  have px := hX (x * 3 + 2) (by omega)
  have py := hX (y * 3 + 2) (by omega)
  simp only [← Nat.add_assoc] at px py
  have b1 : (0 : Int) ≤ (x : Int) := by omega
  have b2 : (x : Int) < (n : Int) := by omega
  have b3 : (0 : Int) ≤ (y : Int) := by omega
  have b4 : (y : Int) < (n : Int) := by omega
  generalize X (x * 3 + 2) = p at *
  generalize X (y * 3 + 2) = q at *
  clear hX hl
  go_enter Tryd.func80, Tryd.ntmps80
  go_wp2_with fail
  go_quiet ((go_at_call 46; exact Calls.quiet_of_same ((compare_c _ _ _).mono fun _ _ ⟨p, q⟩ => ⟨p, q.symm⟩)))
  go_wp2
  go_ret
  exact ⟨rfl, by first | exact drewN_below (Below.refl _ _) _ | go_grown⟩
theorem cmpN_ex (X : Nat → Int) (hb : Nat) (A : Option Addr) (n cc x y : Nat) (hx : x < n) (hy : y < n) : ∃ r : Int, (r < 0 ↔ ltN X x y = true) ∧ Hid (∀ (w : World) {g : Nat} (hc : Cap w g hb A n cc X), Calls Tryd.prog 80 #[.int .i64 ((x : Nat) : Int), .int .i64 ((y : Nat) : Int), .pointer (some ⟨hb, 0, none⟩)] w fun e w' => e = .returned (.int .i64 r) ∧ Below w.heap.size w w') :=
  ⟨_, ltN_neg X x y, fun w _ hc => cmpN_c X _ hb A n cc x y hx hy w hc⟩

end Go.Proofs.YtlepgkmpbhlajaaDoor.rod
