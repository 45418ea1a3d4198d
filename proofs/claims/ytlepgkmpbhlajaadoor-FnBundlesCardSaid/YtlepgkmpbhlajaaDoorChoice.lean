/-
  Contracts of a choice of numbers with the sum of what they bring: one more number; which of two is better.
-/
import Derived.Test.YtlepgkmpbhlajaaDoorCutFor
import Derived.Deep.RegionWith
namespace Go.Proofs.YtlepgkmpbhlajaaDoor.rod
open Go.ChangeShapes Go.WideShapes Go.ChangeAt Go.RowKit Go.Proofs.YtlepgkmpbhlajaaDoor.mem Go.Proofs.YtlepgkmpbhlajaaDoor.nums
set_option linter.unusedVariables false

theorem picksOne_c (g : Nat) (x : Nat) (w : World) (hx : x < 32) (hc : w.cell? ⟨g, 0, none⟩ = some (.int .i64 (x : Int))) (hg : g < w.heap.size) :
    Calls Tryd.prog 81 #[.slice (some ⟨g, 0, none⟩) 1 1] w fun e w' => e = .returned (.int .u32 ((2 ^ x : Nat) : Int)) ∧ w = w' := by
  have h := picksOf_i (some ⟨g, 0, none⟩) 1 1 (fun _ => (x : Int)) w (by unfold maxLen; omega) (fun i _ => ⟨by omega, by omega⟩) (fun _ => ⟨g, 0, rfl, hg, fun j hj => by
    obtain rfl : j = 0 := by omega
    exact hc⟩)
  have e : orC (fun _ => (x : Int)) 1 = 2 ^ x := by simp [orC]
  rw [e] at h
  exact h

set_option maxHeartbeats 4000000 in
set_option maxRecDepth 100000 in
theorem with_c (p x : Nat) (s b : Int) (w : World) (hp : p < 2 ^ 32) (hx : x < 32) (h0 : -1000000000 ≤ s) (h1 : s ≤ 1000000000) (h2 : -1000000000 ≤ b) (h3 : b ≤ 1000000000) :
    Calls Tryd.prog 56 #[.agg #[.int .u32 (p : Nat), .int .i64 s], .int .i64 (x : Int), .int .i64 b] w fun e w' => e = .returned (.agg #[.int .u32 ((p ||| 2 ^ x : Nat) : Int), .int .i64 (s + b)]) ∧ Below w.heap.size w w' := by
  obtain ⟨q, hq⟩ : ∃ q : Nat, 2 ^ x = q := ⟨_, rfl⟩
  have hq32 : q < 2 ^ 32 := by rw [← hq]; exact Nat.pow_lt_pow_right (by decide) hx
  have hor : bits .or .u32 (p : Int) (q : Int) = ((p ||| q : Nat) : Int) := u32_or_nat hp hq32
  have hpk : ∀ W g, W.cell? ⟨g, 0, none⟩ = some (.int .i64 (x : Int)) → g < W.heap.size → Calls Tryd.prog 81 #[.slice (some ⟨g, 0, none⟩) 1 1] W fun e w' => e = .returned (.int .u32 (q : Nat)) ∧ W = w' := fun W g hc hg => by rw [← hq]; exact picksOne_c g x W hx hc hg
  have HPK := Lib.hid hpk
  have hws : IntKind.i64.wrap (s + b) = s + b := IntWalk.i64_in _ (by omega)
  rw [hq]
  clear hpk hq
  generalize p ||| q = pq at *
  go_enter Tryd.func56, Tryd.ntmps56
  go_wp2_with fail
  have p0 : ((w.alloc (Obj.cells #[Value.int IntKind.u32 (p : Int), Value.int IntKind.i64 s] 69)).alloc (Obj.cells #[Value.int IntKind.u32 0, Value.int IntKind.i64 0] 69)).cell? ⟨w.heap.size, 0, none⟩ = some (.int .u32 (p : Int)) := by go_simp
  have p1 : ((w.alloc (Obj.cells #[Value.int IntKind.u32 (p : Int), Value.int IntKind.i64 s] 69)).alloc (Obj.cells #[Value.int IntKind.u32 0, Value.int IntKind.i64 0] 69)).cell? ⟨w.heap.size, 1, none⟩ = some (.int .i64 s) := by go_simp
  go_region_held3 (fun y => y.cell? ⟨w.heap.size, 0, none⟩ = some (.int .u32 (p : Int)) ∧ y.cell? ⟨w.heap.size, 1, none⟩ = some (.int .i64 s)) (first | exact ⟨p0, p1⟩ | go_keep)
    (first | (go_at_call 81; refine (HPK.out _ _ (by go_simp) (by simp)).mono ?_; rintro e w2 ⟨rfl, rfl⟩))
  go_wp2
  go_returns
  exact ⟨rfl, by go_grown⟩

set_option maxHeartbeats 2000000 in
theorem isBetter_c (n p q : Nat) (s u : Int) (w : World) (hn : n ≤ 32) (hp : p < 2 ^ n) (hq : q < 2 ^ n) :
    Calls Tryd.prog 51 #[.agg #[.int .u32 (p : Nat), .int .i64 s], .agg #[.int .u32 (q : Nat), .int .i64 u]] w fun e w' => e = .returned (.bool (if s = u then befB n p q else decide (u < s))) ∧ Below w.heap.size w w' := by
  by_cases h : s = u
  · subst h
    rw [if_pos rfl]
    have e1 : (s == s) = true := by simp
    have e2 : (s != s) = false := by simp
    go_enter Tryd.func51, Tryd.ntmps51
    go_wp2_with fail
    refine (isBefore_i n p q _ hn hp hq).mono ?_
    rintro e w' ⟨rfl, m, rfl⟩
    go_wp2
    go_ret
    exact ⟨rfl, drewN_below (by go_grown) _⟩
  · rw [if_neg h]
    have e1 : (s == u) = false := by simpa using h
    have e2 : (s != u) = true := by simpa using h
    go_enter Tryd.func51, Tryd.ntmps51
    go_wp2_with fail
    go_ret
    exact ⟨rfl, by go_grown⟩

end Go.Proofs.YtlepgkmpbhlajaaDoor.rod
