/-
  Which functions the laws lead to: told by a table of calls, function by function.
-/
import Derived.Test.YthcpkmdgipepgaaDoorRows
import Derived.JoinedCond
import Derived.KernelRfl
namespace Go.Proofs.YthcpkmdgipepgaaDoor.clo
set_option linter.unusedVariables false

/-- the functions that are led to, by a table -/
def cv (T : Nat → List Nat) : Nat → List Nat → List Nat → List Nat
  | 0, _, seen => seen.reverse
  | _, [], seen => seen.reverse
  | n + 1, f :: todo, seen => if seen.contains f then cv T n todo seen else cv T n (T f ++ todo) (f :: seen)
theorem cv_eq (P : Program) (T : Nat → List Nat) (L : List Nat) (hT : ∀ g, g ∈ L → (P.funcs[g]?).elim [] P.leadsTo = T g) (hC : ∀ g, g ∈ L → ∀ h, h ∈ T g → h ∈ L) :
    ∀ n todo seen, (∀ g, g ∈ todo → g ∈ L) → P.closureVia n todo seen = cv T n todo seen := by
  intro n
  induction n with
  | zero => intro todo seen _; rfl
  | succ n ih =>
    intro todo seen h
    cases todo with
    | nil => rfl
    | cons f todo =>
      have hf : f ∈ L := h f (by simp)
      have ht : ∀ g, g ∈ todo → g ∈ L := fun g hg => h g (by simp [hg])
      unfold Program.closureVia cv
      by_cases e : seen.contains f = true
      · rw [if_pos e, if_pos e]; exact ih todo seen ht
      · rw [if_neg e, if_neg e, hT f hf]
        exact ih _ _ fun g hg => by
          rcases List.mem_append.1 hg with hg | hg
          · exact hC f hf g hg
          · exact ht g hg

def tab : List (Nat × List Nat) := [(3, [6, 5, 6, 7]), (5, [24, 25, 25, 25, 25]), (6, []), (7, [21, 26, 26, 26, 26]), (21, [36, 36, 36, 36]), (24, [37, 37, 37, 37]), (25, []), (26, [41]), (36, []), (37, []), (41, [44]), (44, [45, 46, 47, 48]), (45, []), (46, [50, 49, 51]), (47, []), (48, [52, 53]), (49, []), (50, []), (51, []), (52, []), (53, [54, 55]), (54, []), (55, [])]
def T (g : Nat) : List Nat := ((tab.find? (·.1 == g)).map (·.2)).getD []
def all : List Nat := [3, 5, 6, 7, 21, 24, 25, 26, 36, 37, 41, 44, 45, 46, 47, 48, 49, 50, 51, 52, 53, 54, 55]
theorem lead3 : (Tryd.prog.funcs[3]?).elim [] Tryd.prog.leadsTo = T 3 := by kernel_rfl
theorem lead5 : (Tryd.prog.funcs[5]?).elim [] Tryd.prog.leadsTo = T 5 := by kernel_rfl
theorem lead6 : (Tryd.prog.funcs[6]?).elim [] Tryd.prog.leadsTo = T 6 := by kernel_rfl
theorem lead7 : (Tryd.prog.funcs[7]?).elim [] Tryd.prog.leadsTo = T 7 := by kernel_rfl
theorem lead21 : (Tryd.prog.funcs[21]?).elim [] Tryd.prog.leadsTo = T 21 := by kernel_rfl
theorem lead24 : (Tryd.prog.funcs[24]?).elim [] Tryd.prog.leadsTo = T 24 := by kernel_rfl
theorem lead25 : (Tryd.prog.funcs[25]?).elim [] Tryd.prog.leadsTo = T 25 := by kernel_rfl
theorem lead26 : (Tryd.prog.funcs[26]?).elim [] Tryd.prog.leadsTo = T 26 := by kernel_rfl
theorem lead36 : (Tryd.prog.funcs[36]?).elim [] Tryd.prog.leadsTo = T 36 := by kernel_rfl
theorem lead37 : (Tryd.prog.funcs[37]?).elim [] Tryd.prog.leadsTo = T 37 := by kernel_rfl
theorem lead41 : (Tryd.prog.funcs[41]?).elim [] Tryd.prog.leadsTo = T 41 := by kernel_rfl
theorem lead44 : (Tryd.prog.funcs[44]?).elim [] Tryd.prog.leadsTo = T 44 := by kernel_rfl
theorem lead45 : (Tryd.prog.funcs[45]?).elim [] Tryd.prog.leadsTo = T 45 := by kernel_rfl
theorem lead46 : (Tryd.prog.funcs[46]?).elim [] Tryd.prog.leadsTo = T 46 := by kernel_rfl
theorem lead47 : (Tryd.prog.funcs[47]?).elim [] Tryd.prog.leadsTo = T 47 := by kernel_rfl
theorem lead48 : (Tryd.prog.funcs[48]?).elim [] Tryd.prog.leadsTo = T 48 := by kernel_rfl
theorem lead49 : (Tryd.prog.funcs[49]?).elim [] Tryd.prog.leadsTo = T 49 := by kernel_rfl
theorem lead50 : (Tryd.prog.funcs[50]?).elim [] Tryd.prog.leadsTo = T 50 := by kernel_rfl
theorem lead51 : (Tryd.prog.funcs[51]?).elim [] Tryd.prog.leadsTo = T 51 := by kernel_rfl
theorem lead52 : (Tryd.prog.funcs[52]?).elim [] Tryd.prog.leadsTo = T 52 := by kernel_rfl
theorem lead53 : (Tryd.prog.funcs[53]?).elim [] Tryd.prog.leadsTo = T 53 := by kernel_rfl
theorem lead54 : (Tryd.prog.funcs[54]?).elim [] Tryd.prog.leadsTo = T 54 := by kernel_rfl
theorem lead55 : (Tryd.prog.funcs[55]?).elim [] Tryd.prog.leadsTo = T 55 := by kernel_rfl
theorem hT : ∀ g, g ∈ all → (Tryd.prog.funcs[g]?).elim [] Tryd.prog.leadsTo = T g := by
  intro g hg
  simp only [all, List.mem_cons, List.not_mem_nil, or_false] at hg
  rcases hg with rfl | rfl | rfl | rfl | rfl | rfl | rfl | rfl | rfl | rfl | rfl | rfl | rfl | rfl | rfl | rfl | rfl | rfl | rfl | rfl | rfl | rfl | rfl
  · exact lead3
  · exact lead5
  · exact lead6
  · exact lead7
  · exact lead21
  · exact lead24
  · exact lead25
  · exact lead26
  · exact lead36
  · exact lead37
  · exact lead41
  · exact lead44
  · exact lead45
  · exact lead46
  · exact lead47
  · exact lead48
  · exact lead49
  · exact lead50
  · exact lead51
  · exact lead52
  · exact lead53
  · exact lead54
  · exact lead55
theorem hC : ∀ g, g ∈ all → ∀ h, h ∈ T g → h ∈ all := by
  have e : (all.all fun g => (T g).all fun h => all.contains h) = true := by decide +kernel
  intro g hg h hh
  exact List.contains_iff_mem.1 (List.all_eq_true.1 (List.all_eq_true.1 e g hg) h hh)
theorem fuel : (1 + (Tryd.prog.funcs.toList.map fun g => (Tryd.prog.leadsTo g).length + 1).sum) = 185 := by kernel_rfl
theorem closure_is {f : Nat} (hf : f ∈ all) : Tryd.prog.closure f = cv T 185 [f] [] := by
  unfold Program.closure
  rw [fuel]
  exact cv_eq _ T all hT hC _ _ _ fun g hg => by rw [List.mem_singleton.1 hg]; exact hf
end Go.Proofs.YthcpkmdgipepgaaDoor.clo
