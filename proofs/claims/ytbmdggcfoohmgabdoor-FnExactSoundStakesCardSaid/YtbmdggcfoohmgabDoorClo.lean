/-
  Which functions the laws lead to: told by a table of calls, function by function.
-/
import Derived.Test.YtbmdggcfoohmgabDoorRows
import Derived.JoinedCond
import Derived.KernelRfl
namespace Go.Proofs.YtbmdggcfoohmgabDoor.clo
set_option linter.unusedVariables false

/-- the functions that are led to, by a table -/
def cv (T : Nat → List Nat) : Nat → List Nat → List Nat → List Nat
  | 0, _, seen => seen.reverse
  | _, [], seen => seen.reverse
  | n + 1, f :: todo, seen => if seen.contains f then cv T n todo seen else cv T n (T f ++ todo) (f :: seen)
theorem cv_eq (P : Program) (T : Nat → List Nat) (L : List Nat) (hT : ∀ g, g ∈ L → (P.funcs[g]?).elim [] P.leadsTo = T g) (hC : ∀ g, g ∈ L → ∀ h, h ∈ T g → h ∈ L) :
    ∀ n todo seen, (∀ g, g ∈ todo → g ∈ L) → P.closureVia n todo seen = cv T n todo seen := by
  intro n
  induction n with
  | zero => intro todo seen _; rfl
  | succ n ih =>
    intro todo seen h
    cases todo with
    | nil => rfl
    | cons f todo =>
      have hf : f ∈ L := h f (by simp)
      have ht : ∀ g, g ∈ todo → g ∈ L := fun g hg => h g (by simp [hg])
      unfold Program.closureVia cv
      by_cases e : seen.contains f = true
      · rw [if_pos e, if_pos e]; exact ih todo seen ht
      · rw [if_neg e, if_neg e, hT f hf]
        exact ih _ _ fun g hg => by
          rcases List.mem_append.1 hg with hg | hg
          · exact hC f hf g hg
          · exact ht g hg

def tab : List (Nat × List Nat) := [(3, [4, 5, 6, 7, 8, 5, 6, 8]), (4, [9, 10]), (5, [11, 12, 14, 13]), (6, []), (7, []), (8, []), (9, [15, 16]), (10, [17, 18]), (11, [19, 12]), (12, []), (13, [20]), (14, [21]), (15, [23, 24]), (16, []), (17, [25]), (18, [26, 17]), (19, [12, 27]), (20, []), (21, [22]), (22, [28, 29]), (23, [16]), (24, [16]), (25, []), (26, [30, 31]), (27, [33, 32, 34, 36, 35, 38, 37]), (28, []), (29, [40, 41, 42, 39]), (30, [43]), (31, []), (32, []), (33, []), (34, []), (35, [44]), (36, [44]), (37, [45, 46]), (38, [47, 46]), (39, [48]), (40, []), (41, [49, 50]), (42, []), (43, []), (44, []), (45, [51]), (46, [52]), (47, [53, 45]), (48, []), (49, [54]), (50, [54]), (51, []), (52, [55, 56, 55, 57, 58]), (53, []), (54, []), (55, [59]), (56, []), (57, []), (58, []), (59, [60]), (60, [])]
def T (g : Nat) : List Nat := ((tab.find? (·.1 == g)).map (·.2)).getD []
def all : List Nat := [3, 4, 5, 6, 7, 8, 9, 10, 11, 12, 13, 14, 15, 16, 17, 18, 19, 20, 21, 22, 23, 24, 25, 26, 27, 28, 29, 30, 31, 32, 33, 34, 35, 36, 37, 38, 39, 40, 41, 42, 43, 44, 45, 46, 47, 48, 49, 50, 51, 52, 53, 54, 55, 56, 57, 58, 59, 60]
theorem lead3 : (Tryd.prog.funcs[3]?).elim [] Tryd.prog.leadsTo = T 3 := by kernel_rfl
theorem lead4 : (Tryd.prog.funcs[4]?).elim [] Tryd.prog.leadsTo = T 4 := by kernel_rfl
theorem lead5 : (Tryd.prog.funcs[5]?).elim [] Tryd.prog.leadsTo = T 5 := by kernel_rfl
theorem lead6 : (Tryd.prog.funcs[6]?).elim [] Tryd.prog.leadsTo = T 6 := by kernel_rfl
theorem lead7 : (Tryd.prog.funcs[7]?).elim [] Tryd.prog.leadsTo = T 7 := by kernel_rfl
theorem lead8 : (Tryd.prog.funcs[8]?).elim [] Tryd.prog.leadsTo = T 8 := by kernel_rfl
theorem lead9 : (Tryd.prog.funcs[9]?).elim [] Tryd.prog.leadsTo = T 9 := by kernel_rfl
theorem lead10 : (Tryd.prog.funcs[10]?).elim [] Tryd.prog.leadsTo = T 10 := by kernel_rfl
theorem lead11 : (Tryd.prog.funcs[11]?).elim [] Tryd.prog.leadsTo = T 11 := by kernel_rfl
theorem lead12 : (Tryd.prog.funcs[12]?).elim [] Tryd.prog.leadsTo = T 12 := by kernel_rfl
theorem lead13 : (Tryd.prog.funcs[13]?).elim [] Tryd.prog.leadsTo = T 13 := by kernel_rfl
theorem lead14 : (Tryd.prog.funcs[14]?).elim [] Tryd.prog.leadsTo = T 14 := by kernel_rfl
theorem lead15 : (Tryd.prog.funcs[15]?).elim [] Tryd.prog.leadsTo = T 15 := by kernel_rfl
theorem lead16 : (Tryd.prog.funcs[16]?).elim [] Tryd.prog.leadsTo = T 16 := by kernel_rfl
theorem lead17 : (Tryd.prog.funcs[17]?).elim [] Tryd.prog.leadsTo = T 17 := by kernel_rfl
theorem lead18 : (Tryd.prog.funcs[18]?).elim [] Tryd.prog.leadsTo = T 18 := by kernel_rfl
theorem lead19 : (Tryd.prog.funcs[19]?).elim [] Tryd.prog.leadsTo = T 19 := by kernel_rfl
theorem lead20 : (Tryd.prog.funcs[20]?).elim [] Tryd.prog.leadsTo = T 20 := by kernel_rfl
theorem lead21 : (Tryd.prog.funcs[21]?).elim [] Tryd.prog.leadsTo = T 21 := by kernel_rfl
theorem lead22 : (Tryd.prog.funcs[22]?).elim [] Tryd.prog.leadsTo = T 22 := by kernel_rfl
theorem lead23 : (Tryd.prog.funcs[23]?).elim [] Tryd.prog.leadsTo = T 23 := by kernel_rfl
theorem lead24 : (Tryd.prog.funcs[24]?).elim [] Tryd.prog.leadsTo = T 24 := by kernel_rfl
theorem lead25 : (Tryd.prog.funcs[25]?).elim [] Tryd.prog.leadsTo = T 25 := by kernel_rfl
theorem lead26 : (Tryd.prog.funcs[26]?).elim [] Tryd.prog.leadsTo = T 26 := by kernel_rfl
theorem lead27 : (Tryd.prog.funcs[27]?).elim [] Tryd.prog.leadsTo = T 27 := by kernel_rfl
theorem lead28 : (Tryd.prog.funcs[28]?).elim [] Tryd.prog.leadsTo = T 28 := by kernel_rfl
theorem lead29 : (Tryd.prog.funcs[29]?).elim [] Tryd.prog.leadsTo = T 29 := by kernel_rfl
theorem lead30 : (Tryd.prog.funcs[30]?).elim [] Tryd.prog.leadsTo = T 30 := by kernel_rfl
theorem lead31 : (Tryd.prog.funcs[31]?).elim [] Tryd.prog.leadsTo = T 31 := by kernel_rfl
theorem lead32 : (Tryd.prog.funcs[32]?).elim [] Tryd.prog.leadsTo = T 32 := by kernel_rfl
theorem lead33 : (Tryd.prog.funcs[33]?).elim [] Tryd.prog.leadsTo = T 33 := by kernel_rfl
theorem lead34 : (Tryd.prog.funcs[34]?).elim [] Tryd.prog.leadsTo = T 34 := by kernel_rfl
theorem lead35 : (Tryd.prog.funcs[35]?).elim [] Tryd.prog.leadsTo = T 35 := by kernel_rfl
theorem lead36 : (Tryd.prog.funcs[36]?).elim [] Tryd.prog.leadsTo = T 36 := by kernel_rfl
theorem lead37 : (Tryd.prog.funcs[37]?).elim [] Tryd.prog.leadsTo = T 37 := by kernel_rfl
theorem lead38 : (Tryd.prog.funcs[38]?).elim [] Tryd.prog.leadsTo = T 38 := by kernel_rfl
theorem lead39 : (Tryd.prog.funcs[39]?).elim [] Tryd.prog.leadsTo = T 39 := by kernel_rfl
theorem lead40 : (Tryd.prog.funcs[40]?).elim [] Tryd.prog.leadsTo = T 40 := by kernel_rfl
theorem lead41 : (Tryd.prog.funcs[41]?).elim [] Tryd.prog.leadsTo = T 41 := by kernel_rfl
theorem lead42 : (Tryd.prog.funcs[42]?).elim [] Tryd.prog.leadsTo = T 42 := by kernel_rfl
theorem lead43 : (Tryd.prog.funcs[43]?).elim [] Tryd.prog.leadsTo = T 43 := by kernel_rfl
theorem lead44 : (Tryd.prog.funcs[44]?).elim [] Tryd.prog.leadsTo = T 44 := by kernel_rfl
theorem lead45 : (Tryd.prog.funcs[45]?).elim [] Tryd.prog.leadsTo = T 45 := by kernel_rfl
theorem lead46 : (Tryd.prog.funcs[46]?).elim [] Tryd.prog.leadsTo = T 46 := by kernel_rfl
theorem lead47 : (Tryd.prog.funcs[47]?).elim [] Tryd.prog.leadsTo = T 47 := by kernel_rfl
theorem lead48 : (Tryd.prog.funcs[48]?).elim [] Tryd.prog.leadsTo = T 48 := by kernel_rfl
theorem lead49 : (Tryd.prog.funcs[49]?).elim [] Tryd.prog.leadsTo = T 49 := by kernel_rfl
theorem lead50 : (Tryd.prog.funcs[50]?).elim [] Tryd.prog.leadsTo = T 50 := by kernel_rfl
theorem lead51 : (Tryd.prog.funcs[51]?).elim [] Tryd.prog.leadsTo = T 51 := by kernel_rfl
theorem lead52 : (Tryd.prog.funcs[52]?).elim [] Tryd.prog.leadsTo = T 52 := by kernel_rfl
theorem lead53 : (Tryd.prog.funcs[53]?).elim [] Tryd.prog.leadsTo = T 53 := by kernel_rfl
theorem lead54 : (Tryd.prog.funcs[54]?).elim [] Tryd.prog.leadsTo = T 54 := by kernel_rfl
theorem lead55 : (Tryd.prog.funcs[55]?).elim [] Tryd.prog.leadsTo = T 55 := by kernel_rfl
theorem lead56 : (Tryd.prog.funcs[56]?).elim [] Tryd.prog.leadsTo = T 56 := by kernel_rfl
theorem lead57 : (Tryd.prog.funcs[57]?).elim [] Tryd.prog.leadsTo = T 57 := by kernel_rfl
theorem lead58 : (Tryd.prog.funcs[58]?).elim [] Tryd.prog.leadsTo = T 58 := by kernel_rfl
theorem lead59 : (Tryd.prog.funcs[59]?).elim [] Tryd.prog.leadsTo = T 59 := by kernel_rfl
theorem lead60 : (Tryd.prog.funcs[60]?).elim [] Tryd.prog.leadsTo = T 60 := by kernel_rfl
theorem hT : ∀ g, g ∈ all → (Tryd.prog.funcs[g]?).elim [] Tryd.prog.leadsTo = T g := by
  intro g hg
  simp only [all, List.mem_cons, List.not_mem_nil, or_false] at hg
  rcases hg with rfl | rfl | rfl | rfl | rfl | rfl | rfl | rfl | rfl | rfl | rfl | rfl | rfl | rfl | rfl | rfl | rfl | rfl | rfl | rfl | rfl | rfl | rfl | rfl | rfl | rfl | rfl | rfl | rfl | rfl | rfl | rfl | rfl | rfl | rfl | rfl | rfl | rfl | rfl | rfl | rfl | rfl | rfl | rfl | rfl | rfl | rfl | rfl | rfl | rfl | rfl | rfl | rfl | rfl | rfl | rfl | rfl | rfl
  · exact lead3
  · exact lead4
  · exact lead5
  · exact lead6
  · exact lead7
  · exact lead8
  · exact lead9
  · exact lead10
  · exact lead11
  · exact lead12
  · exact lead13
  · exact lead14
  · exact lead15
  · exact lead16
  · exact lead17
  · exact lead18
  · exact lead19
  · exact lead20
  · exact lead21
  · exact lead22
  · exact lead23
  · exact lead24
  · exact lead25
  · exact lead26
  · exact lead27
  · exact lead28
  · exact lead29
  · exact lead30
  · exact lead31
  · exact lead32
  · exact lead33
  · exact lead34
  · exact lead35
  · exact lead36
  · exact lead37
  · exact lead38
  · exact lead39
  · exact lead40
  · exact lead41
  · exact lead42
  · exact lead43
  · exact lead44
  · exact lead45
  · exact lead46
  · exact lead47
  · exact lead48
  · exact lead49
  · exact lead50
  · exact lead51
  · exact lead52
  · exact lead53
  · exact lead54
  · exact lead55
  · exact lead56
  · exact lead57
  · exact lead58
  · exact lead59
  · exact lead60
theorem hC : ∀ g, g ∈ all → ∀ h, h ∈ T g → h ∈ all := by
  have e : (all.all fun g => (T g).all fun h => all.contains h) = true := by decide +kernel
  intro g hg h hh
  exact List.contains_iff_mem.1 (List.all_eq_true.1 (List.all_eq_true.1 e g hg) h hh)
theorem fuel : (1 + (Tryd.prog.funcs.toList.map fun g => (Tryd.prog.leadsTo g).length + 1).sum) = 154 := by kernel_rfl
theorem closure_is {f : Nat} (hf : f ∈ all) : Tryd.prog.closure f = cv T 154 [f] [] := by
  unfold Program.closure
  rw [fuel]
  exact cv_eq _ T all hT hC _ _ _ fun g hg => by rw [List.mem_singleton.1 hg]; exact hf
end Go.Proofs.YtbmdggcfoohmgabDoor.clo
