/-
  Which functions the laws lead to: told by a table of calls, function by function.
-/
import Derived.Test.YtopiecbldnhihaaDoorRows
import Derived.JoinedCond
import Derived.KernelRfl
namespace Go.Proofs.YtopiecbldnhihaaDoor.clo
set_option linter.unusedVariables false

/-- the functions that are led to, by a table -/
def cv (T : Nat → List Nat) : Nat → List Nat → List Nat → List Nat
  | 0, _, seen => seen.reverse
  | _, [], seen => seen.reverse
  | n + 1, f :: todo, seen => if seen.contains f then cv T n todo seen else cv T n (T f ++ todo) (f :: seen)
theorem cv_eq (P : Program) (T : Nat → List Nat) (L : List Nat) (hT : ∀ g, g ∈ L → (P.funcs[g]?).elim [] P.leadsTo = T g) (hC : ∀ g, g ∈ L → ∀ h, h ∈ T g → h ∈ L) :
    ∀ n todo seen, (∀ g, g ∈ todo → g ∈ L) → P.closureVia n todo seen = cv T n todo seen := by
  intro n
  induction n with
  | zero => intro todo seen _; rfl
  | succ n ih =>
    intro todo seen h
    cases todo with
    | nil => rfl
    | cons f todo =>
      have hf : f ∈ L := h f (by simp)
      have ht : ∀ g, g ∈ todo → g ∈ L := fun g hg => h g (by simp [hg])
      unfold Program.closureVia cv
      by_cases e : seen.contains f = true
      · rw [if_pos e, if_pos e]; exact ih todo seen ht
      · rw [if_neg e, if_neg e, hT f hf]
        exact ih _ _ fun g hg => by
          rcases List.mem_append.1 hg with hg | hg
          · exact hC f hf g hg
          · exact ht g hg

def tab : List (Nat × List Nat) := [(3, [4, 5, 6, 7, 8, 9, 10, 11, 12, 13, 14, 15, 16, 17, 18, 17, 19, 20, 21, 22, 11, 23]), (4, []), (5, [24, 25, 26, 27, 28, 27, 28, 26]), (6, [19, 29, 29, 30]), (7, [31, 32, 32, 33, 34]), (8, [19, 36, 35, 37]), (9, [31, 33, 38, 39]), (10, [24, 25]), (11, [19, 40, 41, 42]), (12, [31, 33, 43, 45, 44]), (13, [19, 46]), (14, [31, 33, 39, 34, 48, 47, 48]), (15, [24, 25, 49, 26]), (16, []), (17, [50]), (18, [51]), (19, [52, 53, 42, 42, 29]), (20, [31]), (21, [19, 54, 55, 54]), (22, [31, 56, 56]), (23, [19, 19, 36, 35, 36, 35, 36, 57, 36]), (24, []), (25, [58, 26, 28, 45, 45, 28]), (26, [59, 59]), (27, [26]), (28, [26]), (29, []), (30, [36, 42]), (31, [32, 45, 45, 32]), (32, []), (33, []), (34, []), (35, [57]), (36, [60]), (37, [61]), (38, []), (39, []), (40, []), (41, []), (42, [62]), (43, []), (44, []), (45, [63]), (46, [42, 42, 37, 30, 42, 65, 64, 36, 64]), (47, []), (48, [47, 66]), (49, []), (50, []), (51, []), (52, []), (53, [29]), (54, [67]), (55, [68, 69, 69, 69, 70]), (56, []), (57, [71]), (58, [26, 26, 27, 26, 26, 27, 45, 47, 26]), (59, []), (60, [72, 69, 70]), (61, []), (62, []), (63, []), (64, []), (65, [74, 73]), (66, []), (67, [75]), (68, [76, 77]), (69, [76]), (70, []), (71, []), (72, [78, 79, 79, 79, 79, 79, 68, 69, 80, 80, 80, 70, 69, 70]), (73, []), (74, []), (75, [81, 82, 83, 84]), (76, [85]), (77, [86]), (78, [87, 88]), (79, [89]), (80, []), (81, []), (82, [91, 90, 92]), (83, []), (84, [93, 94]), (85, []), (86, []), (87, []), (88, []), (89, []), (90, []), (91, []), (92, []), (93, []), (94, [95, 96]), (95, []), (96, [])]
def T (g : Nat) : List Nat := ((tab.find? (·.1 == g)).map (·.2)).getD []
def all : List Nat := [3, 4, 5, 6, 7, 8, 9, 10, 11, 12, 13, 14, 15, 16, 17, 18, 19, 20, 21, 22, 23, 24, 25, 26, 27, 28, 29, 30, 31, 32, 33, 34, 35, 36, 37, 38, 39, 40, 41, 42, 43, 44, 45, 46, 47, 48, 49, 50, 51, 52, 53, 54, 55, 56, 57, 58, 59, 60, 61, 62, 63, 64, 65, 66, 67, 68, 69, 70, 71, 72, 73, 74, 75, 76, 77, 78, 79, 80, 81, 82, 83, 84, 85, 86, 87, 88, 89, 90, 91, 92, 93, 94, 95, 96]
theorem lead3 : (Tryd.prog.funcs[3]?).elim [] Tryd.prog.leadsTo = T 3 := by kernel_rfl
theorem lead4 : (Tryd.prog.funcs[4]?).elim [] Tryd.prog.leadsTo = T 4 := by kernel_rfl
theorem lead5 : (Tryd.prog.funcs[5]?).elim [] Tryd.prog.leadsTo = T 5 := by kernel_rfl
theorem lead6 : (Tryd.prog.funcs[6]?).elim [] Tryd.prog.leadsTo = T 6 := by kernel_rfl
theorem lead7 : (Tryd.prog.funcs[7]?).elim [] Tryd.prog.leadsTo = T 7 := by kernel_rfl
theorem lead8 : (Tryd.prog.funcs[8]?).elim [] Tryd.prog.leadsTo = T 8 := by kernel_rfl
theorem lead9 : (Tryd.prog.funcs[9]?).elim [] Tryd.prog.leadsTo = T 9 := by kernel_rfl
theorem lead10 : (Tryd.prog.funcs[10]?).elim [] Tryd.prog.leadsTo = T 10 := by kernel_rfl
theorem lead11 : (Tryd.prog.funcs[11]?).elim [] Tryd.prog.leadsTo = T 11 := by kernel_rfl
theorem lead12 : (Tryd.prog.funcs[12]?).elim [] Tryd.prog.leadsTo = T 12 := by kernel_rfl
theorem lead13 : (Tryd.prog.funcs[13]?).elim [] Tryd.prog.leadsTo = T 13 := by kernel_rfl
theorem lead14 : (Tryd.prog.funcs[14]?).elim [] Tryd.prog.leadsTo = T 14 := by kernel_rfl
theorem lead15 : (Tryd.prog.funcs[15]?).elim [] Tryd.prog.leadsTo = T 15 := by kernel_rfl
theorem lead16 : (Tryd.prog.funcs[16]?).elim [] Tryd.prog.leadsTo = T 16 := by kernel_rfl
theorem lead17 : (Tryd.prog.funcs[17]?).elim [] Tryd.prog.leadsTo = T 17 := by kernel_rfl
theorem lead18 : (Tryd.prog.funcs[18]?).elim [] Tryd.prog.leadsTo = T 18 := by kernel_rfl
theorem lead19 : (Tryd.prog.funcs[19]?).elim [] Tryd.prog.leadsTo = T 19 := by kernel_rfl
theorem lead20 : (Tryd.prog.funcs[20]?).elim [] Tryd.prog.leadsTo = T 20 := by kernel_rfl
theorem lead21 : (Tryd.prog.funcs[21]?).elim [] Tryd.prog.leadsTo = T 21 := by kernel_rfl
theorem lead22 : (Tryd.prog.funcs[22]?).elim [] Tryd.prog.leadsTo = T 22 := by kernel_rfl
theorem lead23 : (Tryd.prog.funcs[23]?).elim [] Tryd.prog.leadsTo = T 23 := by kernel_rfl
theorem lead24 : (Tryd.prog.funcs[24]?).elim [] Tryd.prog.leadsTo = T 24 := by kernel_rfl
theorem lead25 : (Tryd.prog.funcs[25]?).elim [] Tryd.prog.leadsTo = T 25 := by kernel_rfl
theorem lead26 : (Tryd.prog.funcs[26]?).elim [] Tryd.prog.leadsTo = T 26 := by kernel_rfl
theorem lead27 : (Tryd.prog.funcs[27]?).elim [] Tryd.prog.leadsTo = T 27 := by kernel_rfl
theorem lead28 : (Tryd.prog.funcs[28]?).elim [] Tryd.prog.leadsTo = T 28 := by kernel_rfl
theorem lead29 : (Tryd.prog.funcs[29]?).elim [] Tryd.prog.leadsTo = T 29 := by kernel_rfl
theorem lead30 : (Tryd.prog.funcs[30]?).elim [] Tryd.prog.leadsTo = T 30 := by kernel_rfl
theorem lead31 : (Tryd.prog.funcs[31]?).elim [] Tryd.prog.leadsTo = T 31 := by kernel_rfl
theorem lead32 : (Tryd.prog.funcs[32]?).elim [] Tryd.prog.leadsTo = T 32 := by kernel_rfl
theorem lead33 : (Tryd.prog.funcs[33]?).elim [] Tryd.prog.leadsTo = T 33 := by kernel_rfl
theorem lead34 : (Tryd.prog.funcs[34]?).elim [] Tryd.prog.leadsTo = T 34 := by kernel_rfl
theorem lead35 : (Tryd.prog.funcs[35]?).elim [] Tryd.prog.leadsTo = T 35 := by kernel_rfl
theorem lead36 : (Tryd.prog.funcs[36]?).elim [] Tryd.prog.leadsTo = T 36 := by kernel_rfl
theorem lead37 : (Tryd.prog.funcs[37]?).elim [] Tryd.prog.leadsTo = T 37 := by kernel_rfl
theorem lead38 : (Tryd.prog.funcs[38]?).elim [] Tryd.prog.leadsTo = T 38 := by kernel_rfl
theorem lead39 : (Tryd.prog.funcs[39]?).elim [] Tryd.prog.leadsTo = T 39 := by kernel_rfl
theorem lead40 : (Tryd.prog.funcs[40]?).elim [] Tryd.prog.leadsTo = T 40 := by kernel_rfl
theorem lead41 : (Tryd.prog.funcs[41]?).elim [] Tryd.prog.leadsTo = T 41 := by kernel_rfl
theorem lead42 : (Tryd.prog.funcs[42]?).elim [] Tryd.prog.leadsTo = T 42 := by kernel_rfl
theorem lead43 : (Tryd.prog.funcs[43]?).elim [] Tryd.prog.leadsTo = T 43 := by kernel_rfl
theorem lead44 : (Tryd.prog.funcs[44]?).elim [] Tryd.prog.leadsTo = T 44 := by kernel_rfl
theorem lead45 : (Tryd.prog.funcs[45]?).elim [] Tryd.prog.leadsTo = T 45 := by kernel_rfl
theorem lead46 : (Tryd.prog.funcs[46]?).elim [] Tryd.prog.leadsTo = T 46 := by kernel_rfl
theorem lead47 : (Tryd.prog.funcs[47]?).elim [] Tryd.prog.leadsTo = T 47 := by kernel_rfl
theorem lead48 : (Tryd.prog.funcs[48]?).elim [] Tryd.prog.leadsTo = T 48 := by kernel_rfl
theorem lead49 : (Tryd.prog.funcs[49]?).elim [] Tryd.prog.leadsTo = T 49 := by kernel_rfl
theorem lead50 : (Tryd.prog.funcs[50]?).elim [] Tryd.prog.leadsTo = T 50 := by kernel_rfl
theorem lead51 : (Tryd.prog.funcs[51]?).elim [] Tryd.prog.leadsTo = T 51 := by kernel_rfl
theorem lead52 : (Tryd.prog.funcs[52]?).elim [] Tryd.prog.leadsTo = T 52 := by kernel_rfl
theorem lead53 : (Tryd.prog.funcs[53]?).elim [] Tryd.prog.leadsTo = T 53 := by kernel_rfl
theorem lead54 : (Tryd.prog.funcs[54]?).elim [] Tryd.prog.leadsTo = T 54 := by kernel_rfl
theorem lead55 : (Tryd.prog.funcs[55]?).elim [] Tryd.prog.leadsTo = T 55 := by kernel_rfl
theorem lead56 : (Tryd.prog.funcs[56]?).elim [] Tryd.prog.leadsTo = T 56 := by kernel_rfl
theorem lead57 : (Tryd.prog.funcs[57]?).elim [] Tryd.prog.leadsTo = T 57 := by kernel_rfl
theorem lead58 : (Tryd.prog.funcs[58]?).elim [] Tryd.prog.leadsTo = T 58 := by kernel_rfl
theorem lead59 : (Tryd.prog.funcs[59]?).elim [] Tryd.prog.leadsTo = T 59 := by kernel_rfl
theorem lead60 : (Tryd.prog.funcs[60]?).elim [] Tryd.prog.leadsTo = T 60 := by kernel_rfl
theorem lead61 : (Tryd.prog.funcs[61]?).elim [] Tryd.prog.leadsTo = T 61 := by kernel_rfl
theorem lead62 : (Tryd.prog.funcs[62]?).elim [] Tryd.prog.leadsTo = T 62 := by kernel_rfl
theorem lead63 : (Tryd.prog.funcs[63]?).elim [] Tryd.prog.leadsTo = T 63 := by kernel_rfl
theorem lead64 : (Tryd.prog.funcs[64]?).elim [] Tryd.prog.leadsTo = T 64 := by kernel_rfl
theorem lead65 : (Tryd.prog.funcs[65]?).elim [] Tryd.prog.leadsTo = T 65 := by kernel_rfl
theorem lead66 : (Tryd.prog.funcs[66]?).elim [] Tryd.prog.leadsTo = T 66 := by kernel_rfl
theorem lead67 : (Tryd.prog.funcs[67]?).elim [] Tryd.prog.leadsTo = T 67 := by kernel_rfl
theorem lead68 : (Tryd.prog.funcs[68]?).elim [] Tryd.prog.leadsTo = T 68 := by kernel_rfl
theorem lead69 : (Tryd.prog.funcs[69]?).elim [] Tryd.prog.leadsTo = T 69 := by kernel_rfl
theorem lead70 : (Tryd.prog.funcs[70]?).elim [] Tryd.prog.leadsTo = T 70 := by kernel_rfl
theorem lead71 : (Tryd.prog.funcs[71]?).elim [] Tryd.prog.leadsTo = T 71 := by kernel_rfl
theorem lead72 : (Tryd.prog.funcs[72]?).elim [] Tryd.prog.leadsTo = T 72 := by kernel_rfl
theorem lead73 : (Tryd.prog.funcs[73]?).elim [] Tryd.prog.leadsTo = T 73 := by kernel_rfl
theorem lead74 : (Tryd.prog.funcs[74]?).elim [] Tryd.prog.leadsTo = T 74 := by kernel_rfl
theorem lead75 : (Tryd.prog.funcs[75]?).elim [] Tryd.prog.leadsTo = T 75 := by kernel_rfl
theorem lead76 : (Tryd.prog.funcs[76]?).elim [] Tryd.prog.leadsTo = T 76 := by kernel_rfl
theorem lead77 : (Tryd.prog.funcs[77]?).elim [] Tryd.prog.leadsTo = T 77 := by kernel_rfl
theorem lead78 : (Tryd.prog.funcs[78]?).elim [] Tryd.prog.leadsTo = T 78 := by kernel_rfl
theorem lead79 : (Tryd.prog.funcs[79]?).elim [] Tryd.prog.leadsTo = T 79 := by kernel_rfl
theorem lead80 : (Tryd.prog.funcs[80]?).elim [] Tryd.prog.leadsTo = T 80 := by kernel_rfl
theorem lead81 : (Tryd.prog.funcs[81]?).elim [] Tryd.prog.leadsTo = T 81 := by kernel_rfl
theorem lead82 : (Tryd.prog.funcs[82]?).elim [] Tryd.prog.leadsTo = T 82 := by kernel_rfl
theorem lead83 : (Tryd.prog.funcs[83]?).elim [] Tryd.prog.leadsTo = T 83 := by kernel_rfl
theorem lead84 : (Tryd.prog.funcs[84]?).elim [] Tryd.prog.leadsTo = T 84 := by kernel_rfl
theorem lead85 : (Tryd.prog.funcs[85]?).elim [] Tryd.prog.leadsTo = T 85 := by kernel_rfl
theorem lead86 : (Tryd.prog.funcs[86]?).elim [] Tryd.prog.leadsTo = T 86 := by kernel_rfl
theorem lead87 : (Tryd.prog.funcs[87]?).elim [] Tryd.prog.leadsTo = T 87 := by kernel_rfl
theorem lead88 : (Tryd.prog.funcs[88]?).elim [] Tryd.prog.leadsTo = T 88 := by kernel_rfl
theorem lead89 : (Tryd.prog.funcs[89]?).elim [] Tryd.prog.leadsTo = T 89 := by kernel_rfl
theorem lead90 : (Tryd.prog.funcs[90]?).elim [] Tryd.prog.leadsTo = T 90 := by kernel_rfl
theorem lead91 : (Tryd.prog.funcs[91]?).elim [] Tryd.prog.leadsTo = T 91 := by kernel_rfl
theorem lead92 : (Tryd.prog.funcs[92]?).elim [] Tryd.prog.leadsTo = T 92 := by kernel_rfl
theorem lead93 : (Tryd.prog.funcs[93]?).elim [] Tryd.prog.leadsTo = T 93 := by kernel_rfl
theorem lead94 : (Tryd.prog.funcs[94]?).elim [] Tryd.prog.leadsTo = T 94 := by kernel_rfl
theorem lead95 : (Tryd.prog.funcs[95]?).elim [] Tryd.prog.leadsTo = T 95 := by kernel_rfl
theorem lead96 : (Tryd.prog.funcs[96]?).elim [] Tryd.prog.leadsTo = T 96 := by kernel_rfl
theorem hT : ∀ g, g ∈ all → (Tryd.prog.funcs[g]?).elim [] Tryd.prog.leadsTo = T g := by
  intro g hg
  simp only [all, List.mem_cons, List.not_mem_nil, or_false] at hg
  rcases hg with rfl | rfl | rfl | rfl | rfl | rfl | rfl | rfl | rfl | rfl | rfl | rfl | rfl | rfl | rfl | rfl | rfl | rfl | rfl | rfl | rfl | rfl | rfl | rfl | rfl | rfl | rfl | rfl | rfl | rfl | rfl | rfl | rfl | rfl | rfl | rfl | rfl | rfl | rfl | rfl | rfl | rfl | rfl | rfl | rfl | rfl | rfl | rfl | rfl | rfl | rfl | rfl | rfl | rfl | rfl | rfl | rfl | rfl | rfl | rfl | rfl | rfl | rfl | rfl | rfl | rfl | rfl | rfl | rfl | rfl | rfl | rfl | rfl | rfl | rfl | rfl | rfl | rfl | rfl | rfl | rfl | rfl | rfl | rfl | rfl | rfl | rfl | rfl | rfl | rfl | rfl | rfl | rfl | rfl
  · exact lead3
  · exact lead4
  · exact lead5
  · exact lead6
  · exact lead7
  · exact lead8
  · exact lead9
  · exact lead10
  · exact lead11
  · exact lead12
  · exact lead13
  · exact lead14
  · exact lead15
  · exact lead16
  · exact lead17
  · exact lead18
  · exact lead19
  · exact lead20
  · exact lead21
  · exact lead22
  · exact lead23
  · exact lead24
  · exact lead25
  · exact lead26
  · exact lead27
  · exact lead28
  · exact lead29
  · exact lead30
  · exact lead31
  · exact lead32
  · exact lead33
  · exact lead34
  · exact lead35
  · exact lead36
  · exact lead37
  · exact lead38
  · exact lead39
  · exact lead40
  · exact lead41
  · exact lead42
  · exact lead43
  · exact lead44
  · exact lead45
  · exact lead46
  · exact lead47
  · exact lead48
  · exact lead49
  · exact lead50
  · exact lead51
  · exact lead52
  · exact lead53
  · exact lead54
  · exact lead55
  · exact lead56
  · exact lead57
  · exact lead58
  · exact lead59
  · exact lead60
  · exact lead61
  · exact lead62
  · exact lead63
  · exact lead64
  · exact lead65
  · exact lead66
  · exact lead67
  · exact lead68
  · exact lead69
  · exact lead70
  · exact lead71
  · exact lead72
  · exact lead73
  · exact lead74
  · exact lead75
  · exact lead76
  · exact lead77
  · exact lead78
  · exact lead79
  · exact lead80
  · exact lead81
  · exact lead82
  · exact lead83
  · exact lead84
  · exact lead85
  · exact lead86
  · exact lead87
  · exact lead88
  · exact lead89
  · exact lead90
  · exact lead91
  · exact lead92
  · exact lead93
  · exact lead94
  · exact lead95
  · exact lead96
theorem hC : ∀ g, g ∈ all → ∀ h, h ∈ T g → h ∈ all := by
  have e : (all.all fun g => (T g).all fun h => all.contains h) = true := by decide +kernel
  intro g hg h hh
  exact List.contains_iff_mem.1 (List.all_eq_true.1 (List.all_eq_true.1 e g hg) h hh)
theorem fuel : (1 + (Tryd.prog.funcs.toList.map fun g => (Tryd.prog.leadsTo g).length + 1).sum) = 305 := by kernel_rfl
theorem closure_is {f : Nat} (hf : f ∈ all) : Tryd.prog.closure f = cv T 305 [f] [] := by
  unfold Program.closure
  rw [fuel]
  exact cv_eq _ T all hT hC _ _ _ fun g hg => by rw [List.mem_singleton.1 hg]; exact hf
end Go.Proofs.YtopiecbldnhihaaDoor.clo
