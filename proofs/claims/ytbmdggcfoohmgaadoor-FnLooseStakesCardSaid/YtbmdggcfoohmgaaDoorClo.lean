/-
  Which functions the laws lead to: told by a table of calls, function by function.
-/
import Derived.Test.YtbmdggcfoohmgaaDoorRows
import Derived.JoinedCond
import Derived.KernelRfl
namespace Go.Proofs.YtbmdggcfoohmgaaDoor.clo
set_option linter.unusedVariables false

/-- the functions that are led to, by a table -/
def cv (T : Nat → List Nat) : Nat → List Nat → List Nat → List Nat
  | 0, _, seen => seen.reverse
  | _, [], seen => seen.reverse
  | n + 1, f :: todo, seen => if seen.contains f then cv T n todo seen else cv T n (T f ++ todo) (f :: seen)
theorem cv_eq (P : Program) (T : Nat → List Nat) (L : List Nat) (hT : ∀ g, g ∈ L → (P.funcs[g]?).elim [] P.leadsTo = T g) (hC : ∀ g, g ∈ L → ∀ h, h ∈ T g → h ∈ L) :
    ∀ n todo seen, (∀ g, g ∈ todo → g ∈ L) → P.closureVia n todo seen = cv T n todo seen := by
  intro n
  induction n with
  | zero => intro todo seen _; rfl
  | succ n ih =>
    intro todo seen h
    cases todo with
    | nil => rfl
    | cons f todo =>
      have hf : f ∈ L := h f (by simp)
      have ht : ∀ g, g ∈ todo → g ∈ L := fun g hg => h g (by simp [hg])
      unfold Program.closureVia cv
      by_cases e : seen.contains f = true
      · rw [if_pos e, if_pos e]; exact ih todo seen ht
      · rw [if_neg e, if_neg e, hT f hf]
        exact ih _ _ fun g hg => by
          rcases List.mem_append.1 hg with hg | hg
          · exact hC f hf g hg
          · exact ht g hg

def tab : List (Nat × List Nat) := [(3, [14, 15, 16, 16, 17, 18, 19, 20, 21, 22, 21]), (5, [47, 48]), (6, [49, 50]), (7, [51, 52]), (8, [53, 54]), (9, [55, 17, 56, 57, 58, 17, 56, 58]), (10, [22, 59]), (11, [60, 61]), (12, [62, 18]), (13, [63, 64]), (14, []), (15, [66, 65]), (16, []), (17, [67, 68]), (18, [67, 68, 70, 69]), (19, [67, 71, 73, 72]), (20, []), (21, []), (22, [74, 75]), (47, [111]), (48, [71, 112]), (49, [113, 81, 114]), (50, [67, 71, 115]), (51, [111, 116]), (52, [48, 117, 117, 69]), (53, [113, 118]), (54, [67, 119]), (55, [113, 120]), (56, []), (57, []), (58, []), (59, [67, 71, 121]), (60, [74, 75]), (61, [67, 71, 73]), (62, [113, 120, 123, 116, 122]), (63, [111]), (64, [48, 124, 125]), (65, [77, 126, 76, 76]), (66, []), (67, [48, 71]), (68, [128, 129, 130, 127]), (69, []), (70, [119, 132, 131]), (71, []), (72, [134]), (73, [135]), (74, [113, 81]), (75, [116, 120]), (76, [136, 136]), (77, [76]), (81, []), (111, [81]), (112, [148, 147, 149, 151, 150, 153, 152]), (113, [111, 154]), (114, []), (115, [155, 131]), (116, [122]), (117, [156]), (118, [157]), (119, [158]), (120, [123, 116]), (121, [69, 68]), (122, []), (123, [118, 114]), (124, []), (125, [160, 159]), (126, [76]), (127, [161]), (128, []), (129, [119, 133]), (130, []), (131, []), (132, [133]), (133, [158]), (134, []), (135, [121]), (136, []), (147, []), (148, []), (149, []), (150, [167]), (151, [167]), (152, [168, 169]), (153, [170, 169]), (154, [81]), (155, [133]), (156, [171]), (157, []), (158, []), (159, [172, 173]), (160, [174]), (161, []), (167, []), (168, [183]), (169, [184]), (170, [185, 168]), (171, [186, 187, 186, 188, 187, 189]), (172, [190]), (173, [191, 192, 172, 193]), (174, [194, 195]), (183, []), (184, [203, 204, 203, 188, 187]), (185, []), (186, [205]), (187, []), (188, []), (189, [206]), (190, []), (191, [207]), (192, [208]), (193, [210, 209]), (194, [211]), (195, [212]), (203, [186]), (204, []), (205, []), (206, []), (207, [216, 217, 218, 219, 220]), (208, [221, 216, 222, 223, 218]), (209, []), (210, []), (211, [224, 225]), (212, [212, 212, 212, 212, 212]), (216, []), (217, []), (218, []), (219, []), (220, [226, 217, 227, 228, 217, 229, 230, 229, 228, 222, 218, 219]), (221, []), (222, []), (223, [231, 217, 232, 232]), (224, [233]), (225, []), (226, []), (227, []), (228, []), (229, []), (230, []), (231, []), (232, []), (233, [])]
def T (g : Nat) : List Nat := ((tab.find? (·.1 == g)).map (·.2)).getD []
def all : List Nat := [3, 5, 6, 7, 8, 9, 10, 11, 12, 13, 14, 15, 16, 17, 18, 19, 20, 21, 22, 47, 48, 49, 50, 51, 52, 53, 54, 55, 56, 57, 58, 59, 60, 61, 62, 63, 64, 65, 66, 67, 68, 69, 70, 71, 72, 73, 74, 75, 76, 77, 81, 111, 112, 113, 114, 115, 116, 117, 118, 119, 120, 121, 122, 123, 124, 125, 126, 127, 128, 129, 130, 131, 132, 133, 134, 135, 136, 147, 148, 149, 150, 151, 152, 153, 154, 155, 156, 157, 158, 159, 160, 161, 167, 168, 169, 170, 171, 172, 173, 174, 183, 184, 185, 186, 187, 188, 189, 190, 191, 192, 193, 194, 195, 203, 204, 205, 206, 207, 208, 209, 210, 211, 212, 216, 217, 218, 219, 220, 221, 222, 223, 224, 225, 226, 227, 228, 229, 230, 231, 232, 233]
theorem lead3 : (Tryd.prog.funcs[3]?).elim [] Tryd.prog.leadsTo = T 3 := by kernel_rfl
theorem lead5 : (Tryd.prog.funcs[5]?).elim [] Tryd.prog.leadsTo = T 5 := by kernel_rfl
theorem lead6 : (Tryd.prog.funcs[6]?).elim [] Tryd.prog.leadsTo = T 6 := by kernel_rfl
theorem lead7 : (Tryd.prog.funcs[7]?).elim [] Tryd.prog.leadsTo = T 7 := by kernel_rfl
theorem lead8 : (Tryd.prog.funcs[8]?).elim [] Tryd.prog.leadsTo = T 8 := by kernel_rfl
theorem lead9 : (Tryd.prog.funcs[9]?).elim [] Tryd.prog.leadsTo = T 9 := by kernel_rfl
theorem lead10 : (Tryd.prog.funcs[10]?).elim [] Tryd.prog.leadsTo = T 10 := by kernel_rfl
theorem lead11 : (Tryd.prog.funcs[11]?).elim [] Tryd.prog.leadsTo = T 11 := by kernel_rfl
theorem lead12 : (Tryd.prog.funcs[12]?).elim [] Tryd.prog.leadsTo = T 12 := by kernel_rfl
theorem lead13 : (Tryd.prog.funcs[13]?).elim [] Tryd.prog.leadsTo = T 13 := by kernel_rfl
theorem lead14 : (Tryd.prog.funcs[14]?).elim [] Tryd.prog.leadsTo = T 14 := by kernel_rfl
theorem lead15 : (Tryd.prog.funcs[15]?).elim [] Tryd.prog.leadsTo = T 15 := by kernel_rfl
theorem lead16 : (Tryd.prog.funcs[16]?).elim [] Tryd.prog.leadsTo = T 16 := by kernel_rfl
theorem lead17 : (Tryd.prog.funcs[17]?).elim [] Tryd.prog.leadsTo = T 17 := by kernel_rfl
theorem lead18 : (Tryd.prog.funcs[18]?).elim [] Tryd.prog.leadsTo = T 18 := by kernel_rfl
theorem lead19 : (Tryd.prog.funcs[19]?).elim [] Tryd.prog.leadsTo = T 19 := by kernel_rfl
theorem lead20 : (Tryd.prog.funcs[20]?).elim [] Tryd.prog.leadsTo = T 20 := by kernel_rfl
theorem lead21 : (Tryd.prog.funcs[21]?).elim [] Tryd.prog.leadsTo = T 21 := by kernel_rfl
theorem lead22 : (Tryd.prog.funcs[22]?).elim [] Tryd.prog.leadsTo = T 22 := by kernel_rfl
theorem lead47 : (Tryd.prog.funcs[47]?).elim [] Tryd.prog.leadsTo = T 47 := by kernel_rfl
theorem lead48 : (Tryd.prog.funcs[48]?).elim [] Tryd.prog.leadsTo = T 48 := by kernel_rfl
theorem lead49 : (Tryd.prog.funcs[49]?).elim [] Tryd.prog.leadsTo = T 49 := by kernel_rfl
theorem lead50 : (Tryd.prog.funcs[50]?).elim [] Tryd.prog.leadsTo = T 50 := by kernel_rfl
theorem lead51 : (Tryd.prog.funcs[51]?).elim [] Tryd.prog.leadsTo = T 51 := by kernel_rfl
theorem lead52 : (Tryd.prog.funcs[52]?).elim [] Tryd.prog.leadsTo = T 52 := by kernel_rfl
theorem lead53 : (Tryd.prog.funcs[53]?).elim [] Tryd.prog.leadsTo = T 53 := by kernel_rfl
theorem lead54 : (Tryd.prog.funcs[54]?).elim [] Tryd.prog.leadsTo = T 54 := by kernel_rfl
theorem lead55 : (Tryd.prog.funcs[55]?).elim [] Tryd.prog.leadsTo = T 55 := by kernel_rfl
theorem lead56 : (Tryd.prog.funcs[56]?).elim [] Tryd.prog.leadsTo = T 56 := by kernel_rfl
theorem lead57 : (Tryd.prog.funcs[57]?).elim [] Tryd.prog.leadsTo = T 57 := by kernel_rfl
theorem lead58 : (Tryd.prog.funcs[58]?).elim [] Tryd.prog.leadsTo = T 58 := by kernel_rfl
theorem lead59 : (Tryd.prog.funcs[59]?).elim [] Tryd.prog.leadsTo = T 59 := by kernel_rfl
theorem lead60 : (Tryd.prog.funcs[60]?).elim [] Tryd.prog.leadsTo = T 60 := by kernel_rfl
theorem lead61 : (Tryd.prog.funcs[61]?).elim [] Tryd.prog.leadsTo = T 61 := by kernel_rfl
theorem lead62 : (Tryd.prog.funcs[62]?).elim [] Tryd.prog.leadsTo = T 62 := by kernel_rfl
theorem lead63 : (Tryd.prog.funcs[63]?).elim [] Tryd.prog.leadsTo = T 63 := by kernel_rfl
theorem lead64 : (Tryd.prog.funcs[64]?).elim [] Tryd.prog.leadsTo = T 64 := by kernel_rfl
theorem lead65 : (Tryd.prog.funcs[65]?).elim [] Tryd.prog.leadsTo = T 65 := by kernel_rfl
theorem lead66 : (Tryd.prog.funcs[66]?).elim [] Tryd.prog.leadsTo = T 66 := by kernel_rfl
theorem lead67 : (Tryd.prog.funcs[67]?).elim [] Tryd.prog.leadsTo = T 67 := by kernel_rfl
theorem lead68 : (Tryd.prog.funcs[68]?).elim [] Tryd.prog.leadsTo = T 68 := by kernel_rfl
theorem lead69 : (Tryd.prog.funcs[69]?).elim [] Tryd.prog.leadsTo = T 69 := by kernel_rfl
theorem lead70 : (Tryd.prog.funcs[70]?).elim [] Tryd.prog.leadsTo = T 70 := by kernel_rfl
theorem lead71 : (Tryd.prog.funcs[71]?).elim [] Tryd.prog.leadsTo = T 71 := by kernel_rfl
theorem lead72 : (Tryd.prog.funcs[72]?).elim [] Tryd.prog.leadsTo = T 72 := by kernel_rfl
theorem lead73 : (Tryd.prog.funcs[73]?).elim [] Tryd.prog.leadsTo = T 73 := by kernel_rfl
theorem lead74 : (Tryd.prog.funcs[74]?).elim [] Tryd.prog.leadsTo = T 74 := by kernel_rfl
theorem lead75 : (Tryd.prog.funcs[75]?).elim [] Tryd.prog.leadsTo = T 75 := by kernel_rfl
theorem lead76 : (Tryd.prog.funcs[76]?).elim [] Tryd.prog.leadsTo = T 76 := by kernel_rfl
theorem lead77 : (Tryd.prog.funcs[77]?).elim [] Tryd.prog.leadsTo = T 77 := by kernel_rfl
theorem lead81 : (Tryd.prog.funcs[81]?).elim [] Tryd.prog.leadsTo = T 81 := by kernel_rfl
theorem lead111 : (Tryd.prog.funcs[111]?).elim [] Tryd.prog.leadsTo = T 111 := by kernel_rfl
theorem lead112 : (Tryd.prog.funcs[112]?).elim [] Tryd.prog.leadsTo = T 112 := by kernel_rfl
theorem lead113 : (Tryd.prog.funcs[113]?).elim [] Tryd.prog.leadsTo = T 113 := by kernel_rfl
theorem lead114 : (Tryd.prog.funcs[114]?).elim [] Tryd.prog.leadsTo = T 114 := by kernel_rfl
theorem lead115 : (Tryd.prog.funcs[115]?).elim [] Tryd.prog.leadsTo = T 115 := by kernel_rfl
theorem lead116 : (Tryd.prog.funcs[116]?).elim [] Tryd.prog.leadsTo = T 116 := by kernel_rfl
theorem lead117 : (Tryd.prog.funcs[117]?).elim [] Tryd.prog.leadsTo = T 117 := by kernel_rfl
theorem lead118 : (Tryd.prog.funcs[118]?).elim [] Tryd.prog.leadsTo = T 118 := by kernel_rfl
theorem lead119 : (Tryd.prog.funcs[119]?).elim [] Tryd.prog.leadsTo = T 119 := by kernel_rfl
theorem lead120 : (Tryd.prog.funcs[120]?).elim [] Tryd.prog.leadsTo = T 120 := by kernel_rfl
theorem lead121 : (Tryd.prog.funcs[121]?).elim [] Tryd.prog.leadsTo = T 121 := by kernel_rfl
theorem lead122 : (Tryd.prog.funcs[122]?).elim [] Tryd.prog.leadsTo = T 122 := by kernel_rfl
theorem lead123 : (Tryd.prog.funcs[123]?).elim [] Tryd.prog.leadsTo = T 123 := by kernel_rfl
theorem lead124 : (Tryd.prog.funcs[124]?).elim [] Tryd.prog.leadsTo = T 124 := by kernel_rfl
theorem lead125 : (Tryd.prog.funcs[125]?).elim [] Tryd.prog.leadsTo = T 125 := by kernel_rfl
theorem lead126 : (Tryd.prog.funcs[126]?).elim [] Tryd.prog.leadsTo = T 126 := by kernel_rfl
theorem lead127 : (Tryd.prog.funcs[127]?).elim [] Tryd.prog.leadsTo = T 127 := by kernel_rfl
theorem lead128 : (Tryd.prog.funcs[128]?).elim [] Tryd.prog.leadsTo = T 128 := by kernel_rfl
theorem lead129 : (Tryd.prog.funcs[129]?).elim [] Tryd.prog.leadsTo = T 129 := by kernel_rfl
theorem lead130 : (Tryd.prog.funcs[130]?).elim [] Tryd.prog.leadsTo = T 130 := by kernel_rfl
theorem lead131 : (Tryd.prog.funcs[131]?).elim [] Tryd.prog.leadsTo = T 131 := by kernel_rfl
theorem lead132 : (Tryd.prog.funcs[132]?).elim [] Tryd.prog.leadsTo = T 132 := by kernel_rfl
theorem lead133 : (Tryd.prog.funcs[133]?).elim [] Tryd.prog.leadsTo = T 133 := by kernel_rfl
theorem lead134 : (Tryd.prog.funcs[134]?).elim [] Tryd.prog.leadsTo = T 134 := by kernel_rfl
theorem lead135 : (Tryd.prog.funcs[135]?).elim [] Tryd.prog.leadsTo = T 135 := by kernel_rfl
theorem lead136 : (Tryd.prog.funcs[136]?).elim [] Tryd.prog.leadsTo = T 136 := by kernel_rfl
theorem lead147 : (Tryd.prog.funcs[147]?).elim [] Tryd.prog.leadsTo = T 147 := by kernel_rfl
theorem lead148 : (Tryd.prog.funcs[148]?).elim [] Tryd.prog.leadsTo = T 148 := by kernel_rfl
theorem lead149 : (Tryd.prog.funcs[149]?).elim [] Tryd.prog.leadsTo = T 149 := by kernel_rfl
theorem lead150 : (Tryd.prog.funcs[150]?).elim [] Tryd.prog.leadsTo = T 150 := by kernel_rfl
theorem lead151 : (Tryd.prog.funcs[151]?).elim [] Tryd.prog.leadsTo = T 151 := by kernel_rfl
theorem lead152 : (Tryd.prog.funcs[152]?).elim [] Tryd.prog.leadsTo = T 152 := by kernel_rfl
theorem lead153 : (Tryd.prog.funcs[153]?).elim [] Tryd.prog.leadsTo = T 153 := by kernel_rfl
theorem lead154 : (Tryd.prog.funcs[154]?).elim [] Tryd.prog.leadsTo = T 154 := by kernel_rfl
theorem lead155 : (Tryd.prog.funcs[155]?).elim [] Tryd.prog.leadsTo = T 155 := by kernel_rfl
theorem lead156 : (Tryd.prog.funcs[156]?).elim [] Tryd.prog.leadsTo = T 156 := by kernel_rfl
theorem lead157 : (Tryd.prog.funcs[157]?).elim [] Tryd.prog.leadsTo = T 157 := by kernel_rfl
theorem lead158 : (Tryd.prog.funcs[158]?).elim [] Tryd.prog.leadsTo = T 158 := by kernel_rfl
theorem lead159 : (Tryd.prog.funcs[159]?).elim [] Tryd.prog.leadsTo = T 159 := by kernel_rfl
theorem lead160 : (Tryd.prog.funcs[160]?).elim [] Tryd.prog.leadsTo = T 160 := by kernel_rfl
theorem lead161 : (Tryd.prog.funcs[161]?).elim [] Tryd.prog.leadsTo = T 161 := by kernel_rfl
theorem lead167 : (Tryd.prog.funcs[167]?).elim [] Tryd.prog.leadsTo = T 167 := by kernel_rfl
theorem lead168 : (Tryd.prog.funcs[168]?).elim [] Tryd.prog.leadsTo = T 168 := by kernel_rfl
theorem lead169 : (Tryd.prog.funcs[169]?).elim [] Tryd.prog.leadsTo = T 169 := by kernel_rfl
theorem lead170 : (Tryd.prog.funcs[170]?).elim [] Tryd.prog.leadsTo = T 170 := by kernel_rfl
theorem lead171 : (Tryd.prog.funcs[171]?).elim [] Tryd.prog.leadsTo = T 171 := by kernel_rfl
theorem lead172 : (Tryd.prog.funcs[172]?).elim [] Tryd.prog.leadsTo = T 172 := by kernel_rfl
theorem lead173 : (Tryd.prog.funcs[173]?).elim [] Tryd.prog.leadsTo = T 173 := by kernel_rfl
theorem lead174 : (Tryd.prog.funcs[174]?).elim [] Tryd.prog.leadsTo = T 174 := by kernel_rfl
theorem lead183 : (Tryd.prog.funcs[183]?).elim [] Tryd.prog.leadsTo = T 183 := by kernel_rfl
theorem lead184 : (Tryd.prog.funcs[184]?).elim [] Tryd.prog.leadsTo = T 184 := by kernel_rfl
theorem lead185 : (Tryd.prog.funcs[185]?).elim [] Tryd.prog.leadsTo = T 185 := by kernel_rfl
theorem lead186 : (Tryd.prog.funcs[186]?).elim [] Tryd.prog.leadsTo = T 186 := by kernel_rfl
theorem lead187 : (Tryd.prog.funcs[187]?).elim [] Tryd.prog.leadsTo = T 187 := by kernel_rfl
theorem lead188 : (Tryd.prog.funcs[188]?).elim [] Tryd.prog.leadsTo = T 188 := by kernel_rfl
theorem lead189 : (Tryd.prog.funcs[189]?).elim [] Tryd.prog.leadsTo = T 189 := by kernel_rfl
theorem lead190 : (Tryd.prog.funcs[190]?).elim [] Tryd.prog.leadsTo = T 190 := by kernel_rfl
theorem lead191 : (Tryd.prog.funcs[191]?).elim [] Tryd.prog.leadsTo = T 191 := by kernel_rfl
theorem lead192 : (Tryd.prog.funcs[192]?).elim [] Tryd.prog.leadsTo = T 192 := by kernel_rfl
theorem lead193 : (Tryd.prog.funcs[193]?).elim [] Tryd.prog.leadsTo = T 193 := by kernel_rfl
theorem lead194 : (Tryd.prog.funcs[194]?).elim [] Tryd.prog.leadsTo = T 194 := by kernel_rfl
theorem lead195 : (Tryd.prog.funcs[195]?).elim [] Tryd.prog.leadsTo = T 195 := by kernel_rfl
theorem lead203 : (Tryd.prog.funcs[203]?).elim [] Tryd.prog.leadsTo = T 203 := by kernel_rfl
theorem lead204 : (Tryd.prog.funcs[204]?).elim [] Tryd.prog.leadsTo = T 204 := by kernel_rfl
theorem lead205 : (Tryd.prog.funcs[205]?).elim [] Tryd.prog.leadsTo = T 205 := by kernel_rfl
theorem lead206 : (Tryd.prog.funcs[206]?).elim [] Tryd.prog.leadsTo = T 206 := by kernel_rfl
theorem lead207 : (Tryd.prog.funcs[207]?).elim [] Tryd.prog.leadsTo = T 207 := by kernel_rfl
theorem lead208 : (Tryd.prog.funcs[208]?).elim [] Tryd.prog.leadsTo = T 208 := by kernel_rfl
theorem lead209 : (Tryd.prog.funcs[209]?).elim [] Tryd.prog.leadsTo = T 209 := by kernel_rfl
theorem lead210 : (Tryd.prog.funcs[210]?).elim [] Tryd.prog.leadsTo = T 210 := by kernel_rfl
theorem lead211 : (Tryd.prog.funcs[211]?).elim [] Tryd.prog.leadsTo = T 211 := by kernel_rfl
theorem lead212 : (Tryd.prog.funcs[212]?).elim [] Tryd.prog.leadsTo = T 212 := by kernel_rfl
theorem lead216 : (Tryd.prog.funcs[216]?).elim [] Tryd.prog.leadsTo = T 216 := by kernel_rfl
theorem lead217 : (Tryd.prog.funcs[217]?).elim [] Tryd.prog.leadsTo = T 217 := by kernel_rfl
theorem lead218 : (Tryd.prog.funcs[218]?).elim [] Tryd.prog.leadsTo = T 218 := by kernel_rfl
theorem lead219 : (Tryd.prog.funcs[219]?).elim [] Tryd.prog.leadsTo = T 219 := by kernel_rfl
theorem lead220 : (Tryd.prog.funcs[220]?).elim [] Tryd.prog.leadsTo = T 220 := by kernel_rfl
theorem lead221 : (Tryd.prog.funcs[221]?).elim [] Tryd.prog.leadsTo = T 221 := by kernel_rfl
theorem lead222 : (Tryd.prog.funcs[222]?).elim [] Tryd.prog.leadsTo = T 222 := by kernel_rfl
theorem lead223 : (Tryd.prog.funcs[223]?).elim [] Tryd.prog.leadsTo = T 223 := by kernel_rfl
theorem lead224 : (Tryd.prog.funcs[224]?).elim [] Tryd.prog.leadsTo = T 224 := by kernel_rfl
theorem lead225 : (Tryd.prog.funcs[225]?).elim [] Tryd.prog.leadsTo = T 225 := by kernel_rfl
theorem lead226 : (Tryd.prog.funcs[226]?).elim [] Tryd.prog.leadsTo = T 226 := by kernel_rfl
theorem lead227 : (Tryd.prog.funcs[227]?).elim [] Tryd.prog.leadsTo = T 227 := by kernel_rfl
theorem lead228 : (Tryd.prog.funcs[228]?).elim [] Tryd.prog.leadsTo = T 228 := by kernel_rfl
theorem lead229 : (Tryd.prog.funcs[229]?).elim [] Tryd.prog.leadsTo = T 229 := by kernel_rfl
theorem lead230 : (Tryd.prog.funcs[230]?).elim [] Tryd.prog.leadsTo = T 230 := by kernel_rfl
theorem lead231 : (Tryd.prog.funcs[231]?).elim [] Tryd.prog.leadsTo = T 231 := by kernel_rfl
theorem lead232 : (Tryd.prog.funcs[232]?).elim [] Tryd.prog.leadsTo = T 232 := by kernel_rfl
theorem lead233 : (Tryd.prog.funcs[233]?).elim [] Tryd.prog.leadsTo = T 233 := by kernel_rfl
theorem hT : ∀ g, g ∈ all → (Tryd.prog.funcs[g]?).elim [] Tryd.prog.leadsTo = T g := by
  intro g hg
  simp only [all, List.mem_cons, List.not_mem_nil, or_false] at hg
  rcases hg with rfl | rfl | rfl | rfl | rfl | rfl | rfl | rfl | rfl | rfl | rfl | rfl | rfl | rfl | rfl | rfl | rfl | rfl | rfl | rfl | rfl | rfl | rfl | rfl | rfl | rfl | rfl | rfl | rfl | rfl | rfl | rfl | rfl | rfl | rfl | rfl | rfl | rfl | rfl | rfl | rfl | rfl | rfl | rfl | rfl | rfl | rfl | rfl | rfl | rfl | rfl | rfl | rfl | rfl | rfl | rfl | rfl | rfl | rfl | rfl | rfl | rfl | rfl | rfl | rfl | rfl | rfl | rfl | rfl | rfl | rfl | rfl | rfl | rfl | rfl | rfl | rfl | rfl | rfl | rfl | rfl | rfl | rfl | rfl | rfl | rfl | rfl | rfl | rfl | rfl | rfl | rfl | rfl | rfl | rfl | rfl | rfl | rfl | rfl | rfl | rfl | rfl | rfl | rfl | rfl | rfl | rfl | rfl | rfl | rfl | rfl | rfl | rfl | rfl | rfl | rfl | rfl | rfl | rfl | rfl | rfl | rfl | rfl | rfl | rfl | rfl | rfl | rfl | rfl | rfl | rfl | rfl | rfl | rfl | rfl | rfl | rfl | rfl | rfl | rfl | rfl
  · exact lead3
  · exact lead5
  · exact lead6
  · exact lead7
  · exact lead8
  · exact lead9
  · exact lead10
  · exact lead11
  · exact lead12
  · exact lead13
  · exact lead14
  · exact lead15
  · exact lead16
  · exact lead17
  · exact lead18
  · exact lead19
  · exact lead20
  · exact lead21
  · exact lead22
  · exact lead47
  · exact lead48
  · exact lead49
  · exact lead50
  · exact lead51
  · exact lead52
  · exact lead53
  · exact lead54
  · exact lead55
  · exact lead56
  · exact lead57
  · exact lead58
  · exact lead59
  · exact lead60
  · exact lead61
  · exact lead62
  · exact lead63
  · exact lead64
  · exact lead65
  · exact lead66
  · exact lead67
  · exact lead68
  · exact lead69
  · exact lead70
  · exact lead71
  · exact lead72
  · exact lead73
  · exact lead74
  · exact lead75
  · exact lead76
  · exact lead77
  · exact lead81
  · exact lead111
  · exact lead112
  · exact lead113
  · exact lead114
  · exact lead115
  · exact lead116
  · exact lead117
  · exact lead118
  · exact lead119
  · exact lead120
  · exact lead121
  · exact lead122
  · exact lead123
  · exact lead124
  · exact lead125
  · exact lead126
  · exact lead127
  · exact lead128
  · exact lead129
  · exact lead130
  · exact lead131
  · exact lead132
  · exact lead133
  · exact lead134
  · exact lead135
  · exact lead136
  · exact lead147
  · exact lead148
  · exact lead149
  · exact lead150
  · exact lead151
  · exact lead152
  · exact lead153
  · exact lead154
  · exact lead155
  · exact lead156
  · exact lead157
  · exact lead158
  · exact lead159
  · exact lead160
  · exact lead161
  · exact lead167
  · exact lead168
  · exact lead169
  · exact lead170
  · exact lead171
  · exact lead172
  · exact lead173
  · exact lead174
  · exact lead183
  · exact lead184
  · exact lead185
  · exact lead186
  · exact lead187
  · exact lead188
  · exact lead189
  · exact lead190
  · exact lead191
  · exact lead192
  · exact lead193
  · exact lead194
  · exact lead195
  · exact lead203
  · exact lead204
  · exact lead205
  · exact lead206
  · exact lead207
  · exact lead208
  · exact lead209
  · exact lead210
  · exact lead211
  · exact lead212
  · exact lead216
  · exact lead217
  · exact lead218
  · exact lead219
  · exact lead220
  · exact lead221
  · exact lead222
  · exact lead223
  · exact lead224
  · exact lead225
  · exact lead226
  · exact lead227
  · exact lead228
  · exact lead229
  · exact lead230
  · exact lead231
  · exact lead232
  · exact lead233
theorem hC : ∀ g, g ∈ all → ∀ h, h ∈ T g → h ∈ all := by
  have e : (all.all fun g => (T g).all fun h => all.contains h) = true := by decide +kernel
  intro g hg h hh
  exact List.contains_iff_mem.1 (List.all_eq_true.1 (List.all_eq_true.1 e g hg) h hh)
theorem fuel : (1 + (Tryd.prog.funcs.toList.map fun g => (Tryd.prog.leadsTo g).length + 1).sum) = 706 := by kernel_rfl
theorem closure_is {f : Nat} (hf : f ∈ all) : Tryd.prog.closure f = cv T 706 [f] [] := by
  unfold Program.closure
  rw [fuel]
  exact cv_eq _ T all hT hC _ _ _ fun g hg => by rw [List.mem_singleton.1 hg]; exact hf
end Go.Proofs.YtbmdggcfoohmgaaDoor.clo
