/-
  Which of two plans is better, and the best one of some, by the program. No condition of a statement lies here.
-/
import Derived.Test.YtldeeilgmogjjaaHp
import Derived.Test.YtldeeilgmogjjaaOpen
import Derived.Test.YtldeeilgmogjjaaNums
import Derived.Test.YtldeeilgmogjjaaIn
namespace Go.Proofs.Ytldeeilgmogjjaa.shp
open Go.ChangeShapes Go.WideShapes Go.ChangeAt Go.RowKit Go.Proofs.Ytldeeilgmogjjaa.mem Go.Proofs.Ytldeeilgmogjjaa.rod Go.Proofs.Ytldeeilgmogjjaa.nums
set_option linter.unusedVariables false
set_option maxRecDepth 100000

theorem nan_i (a : Int) (w : World) : Calls Try.prog 45 #[.int .i64 a] w fun e w' => e = .returned (.bool false) ∧ w = w' := by
  go_enter Try.func45, Try.ntmps45
  go_wp2
  go_ret
  exact ⟨by simp, rfl⟩
theorem cmp_i (a b : Int) (w : World) : Calls Try.prog 39 #[.int .i64 a, .int .i64 b] w fun e w' => e = .returned (.int .i64 (ordI a b)) ∧ w = w' := by
  rcases Int.lt_trichotomy a b with h | h | h
  · rw [ordI_lt h]
    go_enter Try.func39, Try.ntmps39
    go_wp2_with (go_at_call 45; refine (nan_i _ _).mono ?_; rintro e w' ⟨rfl, rfl⟩)
    go_ret
    exact ⟨rfl, rfl⟩
  · subst h
    rw [ordI_eq]
    have h1 : ¬ a < a := by omega
    go_enter Try.func39, Try.ntmps39
    go_wp2_with (go_at_call 45; refine (nan_i _ _).mono ?_; rintro e w' ⟨rfl, rfl⟩)
    go_ret
    exact ⟨rfl, rfl⟩
  · rw [ordI_gt h]
    have h1 : ¬ a < b := by omega
    go_enter Try.func39, Try.ntmps39
    go_wp2_with (go_at_call 45; refine (nan_i _ _).mono ?_; rintro e w' ⟨rfl, rfl⟩)
    go_ret
    exact ⟨rfl, rfl⟩

set_option maxHeartbeats 1000000 in
theorem or_i (b : Nat) (x y r : Int) (w : World) (hr : (if x = 0 then y else x) = r) (h0 : w.cell? ⟨b, 0, none⟩ = some (.int .i64 x)) (h1 : w.cell? ⟨b, 1, none⟩ = some (.int .i64 y)) :
    Calls Try.prog 38 #[.slice (some ⟨b, 0, none⟩) 2 2] w fun e w' => e = .returned (.int .i64 r) ∧ w = w' := by
  subst hr
  by_cases hx : x = 0
  · rw [if_pos hx]
    subst hx
    by_cases hy : y = 0
    · subst hy
      go_enter Try.func38, Try.ntmps38
      go_wp2_with fail
      go_loop [8] (fun s => ∃ k : Nat, k ≤ 2 ∧ s = .int .i64 k) (fun s => 2 - (intOf s).toNat)
      case atStart => exact ⟨0, by omega, rfl⟩
      case round =>
        obtain ⟨k, hk, rfl⟩ := hrel
        rcases (by omega : k = 0 ∨ k = 1 ∨ k = 2) with rfl | rfl | rfl
        · go_wp2
          go_round
          case rel => exact ⟨1, by omega, by go_num⟩
          case measure => simp [intOf]
        · go_wp2
          go_round
          case rel => exact ⟨2, by omega, by go_num⟩
          case measure => simp [intOf]
        · go_wp2
          go_ret
          exact ⟨rfl, rfl⟩
    · have e1 : (y == 0) = false := by simpa using hy
      have e2 : (y != 0) = true := by simpa using hy
      clear hy
      go_enter Try.func38, Try.ntmps38
      go_wp2_with fail
      go_loop [8] (fun s => ∃ k : Nat, k ≤ 1 ∧ s = .int .i64 k) (fun s => 2 - (intOf s).toNat)
      case atStart => exact ⟨0, by omega, rfl⟩
      case round =>
        obtain ⟨k, hk, rfl⟩ := hrel
        rcases (by omega : k = 0 ∨ k = 1) with rfl | rfl
        · go_wp2
          go_round
          case rel => exact ⟨1, by omega, by go_num⟩
          case measure => simp [intOf]
        · go_wp2
          go_ret
          exact ⟨rfl, rfl⟩
  · rw [if_neg hx]
    have e1 : (x == 0) = false := by simpa using hx
    have e2 : (x != 0) = true := by simpa using hx
    clear hx
    go_enter Try.func38, Try.ntmps38
    go_wp2_with fail
    go_loop [8] (fun s => s = .int .i64 0) (fun s => 2 - (intOf s).toNat)
    case atStart => rfl
    case round =>
      obtain rfl := hrel
      go_wp2
      go_ret
      exact ⟨rfl, rfl⟩

theorem getD_drop {l : List Int} {k : Nat} (h : k < l.length) : l.drop k = l.getD k 0 :: l.drop (k + 1) := by
  rw [List.drop_eq_getElem_cons h]
  simp [List.getD, List.getElem?_eq_getElem h]
theorem drop_all {l : List Int} {k : Nat} (h : k = l.length) : l.drop k = [] := by subst h; simp

set_option maxHeartbeats 2000000 in
theorem slcmp_i (A1 A2 : Option Addr) (c1 c2 : Nat) (p q : List Int) (w : World) (N : Nat) (hp : p.length = N) (hq : q.length = N) (hN : N ≤ 12) (h1 : Sl w A1 N 1 (fun j => p.getD j 0)) (h2 : Sl w A2 N 1 (fun j => q.getD j 0)) :
    Calls Try.prog 41 #[.slice A1 N c1, .slice A2 N c2] w fun e w' => e = .returned (.int .i64 (cmpL p q)) ∧ w = w' := by
  have H1 := Lib.hid h1
  have H2 := Lib.hid h2
  have HP := Lib.hid hp
  have HQ := Lib.hid hq
  clear h1 h2 hp hq
  go_enter Try.func41, Try.ntmps41
  go_wp2_with fail
  go_loop [11] (fun s => ∃ k : Nat, k ≤ N ∧ s = .int .i64 k ∧ Hid (cmpL p q = cmpL (p.drop k) (q.drop k))) (fun s => N - (intOf s).toNat)
  case atStart => exact ⟨0, by omega, rfl, rfl⟩
  case round =>
    obtain ⟨k, hk, rfl, HK⟩ := hrel
    by_cases hlt : k < N
    · have hlt' : (k : Int) < (N : Int) := by omega
      have hlt2 : ¬ (N : Int) ≤ (k : Int) := by omega
      have hk0 : (0 : Int) ≤ (k : Int) := by omega
      obtain ⟨b1, o1, rfl, hb1, hX1⟩ := H1.out (by omega)
      obtain ⟨b2, o2, rfl, hb2, hX2⟩ := H2.out (by omega)
      have p0 : w.cell? ⟨b1, o1 + k, none⟩ = some (.int .i64 (p.getD k 0)) := hX1 k (by omega)
      have q0 : w.cell? ⟨b2, o2 + k, none⟩ = some (.int .i64 (q.getD k 0)) := hX2 k (by omega)
      have HS := Lib.hid (show cmpL (p.drop k) (q.drop k) = cmpL (p.getD k 0 :: p.drop (k + 1)) (q.getD k 0 :: q.drop (k + 1)) by rw [getD_drop (by rw [HP.out]; exact hlt), getD_drop (l := q) (by rw [HQ.out]; exact hlt)])
      clear hX1 hX2
      generalize hx : p.getD k 0 = x at *
      generalize hy : q.getD k 0 = y at *
      have HX := Lib.hid hx
      have HY := Lib.hid hy
      clear hx hy
      by_cases he : ordI x y = 0
      · have HE := Lib.hid he
        have e1 : (ordI x y == 0) = true := by simpa using he
        have e2 : (ordI x y != 0) = false := by simpa using he
        clear he
        go_wp2_with (go_at_call 39; refine (cmp_i _ _ _).mono ?_; rintro e w' ⟨rfl, rfl⟩)
        go_round
        case rel => exact ⟨k + 1, by omega, by go_num, by rw [HK.out, HS.out, cmpL_eq HE.out]; exact rfl⟩
        case measure => simp [intOf]; omega
      · have HE := Lib.hid he
        have e1 : (ordI x y == 0) = false := by simpa using he
        have e2 : (ordI x y != 0) = true := by simpa using he
        clear he
        go_wp2_with (go_at_call 39; refine (cmp_i _ _ _).mono ?_; rintro e w' ⟨rfl, rfl⟩)
        go_ret
        exact ⟨by rw [HK.out, HS.out, cmpL_ne HE.out]; rfl, rfl⟩
    · obtain rfl : N = k := by omega
      go_wp2
      go_ret
      exact ⟨by rw [HK.out, drop_all HP.out.symm, drop_all HQ.out.symm]; rfl, rfl⟩

/-- a slice value is a plan of N numbers of stakes -/
def RdL (w : World) (v : Value) (N : Nat) (l : List Int) : Prop := ∃ A c, v = .slice A N c ∧ l.length = N ∧ (∀ j, j < N → 3 ≤ l.getD j 0 ∧ l.getD j 0 ≤ 60) ∧ Sl w A N 1 (fun j => l.getD j 0)
theorem RdL.below {w w' : World} {v : Value} {N K : Nat} {l : List Int} (h : RdL w v N l) (hb : Below K w w') (hK : w.heap.size ≤ K) : RdL w' v N l := by
  obtain ⟨A, c, e, h1, h2, h3⟩ := h
  exact ⟨A, c, e, h1, h2, h3.below hb hK⟩
theorem changes_b (A : Option Addr) (N c : Nat) (l : List Int) (w : World) (hn : N ≤ 12) (hl : l.length = N) (hX : ∀ j, j < N → 3 ≤ l.getD j 0 ∧ l.getD j 0 ≤ 60) (hr : Sl w A N 1 (fun j => l.getD j 0)) :
    Calls Try.prog 40 #[.slice A N c] w fun e w' => e = .returned (.int .i64 (chg l)) ∧ Below w.heap.size w w' :=
  (changes_i A N c _ w hn hX hr).mono fun e w' ⟨h, m, hm⟩ => ⟨by rw [h]; unfold chg; rw [hl], by rw [hm]; exact drewN_below (Below.refl _ _) m⟩

set_option maxHeartbeats 2000000 in
theorem compare_i (vp vq : Value) (N : Nat) (p q : List Int) (w : World) (hN : N ≤ 12) (hp : RdL w vp N p) (hq : RdL w vq N q) :
    Calls Try.prog 31 #[vp, vq] w fun e w' => e = .returned (.int .i64 (cmpP p q)) ∧ Below w.heap.size w w' := by
  obtain ⟨A1, c1, rfl, l1, x1, s1⟩ := hp
  obtain ⟨A2, c2, rfl, l2, x2, s2⟩ := hq
  have S1 := Lib.hid s1
  have S2 := Lib.hid s2
  have L1 := Lib.hid l1
  have L2 := Lib.hid l2
  have X1 := Lib.hid x1
  have X2 := Lib.hid x2
  have HC := Lib.hid (show cmpP p q = if ordI (chg p) (chg q) = 0 then cmpL p q else ordI (chg p) (chg q) from rfl)
  clear s1 s2 l1 l2 x1 x2
  go_enter Try.func31, Try.ntmps31
  go_wp2_with fail
  refine (changes_b A1 N c1 p _ hN L1.out X1.out S1.out).mono ?_
  rintro e w1 ⟨rfl, hb1⟩
  have z1 := hb1.size
  go_wp2_with fail
  refine (changes_b A2 N c2 q _ hN L2.out X2.out (S2.out.below hb1 (Nat.le_refl _))).mono ?_
  rintro e w2 ⟨rfl, hb2⟩
  have z2 := hb2.size
  have B2 := Lib.hid (hb1.trans (hb2.mono z1))
  clear hb1 hb2
  go_wp2_with fail
  refine (cmp_i _ _ _).mono ?_
  rintro e w' ⟨rfl, rfl⟩
  go_wp2_with fail
  refine (slcmp_i A1 A2 c1 c2 p q _ N L1.out L2.out hN (S1.out.below B2.out (Nat.le_refl _)) (S2.out.below B2.out (Nat.le_refl _))).mono ?_
  rintro e w' ⟨rfl, rfl⟩
  go_wp2_with fail
  refine (or_i w2.heap.size (ordI (chg p) (chg q)) (cmpL p q) (cmpP p q) _ rfl (by go_simp) (by go_simp)).mono ?_
  rintro e w' ⟨rfl, rfl⟩
  go_wp2
  go_ret
  exact ⟨rfl, B2.out.alloc (by omega) _⟩

theorem bestL_snoc {ps : List (List Int)} {m q : List Int} (h : bestL ps = some m) : bestL (ps ++ [q]) = some (btr m q) := by
  cases ps with
  | nil => cases h
  | cons p ps =>
    obtain rfl : ps.foldl btr p = m := Option.some.inj h
    show some ((ps ++ [q]).foldl btr p) = _
    rw [List.foldl_append]
    rfl
theorem take_snoc' {ps : List (List Int)} {k : Nat} (h : k < ps.length) : ps.take (k + 1) = ps.take k ++ [ps.getD k []] := by
  rw [List.take_succ_eq_append_getElem h]
  simp [List.getD, List.getElem?_eq_getElem h]
theorem bestL_one {ps : List (List Int)} (h : 0 < ps.length) : bestL (ps.take 1) = some (ps.getD 0 []) := by
  cases ps with
  | nil => simp at h
  | cons p ps => rfl

set_option maxHeartbeats 4000000 in
set_option maxRecDepth 100000 in
theorem minFunc_i (b o n c N : Nat) (V : Nat → Value) (ps : List (List Int)) (w : World) (n0 : 0 < n) (hn : n ≤ 58) (hN : N ≤ 12) (hps : ps.length = n) (hb : b < w.heap.size) (hV : ∀ j, j < n → w.cell? ⟨b, o + j, none⟩ = some (V j) ∧ RdL w (V j) N (ps.getD j [])) :
    Calls Try.prog 30 #[.slice (some ⟨b, o, none⟩) n c, .func (.func 31) #[] #[]] w fun e w' => ∃ j, j < n ∧ e = .returned (V j) ∧ bestL ps = some (ps.getD j []) ∧ Below w.heap.size w w' := by
  have HV := Lib.hid hV
  have HL := Lib.hid hps
  have h00 := (hV 0 n0).1
  rw [Nat.add_zero] at h00
  have n0' : ¬ (n : Int) < 1 := by omega
  have n1' : (0 : Int) < (n : Int) := by omega
  clear hV hps
  go_enter Try.func30, Try.ntmps30
  go_wp2_with fail
  clear h00
  go_loopw [5, 6] (fun m t wr => ∃ k j : Nat, 1 ≤ k ∧ k ≤ n ∧ j < n ∧ t = .int .i64 k ∧ m = V j ∧ Hid (bestL (ps.take k) = some (ps.getD j [])) ∧ Below w.heap.size w wr) (fun _ t _ => n - (intOf t).toNat)
  case atStart => exact ⟨1, 0, by omega, by omega, n0, rfl, rfl, bestL_one (by rw [HL.out]; exact n0), Below.refl _ _⟩
  case round =>
    obtain ⟨k, j, k1, kn, hj, rfl, rfl, HB, hd⟩ := hrel
    have HD := Lib.hid hd
    have hzz := hd.size
    clear hd
    by_cases hlt : k < n
    · have hlt' : (k : Int) < (n : Int) := by omega
      have hk0 : (0 : Int) ≤ (k : Int) := by omega
      obtain ⟨p0, r0⟩ := HV.out k hlt
      obtain ⟨_, r1⟩ := HV.out j hj
      replace p0 := (HD.out.cell (p := ⟨b, o + k, none⟩) hb).trans p0
      have R0 := Lib.hid (r0.below HD.out (Nat.le_refl _))
      have R1 := Lib.hid (r1.below HD.out (Nat.le_refl _))
      have HS := Lib.hid (show bestL (ps.take (k + 1)) = some (btr (ps.getD j []) (ps.getD k [])) by rw [take_snoc' (by rw [HL.out]; exact hlt)]; exact bestL_snoc HB.out)
      clear r0 r1
      generalize hpk : ps.getD k [] = pk at *
      generalize hpj : ps.getD j [] = pj at *
      have HPK := Lib.hid hpk
      have HPJ := Lib.hid hpj
      clear hpk hpj
      generalize hvk : V k = vk at p0
      generalize hvj : V j = vj at *
      have HVK := Lib.hid hvk
      have HVJ := Lib.hid hvj
      clear hvk hvj
      by_cases hc : cmpP pk pj < 0
      · have HN := Lib.hid (btr_yes hc)
        have HC := Lib.hid hc
        go_wp2_with fail
        refine (compare_i vk vj N pk pj _ hN (HVK.out ▸ R0.out) R1.out).mono ?_
        rintro e w2 ⟨rfl, hb2⟩
        have B2 := Lib.hid (HD.out.trans (hb2.mono hzz))
        replace p0 := (hb2.cell (p := ⟨b, o + k, none⟩) (show b < wr.heap.size by omega)).trans p0
        clear hb2
        go_wp2
        go_roundw
        case rel => exact ⟨k + 1, k, by omega, by omega, hlt, by go_num, HVK.out.symm, by rw [HS.out, HN.out, HPK.out]; exact rfl, B2.out⟩
        case measure => simp [intOf]; omega
      · have HN := Lib.hid (btr_no hc)
        have HC := Lib.hid hc
        go_wp2_with fail
        refine (compare_i vk vj N pk pj _ hN (HVK.out ▸ R0.out) R1.out).mono ?_
        rintro e w2 ⟨rfl, hb2⟩
        have B2 := Lib.hid (HD.out.trans (hb2.mono hzz))
        clear hb2
        go_wp2
        go_roundw
        case rel => exact ⟨k + 1, j, by omega, by omega, hj, by go_num, HVJ.out.symm, by rw [HS.out, HN.out, HPJ.out]; exact rfl, B2.out⟩
        case measure => simp [intOf]; omega
    · obtain rfl : n = k := by omega
      have HE := Lib.hid (show bestL ps = some (ps.getD j []) by have := HB.out; rwa [List.take_of_length_le (by rw [HL.out]; exact Nat.le_refl _)] at this)
      go_wp2
      go_ret
      exact ⟨j, hj, rfl, HE.out, HD.out⟩

/-- the value is the best one of the plans that a row holds, nil if there are none -/
def BestV (w : World) (n : Nat) (V : Nat → Value) (ps : List (List Int)) (e : Ending) (w' : World) : Prop :=
  (n = 0 ∧ e = .returned (.slice none 0 0) ∨ ∃ j, j < n ∧ e = .returned (V j) ∧ bestL ps = some (ps.getD j [])) ∧ Below w.heap.size w w'
set_option maxHeartbeats 2000000 in
theorem bestPlan_i (A : Option Addr) (n c N : Nat) (V : Nat → Value) (ps : List (List Int)) (w : World) (hn : n ≤ 58) (hN : N ≤ 12) (hps : ps.length = n) (hV : 0 < n → ∃ b o, A = some ⟨b, o, none⟩ ∧ b < w.heap.size ∧ ∀ j, j < n → w.cell? ⟨b, o + j, none⟩ = some (V j) ∧ RdL w (V j) N (ps.getD j [])) :
    Calls Try.prog 21 #[.slice A n c] w (BestV w n V ps) := by
  by_cases n0 : n = 0
  · subst n0
    clear hV
    go_enter Try.func21, Try.ntmps21
    go_wp2
    go_ret
    exact ⟨.inl ⟨rfl, rfl⟩, Below.refl _ _⟩
  · obtain ⟨b, o, rfl, hb, hc⟩ := hV (by omega)
    have HC := Lib.hid hc
    have HL := Lib.hid hps
    have e1 : ((n : Int) == 0) = false := by simp; omega
    clear hV hc hps
    go_enter Try.func21, Try.ntmps21
    go_wp2_with fail
    refine (minFunc_i b o n c N V ps _ (by omega) hn hN HL.out hb HC.out).mono ?_
    rintro e w1 ⟨j, hj, rfl, hbe, hb1⟩
    have HBE := Lib.hid hbe
    clear hbe
    go_wp2
    go_ret
    exact ⟨.inr ⟨j, hj, rfl, HBE.out⟩, hb1⟩

end Go.Proofs.Ytldeeilgmogjjaa.shp
