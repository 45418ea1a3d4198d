/-
  Contracts of BestRhythm, of the model's and of the program's.
-/
import Derived.Test.YtcpaenmhnoagdacYieldNow
import Derived.Test.YtcpaenmhnoagdacFrac
namespace Go.Proofs.Ytcpaenmhnoagdac.rod
open Go.ChangeShapes Go.WideShapes Go.ChangeAt Go.RowKit Go.Proofs.Ytcpaenmhnoagdac.mem Go.Proofs.Ytcpaenmhnoagdac.nums
set_option linter.unusedVariables false

/-- the best rhythm among the first n ones -/
def br (Y : Nat → Int) : Nat → Nat
  | 0 => 1
  | n + 1 => if 0 < n ∧ Y (br Y n - 1) * (n + 1 : Int) < Y n * (br Y n : Int) then n + 1 else br Y n
theorem br_bd (Y : Nat → Int) : ∀ n, 1 ≤ br Y n ∧ (br Y n ≤ n ∨ br Y n = 1)
  | 0 => ⟨Nat.le_refl _, .inr rfl⟩
  | n + 1 => by
    have := br_bd Y n
    unfold br
    split <;> constructor <;> omega
theorem br_one (Y : Nat → Int) : br Y 1 = 1 := by simp [br]
theorem br_yes {Y : Nat → Int} {n : Nat} (h0 : 0 < n) (h : Y (br Y n - 1) * (n + 1 : Int) < Y n * (br Y n : Int)) : br Y (n + 1) = n + 1 := by
  show (if _ then _ else _) = _; rw [if_pos ⟨h0, h⟩]
theorem br_no {Y : Nat → Int} {n : Nat} (h : ¬ Y (br Y n - 1) * (n + 1 : Int) < Y n * (br Y n : Int)) : br Y (n + 1) = br Y n := by
  show (if _ then _ else _) = _; rw [if_neg (fun c => h c.2)]
theorem mul_bd {x y a b : Int} (h0 : 0 ≤ x) (h1 : x ≤ a) (h2 : 0 ≤ y) (h3 : y ≤ b) : 0 ≤ x * y ∧ x * y ≤ a * b :=
  ⟨Int.mul_nonneg h0 h2, Int.mul_le_mul h1 h3 h2 (by omega)⟩

/-- one step of the search, in whole numbers -/
theorem br_step {m : Nat} {Y : Nat → Int} {k g : Int} (k0 : 2 ≤ k) (k1 : k ≤ m) (hg : g = (br Y (k - 1).toNat : Nat)) :
    1 ≤ g ∧ g ≤ m ∧ yl m Y k = Y (k - 1).toNat ∧ yl m Y g = Y (br Y (k - 1).toNat - 1) ∧ (yl m Y g * k < yl m Y k * g → k = (br Y k.toNat : Nat)) ∧ (¬ yl m Y g * k < yl m Y k * g → g = (br Y k.toNat : Nat)) := by
  obtain ⟨n, rfl⟩ := Int.eq_ofNat_of_zero_le (by omega : 0 ≤ k)
  obtain ⟨j, rfl⟩ : ∃ j, n = j + 1 := ⟨n - 1, by omega⟩
  have e1 : (((j + 1 : Nat) : Int) - 1).toNat = j := by omega
  rw [e1] at hg ⊢
  have hb := br_bd Y j
  have g0 : 1 ≤ g ∧ g ≤ m := by omega
  have y1 : yl m Y ((j + 1 : Nat) : Int) = Y j := by rw [yl_in (by omega) k1]; congr 1
  have y2 : yl m Y g = Y (br Y j - 1) := by rw [yl_in (by omega) (by omega)]; congr 1; omega
  refine ⟨g0.1, g0.2, y1, y2, fun h => ?_, fun h => ?_⟩
  · rw [y1, y2, hg] at h
    rw [Int.toNat_natCast, br_yes (by omega) (by simpa using h)]
  · rw [y1, y2, hg] at h
    rw [Int.toNat_natCast, br_no (by simpa using h), hg]

set_option maxHeartbeats 400000 in
set_option maxRecDepth 100000 in
theorem rhythm_i (A : Option Addr) (m c : Nat) (Y : Nat → Int) (a : Int) (w : World) (hm : m ≤ maxLen) (hb : bedB m Y a = true) (h : Sl w A m 1 Y) :
    Calls Try.prog 15 #[.agg #[.slice A m c, .int .i64 a]] w fun e w' => e = .returned (.tuple #[.int .i64 (br Y m : Nat), .agg #[.int .i64 (Y (br Y m - 1) / gcdI (Y (br Y m - 1)) (br Y m : Nat)), .int .i64 ((br Y m : Nat) / gcdI (Y (br Y m - 1)) (br Y m : Nat))], .int .i64 0]) ∧ Below w.heap.size w w' := by
  obtain ⟨⟨m1, m5⟩, m2, hy⟩ := bedB_of hb
  have HY := Lib.hid hy
  have HS := Lib.hid h
  have HB := Lib.hid hb
  clear hy hb
  have hm1 : (1 : Int) ≤ m := by omega
  have hm5 : (m : Int) ≤ 5 := by omega
  go_enter Try.func15, Try.ntmps15
  go_wp2_with fail
  refine (bedOne_i A m c Y a _ hm (Sl.below h (K := w.heap.size) (by go_grown) (Nat.le_refl _))).mono ?_
  rintro e w1 ⟨rfl, hb1⟩
  rw [HB.out]
  have z1 := hb1.size
  simp at z1
  have g1 : Below w.heap.size w w1 := Below.trans (by go_grown) (hb1.mono (by simp <;> omega))
  have c0 : w1.cell? ⟨w.heap.size, 0, none⟩ = some (.slice A m c) := by rw [(bcell hb1).1 _ _ (by simp <;> omega)]; go_simp
  have c1 : w1.cell? ⟨w.heap.size, 1, none⟩ = some (.int .i64 a) := by rw [(bcell hb1).1 _ _ (by simp <;> omega)]; go_simp
  have d0 : w1.cell? ⟨w.heap.size + 1, 0, none⟩ = some (.int .i64 0) := by rw [(bcell hb1).1 _ _ (by simp <;> omega)]; go_simp
  have d1 : w1.cell? ⟨w.heap.size + 1, 1, none⟩ = some (.int .i64 0) := by rw [(bcell hb1).1 _ _ (by simp <;> omega)]; go_simp
  have f0 : w1.frozen? ⟨w.heap.size + 1, 0, none⟩ = false := by rw [(bcell hb1).2 _ _ (by simp <;> omega)]; go_simp
  have f1 : w1.frozen? ⟨w.heap.size + 1, 1, none⟩ = false := by rw [(bcell hb1).2 _ _ (by simp <;> omega)]; go_simp
  have HC := Lib.hid (And.intro c0 (And.intro c1 (And.intro d0 (And.intro d1 (And.intro f0 f1)))))
  clear hb1 c0 c1 d0 d1 f0 f1
  go_wp2_with fail
  go_loopw [5, 6] (fun s t wr => ∃ g k : Int, s = .int .i64 g ∧ t = .int .i64 k ∧ 2 ≤ k ∧ k ≤ m + 1 ∧ Hid (g = (br Y (k - 1).toNat : Nat)) ∧ Below w1.heap.size w1 wr) (fun _ t _ => m + 1 - (intOf t).toNat)
  case atStart => exact ⟨1, 2, rfl, rfl, by omega, by omega, by simp [Hid, br_one], Below.refl _ _⟩
  case round =>
    rename_i s t wr
    obtain ⟨g, k, rfl, rfl, k0, k1, HG, hbl⟩ := hrel
    have hzz := hbl.size
    have gb := g1.trans (hbl.mono (by omega))
    have HW := Lib.hid (HS.out.below gb (Nat.le_refl _))
    obtain ⟨c0, c1, d0, d1, f0, f1⟩ := HC.out
    replace c0 := (hbl.cell (p := ⟨w.heap.size, 0, none⟩) (show w.heap.size < w1.heap.size by omega)).trans c0
    replace c1 := (hbl.cell (p := ⟨w.heap.size, 1, none⟩) (show w.heap.size < w1.heap.size by omega)).trans c1
    by_cases hlt : k ≤ m
    · obtain ⟨g0, gm, -, -, hyes, hno⟩ := br_step k0 hlt HG.out
      have q1 := yl_bd (t := k) m1 HY.out (by omega)
      have q2 := yl_bd (t := g) m1 HY.out (by omega)
      have y1 : ∀ w, Sl w A m 1 Y → Calls Try.prog 54 #[.agg #[.slice A m c, .int .i64 a], .int .i64 k] w fun e w' => e = .returned (.int .i64 (yl m Y k)) ∧ Below w.heap.size w w' := fun w h => yield_i A m c Y a k w m1 m5 (by omega) h
      have y2 : ∀ w, Sl w A m 1 Y → Calls Try.prog 54 #[.agg #[.slice A m c, .int .i64 a], .int .i64 g] w fun e w' => e = .returned (.int .i64 (yl m Y g)) ∧ Below w.heap.size w w' := fun w h => yield_i A m c Y a g w m1 m5 (by omega) h
      have HY1 := Lib.hid y1
      have HY2 := Lib.hid y2
      have HYes := Lib.hid hyes
      have HNo := Lib.hid hno
      clear y1 y2 hyes hno d0 d1 f0 f1
      have p1 := mul_bd q1.1 q1.2 (by omega : 0 ≤ g) (by omega : g ≤ 5)
      have p2 := mul_bd q2.1 q2.2 (by omega : 0 ≤ k) (by omega : k ≤ 5)
      have x1 : IntKind.i64.wrap (yl m Y k * g) = yl m Y k * g := IntWalk.i64_in _ (by omega)
      have x2 : IntKind.i64.wrap (yl m Y g * k) = yl m Y g * k := IntWalk.i64_in _ (by omega)
      have HGB := Lib.hid gb
      clear gb p1 p2 q1 q2
      generalize yl m Y k = v1 at *
      generalize yl m Y g = v2 at *
      by_cases hc : v2 * k < v1 * g
      · go_wp2_with fail
        go_region_held3 (fun q => q.cell? ⟨w.heap.size, 0, none⟩ = some (.slice A m c) ∧ q.cell? ⟨w.heap.size, 1, none⟩ = some (.int .i64 a)) (first | exact ⟨c0, c1⟩ | go_keep)
          (first
            | (go_at_call 54; refine (HY2.out _ HW2.out).mono ?_; rintro e w3 ⟨rfl, hb3⟩
               have B3 := Lib.hid (B2.out.trans (hb3.mono B2.out.size))
               have s3 : Below w2.heap.size w2 w3 := hb3
               have z3 := B2.out.size
               replace c0 := (s3.cell (p := ⟨w.heap.size, 0, none⟩) (show w.heap.size < w2.heap.size by omega)).trans c0
               replace c1 := (s3.cell (p := ⟨w.heap.size, 1, none⟩) (show w.heap.size < w2.heap.size by omega)).trans c1
               clear hb3 s3)
            | (go_at_call 54; refine (HY1.out _ (HW.out.below (Below.drew (Below.refl _ _)) (Nat.le_refl _))).mono ?_; rintro e w2 ⟨rfl, hb2⟩
               have z2 := hb2.size
               have s2 : Below wr.heap.size wr w2 := Below.trans (Below.drew (Below.refl _ _)) (hb2.mono (by simp))
               replace c0 := (s2.cell (p := ⟨w.heap.size, 0, none⟩) (show w.heap.size < wr.heap.size by omega)).trans c0
               replace c1 := (s2.cell (p := ⟨w.heap.size, 1, none⟩) (show w.heap.size < wr.heap.size by omega)).trans c1
               have HW2 := Lib.hid (HW.out.below s2 (Nat.le_refl _))
               have B2 := Lib.hid (hbl.trans (s2.mono hzz))
               clear hb2 s2))
        go_wp2
        go_roundw
        case rel => exact ⟨k, k + 1, rfl, by go_num, by omega, by omega, by simp only [Hid, Int.add_sub_cancel]; exact HYes.out hc, B3.out⟩
        case measure => simp [intOf]; omega
      · go_wp2_with fail
        go_region_held3 (fun q => q.cell? ⟨w.heap.size, 0, none⟩ = some (.slice A m c) ∧ q.cell? ⟨w.heap.size, 1, none⟩ = some (.int .i64 a)) (first | exact ⟨c0, c1⟩ | go_keep)
          (first
            | (go_at_call 54; refine (HY2.out _ HW2.out).mono ?_; rintro e w3 ⟨rfl, hb3⟩
               have B3 := Lib.hid (B2.out.trans (hb3.mono B2.out.size))
               have s3 : Below w2.heap.size w2 w3 := hb3
               have z3 := B2.out.size
               replace c0 := (s3.cell (p := ⟨w.heap.size, 0, none⟩) (show w.heap.size < w2.heap.size by omega)).trans c0
               replace c1 := (s3.cell (p := ⟨w.heap.size, 1, none⟩) (show w.heap.size < w2.heap.size by omega)).trans c1
               clear hb3 s3)
            | (go_at_call 54; refine (HY1.out _ (HW.out.below (Below.drew (Below.refl _ _)) (Nat.le_refl _))).mono ?_; rintro e w2 ⟨rfl, hb2⟩
               have z2 := hb2.size
               have s2 : Below wr.heap.size wr w2 := Below.trans (Below.drew (Below.refl _ _)) (hb2.mono (by simp))
               replace c0 := (s2.cell (p := ⟨w.heap.size, 0, none⟩) (show w.heap.size < wr.heap.size by omega)).trans c0
               replace c1 := (s2.cell (p := ⟨w.heap.size, 1, none⟩) (show w.heap.size < wr.heap.size by omega)).trans c1
               have HW2 := Lib.hid (HW.out.below s2 (Nat.le_refl _))
               have B2 := Lib.hid (hbl.trans (s2.mono hzz))
               clear hb2 s2))
        go_wp2
        go_roundw
        case rel => exact ⟨g, k + 1, rfl, by go_num, by omega, by omega, by simp only [Hid, Int.add_sub_cancel]; exact HNo.out hc, B3.out⟩
        case measure => simp [intOf]; omega
    · obtain rfl : k = m + 1 := by omega
      have HGG := Lib.hid (show g = (br Y m : Nat) by have := HG.out; rw [Int.add_sub_cancel, Int.toNat_natCast] at this; exact this)
      go_wp2_with fail
      clear c0 c1
      replace d0 := (hbl.cell (p := ⟨w.heap.size + 1, 0, none⟩) (show w.heap.size + 1 < w1.heap.size by omega)).trans d0
      replace f0 := (hbl.frozen (p := ⟨w.heap.size + 1, 0, none⟩) (show w.heap.size + 1 < w1.heap.size by omega)).trans f0
      replace d1 := (hbl.cell (p := ⟨w.heap.size + 1, 1, none⟩) (show w.heap.size + 1 < w1.heap.size by omega)).trans d1
      replace f1 := (hbl.frozen (p := ⟨w.heap.size + 1, 1, none⟩) (show w.heap.size + 1 < w1.heap.size by omega)).trans f1
      have gm : 1 ≤ g ∧ g ≤ m := by have := br_bd Y m; have := HGG.out; omega
      have yv : yl m Y g = Y (br Y m - 1) := by rw [yl_in (by omega) gm.2]; congr 1; have := HGG.out; omega
      have yb := yl_bd (t := g) m1 HY.out (by omega)
      have HV := Lib.hid yv
      clear yv
      generalize hv : yl m Y g = v at *
      refine (yield_i A m c Y a g _ m1 m5 (by omega) HW.out).mono ?_
      rintro e w2 ⟨rfl, hb2⟩
      rw [hv]
      have z2 := hb2.size
      replace d0 := (hb2.cell (p := ⟨w.heap.size + 1, 0, none⟩) (show w.heap.size + 1 < wr.heap.size by omega)).trans d0
      replace f0 := (hb2.frozen (p := ⟨w.heap.size + 1, 0, none⟩) (show w.heap.size + 1 < wr.heap.size by omega)).trans f0
      replace d1 := (hb2.cell (p := ⟨w.heap.size + 1, 1, none⟩) (show w.heap.size + 1 < wr.heap.size by omega)).trans d1
      replace f1 := (hb2.frozen (p := ⟨w.heap.size + 1, 1, none⟩) (show w.heap.size + 1 < wr.heap.size by omega)).trans f1
      have B2 := hbl.trans (hb2.mono hzz)
      clear hb2 hv
      go_wp2_with fail
      refine (lowest_i v g (by omega) (by omega) (by omega) (by omega) _).mono ?_
      rintro e w3 ⟨rfl, hb3⟩
      have z3 := hb3.size
      replace d0 := (hb3.cell (p := ⟨w.heap.size + 1, 0, none⟩) (show w.heap.size + 1 < w2.heap.size by omega)).trans d0
      replace f0 := (hb3.frozen (p := ⟨w.heap.size + 1, 0, none⟩) (show w.heap.size + 1 < w2.heap.size by omega)).trans f0
      replace d1 := (hb3.cell (p := ⟨w.heap.size + 1, 1, none⟩) (show w.heap.size + 1 < w2.heap.size by omega)).trans d1
      replace f1 := (hb3.frozen (p := ⟨w.heap.size + 1, 1, none⟩) (show w.heap.size + 1 < w2.heap.size by omega)).trans f1
      have B3 := g1.trans ((B2.trans (hb3.mono (by omega))).mono (by omega))
      clear hb3 B2
      go_wp2
      exact bodyPost_ret (v := .tuple #[.int .i64 g, .agg #[.int .i64 (v / gcdI v g), .int .i64 (g / gcdI v g)], .int .i64 0]) (by simp [results, Try.results15, go_sem, d0, d1]) rfl
        ⟨by rw [← HV.out, ← HGG.out], Below.setCell (Below.setCell B3 (by simp) _) (by simp) _⟩

set_option maxHeartbeats 2000000 in
theorem rhythm_i_no (A : Option Addr) (m c : Nat) (Y : Nat → Int) (a : Int) (w : World) (hm : m ≤ maxLen) (hb : bedB m Y a = false) (h : Sl w A m 1 Y) :
    Calls Try.prog 15 #[.agg #[.slice A m c, .int .i64 a]] w fun e w' => e = .returned (.tuple #[.int .i64 0, .agg #[.int .i64 0, .int .i64 0], .int .i64 1]) ∧ Below w.heap.size w w' := by
  go_enter Try.func15, Try.ntmps15
  go_wp2_with fail
  refine (bedOne_i A m c Y a _ hm (Sl.below h (K := w.heap.size) (by go_grown) (Nat.le_refl _))).mono ?_
  rintro e w1 ⟨rfl, hb1⟩
  rw [hb]
  have z1 := hb1.size
  simp at z1
  have g1 : Below w.heap.size w w1 := Below.trans (by go_grown) (hb1.mono (by simp <;> omega))
  have d0 : w1.cell? ⟨w.heap.size + 1, 0, none⟩ = some (.int .i64 0) := by rw [(bcell hb1).1 _ _ (by simp <;> omega)]; go_simp
  have d1 : w1.cell? ⟨w.heap.size + 1, 1, none⟩ = some (.int .i64 0) := by rw [(bcell hb1).1 _ _ (by simp <;> omega)]; go_simp
  have f0 : w1.frozen? ⟨w.heap.size + 1, 0, none⟩ = false := by rw [(bcell hb1).2 _ _ (by simp <;> omega)]; go_simp
  have f1 : w1.frozen? ⟨w.heap.size + 1, 1, none⟩ = false := by rw [(bcell hb1).2 _ _ (by simp <;> omega)]; go_simp
  clear hb1
  go_wp2
  exact bodyPost_ret (v := .tuple #[.int .i64 0, .agg #[.int .i64 0, .int .i64 0], .int .i64 1]) (by simp [results, Try.results15, go_sem, d0, d1]) rfl
    ⟨rfl, Below.setCell (Below.setCell g1 (by simp) _) (by simp) _⟩

set_option maxHeartbeats 2000000 in
theorem rhythm_s_no (A : Option Addr) (m c : Nat) (Y : Nat → Int) (a : Int) (w : World) (hm : m ≤ maxLen) (hb : bedB m Y a = false) (h : Sl w A m 1 Y) :
    Calls Try.prog 16 #[.agg #[.slice A m c, .int .i64 a]] w fun e w' => e = .returned (.tuple #[.int .i64 0, .agg #[.int .i64 0, .int .i64 0], .int .i64 1]) ∧ Below w.heap.size w w' := by
  have hN := ((bedAt_new (c := c) (a := a) 26 h).below (w' := (w.alloc (Obj.cells #[.slice A m c, .int .i64 a] 26)).alloc (Obj.cells #[.int .i64 0, .int .i64 0] 29)) (by go_grown) (by simp))
  have HN := Lib.hid hN
  clear hN
  go_enter Try.func16, Try.ntmps16
  go_wp2_with fail
  refine (bedOne_s _ _ m Y a _ hm HN.out).mono ?_
  rintro e w' ⟨rfl, n, rfl⟩
  rw [hb]
  go_wp2
  go_returns
  exact ⟨rfl, by go_grown; exact drewN_below (by go_grown) _⟩

set_option maxHeartbeats 2000000 in
theorem rhythm_s (A : Option Addr) (m c : Nat) (Y : Nat → Int) (a : Int) (w : World) (hm : m ≤ maxLen) (hb : bedB m Y a = true) (h : Sl w A m 1 Y) :
    Calls Try.prog 16 #[.agg #[.slice A m c, .int .i64 a]] w fun e w' => e = .returned (.tuple #[.int .i64 (br Y m : Nat), .agg #[.int .i64 (Y (br Y m - 1) / gcdI (Y (br Y m - 1)) (br Y m : Nat)), .int .i64 ((br Y m : Nat) / gcdI (Y (br Y m - 1)) (br Y m : Nat))], .int .i64 0]) ∧ Below w.heap.size w w' := by
  have hN := ((bedAt_new (c := c) (a := a) 26 h).below (w' := (w.alloc (Obj.cells #[.slice A m c, .int .i64 a] 26)).alloc (Obj.cells #[.int .i64 0, .int .i64 0] 29)) (by go_grown) (by simp))
  have HN := Lib.hid hN
  clear hN
  go_enter Try.func16, Try.ntmps16
  go_wp2_with fail
  refine (bedOne_s _ _ m Y a _ hm HN.out).mono ?_
  rintro e w' ⟨rfl, n, rfl⟩
  rw [hb]
  obtain ⟨⟨m1, m5⟩, m2, hy⟩ := bedB_of hb
  have hm1 : (1 : Int) ≤ m := by omega
  have hm5 : (m : Int) ≤ 5 := by omega
  have hS : Sl (((w.alloc (Obj.cells #[.slice A m c, .int .i64 a] 26)).alloc (Obj.cells #[.int .i64 0, .int .i64 0] 29)).drewN n) A m 1 Y := Sl.below h (K := w.heap.size) (drewN_below (by go_grown) _) (Nat.le_refl _)
  have HS := Lib.hid hS
  have HY := Lib.hid hy
  have HB := Lib.hid hb
  clear hy hb hS h
  go_wp2_with fail
  go_loopw [5, 6] (fun s t wr => ∃ g k : Int, s = .int .i64 g ∧ t = .int .i64 k ∧ 2 ≤ k ∧ k ≤ m + 1 ∧ Hid (g = (br Y (k - 1).toNat : Nat)) ∧ Drew (((w.alloc (Obj.cells #[.slice A m c, .int .i64 a] 26)).alloc (Obj.cells #[.int .i64 0, .int .i64 0] 29)).drewN n) wr) (fun _ t _ => m + 1 - (intOf t).toNat)
  case atStart => exact ⟨1, 2, rfl, rfl, by omega, by omega, by simp [Hid, br_one], Drew.refl _⟩
  case round =>
    rename_i s t wr
    obtain ⟨g, k, rfl, rfl, k0, k1, HG, hd⟩ := hrel
    have HD := Lib.hid hd
    have c0 : wr.cell? ⟨w.heap.size, 0, none⟩ = some (.slice A m c) := hd.cell (by go_simp)
    obtain ⟨b2, o2, rfl, hb2, hX⟩ := (hd.sl HS.out) (by omega)
    have HX := Lib.hid hX
    clear hd hX
    by_cases hlt : k ≤ m
    · obtain ⟨g0, gm, -, -, hyes, hno⟩ := br_step k0 hlt HG.out
      have q1 := yl_bd (t := k) m1 HY.out (by omega)
      have q2 := yl_bd (t := g) m1 HY.out (by omega)
      rw [yl_in (by omega) hlt, yl_in (by omega) gm] at hyes hno
      rw [yl_in (by omega) hlt] at q1
      rw [yl_in (by omega) gm] at q2
      have HYes := Lib.hid hyes
      have HNo := Lib.hid hno
      have r1 := HX.out (k.toNat - 1) (by omega)
      have r2 := HX.out (g.toNat - 1) (by omega)
      clear hyes hno
      generalize Y (k.toNat - 1) = v1 at *
      generalize Y (g.toNat - 1) = v2 at *
      have p1 := mul_bd q1.1 q1.2 (by omega : 0 ≤ g) (by omega : g ≤ 5)
      have p2 := mul_bd q2.1 q2.2 (by omega : 0 ≤ k) (by omega : k ≤ 5)
      have x1 : IntKind.i64.wrap (v1 * g) = v1 * g := IntWalk.i64_in _ (by omega)
      have x2 : IntKind.i64.wrap (v2 * k) = v2 * k := IntWalk.i64_in _ (by omega)
      have x3 : IntKind.i64.wrap (k - 1) = k - 1 := IntWalk.i64_in _ (by omega)
      have x4 : IntKind.i64.wrap (g - 1) = g - 1 := IntWalk.i64_in _ (by omega)
      have x5 : 1 ≤ k := by omega
      clear p1 p2 q1 q2
      by_cases hc : v2 * k < v1 * g
      · go_wp2_with fail
        go_quiet (fail)
        go_wp2
        go_roundw
        case rel => exact ⟨k, k + 1, rfl, by go_num, by omega, by omega, by simp only [Hid, Int.add_sub_cancel]; exact HYes.out hc, HD.out.drewN _⟩
        case measure => simp [intOf]; omega
      · go_wp2_with fail
        go_quiet (fail)
        go_wp2
        go_roundw
        case rel => exact ⟨g, k + 1, rfl, by go_num, by omega, by omega, by simp only [Hid, Int.add_sub_cancel]; exact HNo.out hc, HD.out.drewN _⟩
        case measure => simp [intOf]; omega
    · obtain rfl : k = m + 1 := by omega
      have HGG := Lib.hid (show g = (br Y m : Nat) by have := HG.out; rw [Int.add_sub_cancel, Int.toNat_natCast] at this; exact this)
      have gm : 1 ≤ g ∧ g ≤ m := by have := br_bd Y m; have := HGG.out; omega
      obtain ⟨gm0, gm1⟩ := gm
      have e1 : g.toNat - 1 = br Y m - 1 := by have := HGG.out; omega
      have r2 := HX.out (g.toNat - 1) (by omega)
      have q2 := HY.out (g.toNat - 1) (by omega)
      have HV := Lib.hid (show Y (br Y m - 1) = Y (g.toNat - 1) by rw [e1])
      have x4 : IntKind.i64.wrap (g - 1) = g - 1 := IntWalk.i64_in _ (by omega)
      clear e1
      generalize Y (g.toNat - 1) = v at *
      go_wp2_with fail
      refine (make_s v g (by omega) (by omega) (by omega) (by omega) _).mono ?_
      rintro e w3 ⟨rfl, hb3⟩
      have z3 := hb3.size
      have zr : wr.heap.size = w.heap.size + 1 + 1 := by obtain ⟨q, rfl⟩ := HD.out; simp
      have gr : Below w.heap.size w wr := by obtain ⟨q, rfl⟩ := HD.out; exact drewN_below (drewN_below (by go_grown) _) _
      have d0 : w3.cell? ⟨w.heap.size + 1, 0, none⟩ = some (.int .i64 0) := (hb3.cell (p := ⟨w.heap.size + 1, 0, none⟩) (show w.heap.size + 1 < _ by omega)).trans (HD.out.cell (by go_simp))
      have f0 : w3.frozen? ⟨w.heap.size + 1, 0, none⟩ = false := (hb3.frozen (p := ⟨w.heap.size + 1, 0, none⟩) (show w.heap.size + 1 < _ by omega)).trans (by obtain ⟨q, rfl⟩ := HD.out; go_simp)
      have d1 : w3.cell? ⟨w.heap.size + 1, 1, none⟩ = some (.int .i64 0) := (hb3.cell (p := ⟨w.heap.size + 1, 1, none⟩) (show w.heap.size + 1 < _ by omega)).trans (HD.out.cell (by go_simp))
      have f1 : w3.frozen? ⟨w.heap.size + 1, 1, none⟩ = false := (hb3.frozen (p := ⟨w.heap.size + 1, 1, none⟩) (show w.heap.size + 1 < _ by omega)).trans (by obtain ⟨q, rfl⟩ := HD.out; go_simp)
      have B3 : Below w.heap.size w w3 := gr.trans (hb3.mono (by omega))
      clear hb3
      go_wp2
      exact bodyPost_ret (v := .tuple #[.int .i64 g, .agg #[.int .i64 (v / gcdI v g), .int .i64 (g / gcdI v g)], .int .i64 0]) (by simp [results, Try.results16, go_sem, d0, d1]) rfl
        ⟨by rw [HV.out, ← HGG.out], Below.setCell (Below.setCell B3 (by simp) _) (by simp) _⟩

end Go.Proofs.Ytcpaenmhnoagdac.rod
