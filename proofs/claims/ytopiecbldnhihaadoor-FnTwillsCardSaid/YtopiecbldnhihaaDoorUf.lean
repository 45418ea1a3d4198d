/-
  The law on twills, walked. No condition of a statement lies here.
-/
import Derived.Test.YtopiecbldnhihaaDoorUe
import Derived.Test.YtopiecbldnhihaaDoorUd
import Derived.BigQuiet
import Derived.Deep.RegionHeld3
import Derived.Deep.AppendLies
import Derived.Deep.RegionLaw
namespace Go.Proofs.YtopiecbldnhihaaDoor.twl
open Go.ChangeShapes Go.WideShapes Go.ChangeAt Go.RowKit Go.Deep Go.Proofs.YtopiecbldnhihaaDoor.mem Go.Proofs.YtopiecbldnhihaaDoor.rod Go.Proofs.YtopiecbldnhihaaDoor.nums Go.Proofs.YtopiecbldnhihaaDoor.shp Go.Proofs.YtopiecbldnhihaaDoor.src Go.Proofs.YtopiecbldnhihaaDoor.wv Go.Proofs.YtopiecbldnhihaaDoor.wk
set_option linter.unusedVariables false
set_option maxRecDepth 100000

theorem face_fa {s : ByteArray} {t r k : Nat} (h : 0 < s.size) : ((faceU s t r k).toNat : Int) = fa s t r k := by
  unfold faceU fa
  exact (byteU_at _ _).symm
theorem runK_le (s : ByteArray) (t r : Nat) : ∀ k, runK s t r k ≤ k
  | 0 => Nat.le_refl _
  | k + 1 => by
    have := runK_le s t r k
    unfold runK
    split <;> omega
theorem runK_next {s : ByteArray} {t r k : Nat} {nb : Bool} (h : nb = decide (0 < k ∧ ¬ fa s t r k = fa s t r (k - 1))) : runK s t r (k + 1) = (if nb then 1 else runK s t r k + 1) := by
  show (if 0 < k ∧ fa s t r k = fa s t r (k - 1) then runK s t r k + 1 else 1) = _
  by_cases h0 : 0 < k
  · by_cases he : fa s t r k = fa s t r (k - 1)
    · rw [if_pos ⟨h0, he⟩, h]; simp [he]
    · rw [if_neg (fun q => he q.2), h]; simp [he, h0]
  · obtain rfl : k = 0 := by omega
    rw [if_neg (fun q => h0 q.1), h]; simp [runK]
theorem eqL_self (Y : Nat → Int) : ∀ n, eqL Y Y n = true
  | 0 => rfl
  | n + 1 => by unfold eqL; rw [eqL_self Y n]; simp
theorem sameTw_self {su : Int} {n : Nat} {Y : Nat → Int} : (decide (su = su) && sameL n n Y Y) = true := by rw [decide_eq_true rfl, sameL_eq, eqL_self]; rfl
set_option maxHeartbeats 20000000 in
theorem twills_walk (A : Option Addr) (n c : Nat) (X : Nat → Int) (w : World) (hn : n ≤ 4096) (sl : Sb w A n X) (tab : dec.Tab w) :
    Calls Tryd.prog 3 #[.slice A n c] w fun e w' => e = .returned (.bool true) ∧ Below w.heap.size w w' := by
  have HSL := Lib.hid sl
  clear sl
  go_enter Tryd.func3, Tryd.ntmps3
  go_wp2_with fail
  refine (bigT_c A n c _ hn).mono ?_
  rintro e w' ⟨rfl, rfl⟩
  have B0 := Lib.hid (Below.refl w'.heap.size w')
  go_wp2_with fail
  refine (drawFace_c A n c X _ hn HSL.out).mono ?_
  rintro e w1 ⟨P, m, d, Y, st, a, b, rfl, hg, hm12, hmd, hdm, rowT, hb1⟩
  have zz_w1 := hb1.size
  replace B0 := Lib.hid (B0.out.trans (hb1.mono B0.out.size))
  have RT := Lib.hid (fun (W : World) (h : Below w1.heap.size w1 W) => rowT.sl.below h (Nat.le_refl _))
  have hmx : m ≤ maxLen := by omega
  clear rowT hb1 hg
  have B1 := Lib.hid (Below.refl w1.heap.size w1)
  obtain ⟨R, T, k1, hR40, hF, FI, FS⟩ := face_any m Y st a b hmx
  have HF := Lib.hid hF
  replace FI := Lib.hid FI
  replace FS := Lib.hid FS
  obtain ⟨rp, rq, k2, hRep, RI, RS⟩ := repeat_any m Y st hmx
  have HRep := Lib.hid hRep
  replace RI := Lib.hid RI
  replace RS := Lib.hid RS
  obtain ⟨fp, fq, k3, hFlo, LI, LS⟩ := float_any m Y st hmx
  have HFlo := Lib.hid hFlo
  replace LI := Lib.hid LI
  replace LS := Lib.hid LS
  clear hF hRep hFlo
  obtain ⟨W1, hW1⟩ : ∃ W1, W1 = w1.alloc (.cells #[.slice P m d, .int .i64 st] 26) := ⟨_, rfl⟩
  obtain ⟨bt, hbt⟩ : ∃ bt, bt = w1.heap.size := ⟨_, rfl⟩
  have gW1 : Below w1.heap.size w1 W1 := by rw [hW1]; go_grown
  have Tbt := Lib.hid (show TwBlk W1 bt (.slice P m d) (st) from by rw [hW1, hbt]; exact Go.Deep.blk_alloc_new _ _)
  have Cbt := Lib.hid (fun (W : World) (h : Below W1.heap.size W1 W) => (show W.cell? ⟨bt, 0, none⟩ = some (.slice P m d) ∧ W.cell? ⟨bt, 1, none⟩ = some (.int .i64 (st)) from ⟨(h.cell (p := ⟨bt, 0, none⟩) Tbt.out.lt).trans Tbt.out.cell0, (h.cell (p := ⟨bt, 1, none⟩) Tbt.out.lt).trans Tbt.out.cell1⟩))
  have zz_W1 := gW1.size
  replace B0 := Lib.hid (B0.out.trans (gW1.mono B0.out.size))
  replace B1 := Lib.hid (B1.out.trans (gW1.mono B1.out.size))
  have BW1 := Lib.hid (Below.refl W1.heap.size W1)
  clear gW1
  go_wp2_with fail
  rw [← hW1, ← hbt]
  clear hW1 hbt
  refine (FI.out P d _ (RT.out _ B1.out)).mono ?_
  rintro e w2 ⟨Af, cf, rfl, kf, mf, rowF, hb2⟩
  have zz_w2 := hb2.size
  replace B0 := Lib.hid (B0.out.trans (hb2.mono B0.out.size))
  replace B1 := Lib.hid (B1.out.trans (hb2.mono B1.out.size))
  replace BW1 := Lib.hid (BW1.out.trans (hb2.mono BW1.out.size))
  have RF := Lib.hid (fun (W : World) (h : Below w2.heap.size w2 W) => (rowF.below h (Nat.le_refl _)).sl)
  clear rowF hb2
  have Bw2 := Lib.hid (Below.refl w2.heap.size w2)
  have q0 := (Cbt.out _ BW1.out).1
  have q1 := (Cbt.out _ BW1.out).2
  go_wp2_with fail
  clear q0 q1
  refine (FS.out P d _ (RT.out _ B1.out)).mono ?_
  rintro e w3 ⟨Am, cm, rfl, km, mm, rowM, hb3⟩
  have zz_w3 := hb3.size
  replace B0 := Lib.hid (B0.out.trans (hb3.mono B0.out.size))
  replace B1 := Lib.hid (B1.out.trans (hb3.mono B1.out.size))
  replace BW1 := Lib.hid (BW1.out.trans (hb3.mono BW1.out.size))
  replace Bw2 := Lib.hid (Bw2.out.trans (hb3.mono Bw2.out.size))
  have RM := Lib.hid (fun (W : World) (h : Below w3.heap.size w3 W) => (rowM.below h (Nat.le_refl _)).sl)
  clear rowM hb3
  have Bw3 := Lib.hid (Below.refl w3.heap.size w3)
  have q0 := (Cbt.out _ BW1.out).1
  have q1 := (Cbt.out _ BW1.out).2
  go_wp2_with fail
  clear q0 q1
  refine (RI.out P d _ (RT.out _ B1.out)).mono ?_
  rintro e w4 ⟨rfl, hb4⟩
  have zz_w4 := hb4.size
  replace B0 := Lib.hid (B0.out.trans (hb4.mono B0.out.size))
  replace B1 := Lib.hid (B1.out.trans (hb4.mono B1.out.size))
  replace BW1 := Lib.hid (BW1.out.trans (hb4.mono BW1.out.size))
  replace Bw2 := Lib.hid (Bw2.out.trans (hb4.mono Bw2.out.size))
  replace Bw3 := Lib.hid (Bw3.out.trans (hb4.mono Bw3.out.size))
  clear hb4
  have q0 := (Cbt.out _ BW1.out).1
  have q1 := (Cbt.out _ BW1.out).2
  go_wp2_with fail
  clear q0 q1
  refine (RS.out P d _ (RT.out _ B1.out)).mono ?_
  rintro e w5 ⟨rfl, hb5⟩
  have zz_w5 := hb5.size
  replace B0 := Lib.hid (B0.out.trans (hb5.mono B0.out.size))
  replace B1 := Lib.hid (B1.out.trans (hb5.mono B1.out.size))
  replace BW1 := Lib.hid (BW1.out.trans (hb5.mono BW1.out.size))
  replace Bw2 := Lib.hid (Bw2.out.trans (hb5.mono Bw2.out.size))
  replace Bw3 := Lib.hid (Bw3.out.trans (hb5.mono Bw3.out.size))
  clear hb5
  go_wp2_with fail
  refine (drawBack_c A n c X _ hn (HSL.out.below B0.out (Nat.le_refl _))).mono ?_
  rintro e w6 ⟨P2, m2, d2, Y2, st2, rfl, hg2, hm212, hmd2, hdm2, rowB, hb6⟩
  have zz_w6 := hb6.size
  replace B0 := Lib.hid (B0.out.trans (hb6.mono B0.out.size))
  replace B1 := Lib.hid (B1.out.trans (hb6.mono B1.out.size))
  replace BW1 := Lib.hid (BW1.out.trans (hb6.mono BW1.out.size))
  replace Bw2 := Lib.hid (Bw2.out.trans (hb6.mono Bw2.out.size))
  replace Bw3 := Lib.hid (Bw3.out.trans (hb6.mono Bw3.out.size))
  have RB := Lib.hid (fun (W : World) (h : Below w6.heap.size w6 W) => rowB.sl.below h (Nat.le_refl _))
  have hmx2 : m2 ≤ maxLen := by omega
  clear rowB hb6 hg2
  have B6 := Lib.hid (Below.refl w6.heap.size w6)
  obtain ⟨l, su, k4, hl12, hBk, BI, BS⟩ := back_any m2 Y2 st2 hmx2
  have HBk := Lib.hid hBk
  replace BI := Lib.hid BI
  replace BS := Lib.hid BS
  clear hBk
  obtain ⟨W6, hW6⟩ : ∃ W6, W6 = w6.alloc (.cells #[.slice P2 m2 d2, .int .i64 st2] 26) := ⟨_, rfl⟩
  obtain ⟨bb, hbb⟩ : ∃ bb, bb = w6.heap.size := ⟨_, rfl⟩
  have gW6 : Below w6.heap.size w6 W6 := by rw [hW6]; go_grown
  have Tbb := Lib.hid (show TwBlk W6 bb (.slice P2 m2 d2) (st2) from by rw [hW6, hbb]; exact Go.Deep.blk_alloc_new _ _)
  have Cbb := Lib.hid (fun (W : World) (h : Below W6.heap.size W6 W) => (show W.cell? ⟨bb, 0, none⟩ = some (.slice P2 m2 d2) ∧ W.cell? ⟨bb, 1, none⟩ = some (.int .i64 (st2)) from ⟨(h.cell (p := ⟨bb, 0, none⟩) Tbb.out.lt).trans Tbb.out.cell0, (h.cell (p := ⟨bb, 1, none⟩) Tbb.out.lt).trans Tbb.out.cell1⟩))
  have zz_W6 := gW6.size
  replace B0 := Lib.hid (B0.out.trans (gW6.mono B0.out.size))
  replace B1 := Lib.hid (B1.out.trans (gW6.mono B1.out.size))
  replace BW1 := Lib.hid (BW1.out.trans (gW6.mono BW1.out.size))
  replace Bw2 := Lib.hid (Bw2.out.trans (gW6.mono Bw2.out.size))
  replace Bw3 := Lib.hid (Bw3.out.trans (gW6.mono Bw3.out.size))
  replace B6 := Lib.hid (B6.out.trans (gW6.mono B6.out.size))
  have BW6 := Lib.hid (Below.refl W6.heap.size W6)
  clear gW6
  go_wp2_with fail
  rw [← hW6, ← hbb]
  clear hW6 hbb
  refine (BI.out P2 d2 _ (RB.out _ B6.out)).mono ?_
  rintro e w7 ⟨Ax, cx, rfl, kx, mx, rowX, hb7⟩
  have zz_w7 := hb7.size
  replace B0 := Lib.hid (B0.out.trans (hb7.mono B0.out.size))
  replace B1 := Lib.hid (B1.out.trans (hb7.mono B1.out.size))
  replace BW1 := Lib.hid (BW1.out.trans (hb7.mono BW1.out.size))
  replace Bw2 := Lib.hid (Bw2.out.trans (hb7.mono Bw2.out.size))
  replace Bw3 := Lib.hid (Bw3.out.trans (hb7.mono Bw3.out.size))
  replace B6 := Lib.hid (B6.out.trans (hb7.mono B6.out.size))
  replace BW6 := Lib.hid (BW6.out.trans (hb7.mono BW6.out.size))
  have RX := Lib.hid (fun (W : World) (h : Below w7.heap.size w7 W) => rowX.sl.below h (Nat.le_refl _))
  clear rowX hb7
  have Bw7 := Lib.hid (Below.refl w7.heap.size w7)
  obtain ⟨W7, hW7⟩ : ∃ W7, W7 = w7.alloc (.cells #[.slice Ax l.length cx, .int .i64 su] 26) := ⟨_, rfl⟩
  obtain ⟨bx, hbx⟩ : ∃ bx, bx = w7.heap.size := ⟨_, rfl⟩
  have gW7 : Below w7.heap.size w7 W7 := by rw [hW7]; go_grown
  have Tbx := Lib.hid (show TwBlk W7 bx (.slice Ax l.length cx) (su) from by rw [hW7, hbx]; exact Go.Deep.blk_alloc_new _ _)
  have Cbx := Lib.hid (fun (W : World) (h : Below W7.heap.size W7 W) => (show W.cell? ⟨bx, 0, none⟩ = some (.slice Ax l.length cx) ∧ W.cell? ⟨bx, 1, none⟩ = some (.int .i64 (su)) from ⟨(h.cell (p := ⟨bx, 0, none⟩) Tbx.out.lt).trans Tbx.out.cell0, (h.cell (p := ⟨bx, 1, none⟩) Tbx.out.lt).trans Tbx.out.cell1⟩))
  have zz_W7 := gW7.size
  replace B0 := Lib.hid (B0.out.trans (gW7.mono B0.out.size))
  replace B1 := Lib.hid (B1.out.trans (gW7.mono B1.out.size))
  replace BW1 := Lib.hid (BW1.out.trans (gW7.mono BW1.out.size))
  replace Bw2 := Lib.hid (Bw2.out.trans (gW7.mono Bw2.out.size))
  replace Bw3 := Lib.hid (Bw3.out.trans (gW7.mono Bw3.out.size))
  replace B6 := Lib.hid (B6.out.trans (gW7.mono B6.out.size))
  replace BW6 := Lib.hid (BW6.out.trans (gW7.mono BW6.out.size))
  replace Bw7 := Lib.hid (Bw7.out.trans (gW7.mono Bw7.out.size))
  have BW7 := Lib.hid (Below.refl W7.heap.size W7)
  clear gW7
  have q0 := (Cbb.out _ BW6.out).1
  have q1 := (Cbb.out _ BW6.out).2
  rw [hW7] at q0 q1
  go_wp2_with fail
  rw [← hW7, ← hbx]
  clear q0 q1
  clear hW7 hbx
  refine (BS.out P2 d2 _ (RB.out _ B6.out)).mono ?_
  rintro e w8 ⟨Ay, cy, rfl, ky, my, rowY, hb8⟩
  have zz_w8 := hb8.size
  replace B0 := Lib.hid (B0.out.trans (hb8.mono B0.out.size))
  replace B1 := Lib.hid (B1.out.trans (hb8.mono B1.out.size))
  replace BW1 := Lib.hid (BW1.out.trans (hb8.mono BW1.out.size))
  replace Bw2 := Lib.hid (Bw2.out.trans (hb8.mono Bw2.out.size))
  replace Bw3 := Lib.hid (Bw3.out.trans (hb8.mono Bw3.out.size))
  replace B6 := Lib.hid (B6.out.trans (hb8.mono B6.out.size))
  replace BW6 := Lib.hid (BW6.out.trans (hb8.mono BW6.out.size))
  replace Bw7 := Lib.hid (Bw7.out.trans (hb8.mono Bw7.out.size))
  replace BW7 := Lib.hid (BW7.out.trans (hb8.mono BW7.out.size))
  have RY := Lib.hid (fun (W : World) (h : Below w8.heap.size w8 W) => rowY.sl.below h (Nat.le_refl _))
  clear rowY hb8
  have Bw8 := Lib.hid (Below.refl w8.heap.size w8)
  obtain ⟨W8, hW8⟩ : ∃ W8, W8 = w8.alloc (.cells #[.slice Ay l.length cy, .int .i64 su] 26) := ⟨_, rfl⟩
  obtain ⟨by_, hby_⟩ : ∃ by_, by_ = w8.heap.size := ⟨_, rfl⟩
  have gW8 : Below w8.heap.size w8 W8 := by rw [hW8]; go_grown
  have Tby_ := Lib.hid (show TwBlk W8 by_ (.slice Ay l.length cy) (su) from by rw [hW8, hby_]; exact Go.Deep.blk_alloc_new _ _)
  have Cby_ := Lib.hid (fun (W : World) (h : Below W8.heap.size W8 W) => (show W.cell? ⟨by_, 0, none⟩ = some (.slice Ay l.length cy) ∧ W.cell? ⟨by_, 1, none⟩ = some (.int .i64 (su)) from ⟨(h.cell (p := ⟨by_, 0, none⟩) Tby_.out.lt).trans Tby_.out.cell0, (h.cell (p := ⟨by_, 1, none⟩) Tby_.out.lt).trans Tby_.out.cell1⟩))
  have zz_W8 := gW8.size
  replace B0 := Lib.hid (B0.out.trans (gW8.mono B0.out.size))
  replace B1 := Lib.hid (B1.out.trans (gW8.mono B1.out.size))
  replace BW1 := Lib.hid (BW1.out.trans (gW8.mono BW1.out.size))
  replace Bw2 := Lib.hid (Bw2.out.trans (gW8.mono Bw2.out.size))
  replace Bw3 := Lib.hid (Bw3.out.trans (gW8.mono Bw3.out.size))
  replace B6 := Lib.hid (B6.out.trans (gW8.mono B6.out.size))
  replace BW6 := Lib.hid (BW6.out.trans (gW8.mono BW6.out.size))
  replace Bw7 := Lib.hid (Bw7.out.trans (gW8.mono Bw7.out.size))
  replace BW7 := Lib.hid (BW7.out.trans (gW8.mono BW7.out.size))
  replace Bw8 := Lib.hid (Bw8.out.trans (gW8.mono Bw8.out.size))
  have BW8 := Lib.hid (Below.refl W8.heap.size W8)
  clear gW8
  have q0 := (Cbt.out _ BW1.out).1
  have q1 := (Cbt.out _ BW1.out).2
  rw [hW8] at q0 q1
  go_wp2_with fail
  rw [← hW8, ← hby_]
  clear q0 q1
  clear hW8 hby_
  refine (LI.out P d _ (RT.out _ B1.out)).mono ?_
  rintro e w9 ⟨rfl, hb9⟩
  have zz_w9 := hb9.size
  replace B0 := Lib.hid (B0.out.trans (hb9.mono B0.out.size))
  replace B1 := Lib.hid (B1.out.trans (hb9.mono B1.out.size))
  replace BW1 := Lib.hid (BW1.out.trans (hb9.mono BW1.out.size))
  replace Bw2 := Lib.hid (Bw2.out.trans (hb9.mono Bw2.out.size))
  replace Bw3 := Lib.hid (Bw3.out.trans (hb9.mono Bw3.out.size))
  replace B6 := Lib.hid (B6.out.trans (hb9.mono B6.out.size))
  replace BW6 := Lib.hid (BW6.out.trans (hb9.mono BW6.out.size))
  replace Bw7 := Lib.hid (Bw7.out.trans (hb9.mono Bw7.out.size))
  replace BW7 := Lib.hid (BW7.out.trans (hb9.mono BW7.out.size))
  replace Bw8 := Lib.hid (Bw8.out.trans (hb9.mono Bw8.out.size))
  replace BW8 := Lib.hid (BW8.out.trans (hb9.mono BW8.out.size))
  clear hb9
  have q0 := (Cbt.out _ BW1.out).1
  have q1 := (Cbt.out _ BW1.out).2
  go_wp2_with fail
  clear q0 q1
  refine (LS.out P d _ (RT.out _ B1.out)).mono ?_
  rintro e w10 ⟨rfl, hb10⟩
  have zz_w10 := hb10.size
  replace B0 := Lib.hid (B0.out.trans (hb10.mono B0.out.size))
  replace B1 := Lib.hid (B1.out.trans (hb10.mono B1.out.size))
  replace BW1 := Lib.hid (BW1.out.trans (hb10.mono BW1.out.size))
  replace Bw2 := Lib.hid (Bw2.out.trans (hb10.mono Bw2.out.size))
  replace Bw3 := Lib.hid (Bw3.out.trans (hb10.mono Bw3.out.size))
  replace B6 := Lib.hid (B6.out.trans (hb10.mono B6.out.size))
  replace BW6 := Lib.hid (BW6.out.trans (hb10.mono BW6.out.size))
  replace Bw7 := Lib.hid (Bw7.out.trans (hb10.mono Bw7.out.size))
  replace BW7 := Lib.hid (BW7.out.trans (hb10.mono BW7.out.size))
  replace Bw8 := Lib.hid (Bw8.out.trans (hb10.mono Bw8.out.size))
  replace BW8 := Lib.hid (BW8.out.trans (hb10.mono BW8.out.size))
  clear hb10
  go_wp2_with fail
  refine (drawSame_c A n c X _ hn (HSL.out.below B0.out (Nat.le_refl _))).mono ?_
  rintro e w11 ⟨P3, m3, d3, Y3, st3, Q3, n3, h3, Z3, su3, rfl, hm3, hn3, slP, slQ, hb11⟩
  have zz_w11 := hb11.size
  replace B0 := Lib.hid (B0.out.trans (hb11.mono B0.out.size))
  replace B1 := Lib.hid (B1.out.trans (hb11.mono B1.out.size))
  replace BW1 := Lib.hid (BW1.out.trans (hb11.mono BW1.out.size))
  replace Bw2 := Lib.hid (Bw2.out.trans (hb11.mono Bw2.out.size))
  replace Bw3 := Lib.hid (Bw3.out.trans (hb11.mono Bw3.out.size))
  replace B6 := Lib.hid (B6.out.trans (hb11.mono B6.out.size))
  replace BW6 := Lib.hid (BW6.out.trans (hb11.mono BW6.out.size))
  replace Bw7 := Lib.hid (Bw7.out.trans (hb11.mono Bw7.out.size))
  replace BW7 := Lib.hid (BW7.out.trans (hb11.mono BW7.out.size))
  replace Bw8 := Lib.hid (Bw8.out.trans (hb11.mono Bw8.out.size))
  replace BW8 := Lib.hid (BW8.out.trans (hb11.mono BW8.out.size))
  have RP := Lib.hid (fun (W : World) (h : Below w11.heap.size w11 W) => slP.below h (Nat.le_refl _))
  have RQ := Lib.hid (fun (W : World) (h : Below w11.heap.size w11 W) => slQ.below h (Nat.le_refl _))
  have hmx3 : m3 ≤ maxLen := by unfold maxLen; omega
  have hnx3 : n3 ≤ maxLen := by unfold maxLen; omega
  clear slP slQ hb11
  have B11 := Lib.hid (Below.refl w11.heap.size w11)
  obtain ⟨W11, hW11⟩ : ∃ W11, W11 = (w11.alloc (.cells #[.slice P3 m3 d3, .int .i64 st3] 26)).alloc (.cells #[.slice Q3 n3 h3, .int .i64 su3] 26) := ⟨_, rfl⟩
  obtain ⟨bc, hbc⟩ : ∃ bc, bc = w11.heap.size := ⟨_, rfl⟩
  obtain ⟨bd, hbd⟩ : ∃ bd, bd = w11.heap.size + 1 := ⟨_, rfl⟩
  have gW11 : Below w11.heap.size w11 W11 := by rw [hW11]; go_grown
  have Tbc := Lib.hid (show TwBlk W11 bc (.slice P3 m3 d3) (st3) from by rw [hW11, hbc]; exact (Go.Deep.blk_alloc_lt _ _ _ (by simp)).trans (Go.Deep.blk_alloc_new _ _))
  have Cbc := Lib.hid (fun (W : World) (h : Below W11.heap.size W11 W) => (show W.cell? ⟨bc, 0, none⟩ = some (.slice P3 m3 d3) ∧ W.cell? ⟨bc, 1, none⟩ = some (.int .i64 (st3)) from ⟨(h.cell (p := ⟨bc, 0, none⟩) Tbc.out.lt).trans Tbc.out.cell0, (h.cell (p := ⟨bc, 1, none⟩) Tbc.out.lt).trans Tbc.out.cell1⟩))
  have Tbd := Lib.hid (show TwBlk W11 bd (.slice Q3 n3 h3) (su3) from by rw [hW11, hbd]; have h2 := Go.Deep.blk_alloc_new (w11.alloc (.cells #[.slice P3 m3 d3, .int .i64 st3] 26)) (.cells #[.slice Q3 n3 h3, .int .i64 su3] 26); rw [World.size_alloc] at h2; exact h2)
  have Cbd := Lib.hid (fun (W : World) (h : Below W11.heap.size W11 W) => (show W.cell? ⟨bd, 0, none⟩ = some (.slice Q3 n3 h3) ∧ W.cell? ⟨bd, 1, none⟩ = some (.int .i64 (su3)) from ⟨(h.cell (p := ⟨bd, 0, none⟩) Tbd.out.lt).trans Tbd.out.cell0, (h.cell (p := ⟨bd, 1, none⟩) Tbd.out.lt).trans Tbd.out.cell1⟩))
  have zz_W11 := gW11.size
  replace B0 := Lib.hid (B0.out.trans (gW11.mono B0.out.size))
  replace B1 := Lib.hid (B1.out.trans (gW11.mono B1.out.size))
  replace BW1 := Lib.hid (BW1.out.trans (gW11.mono BW1.out.size))
  replace Bw2 := Lib.hid (Bw2.out.trans (gW11.mono Bw2.out.size))
  replace Bw3 := Lib.hid (Bw3.out.trans (gW11.mono Bw3.out.size))
  replace B6 := Lib.hid (B6.out.trans (gW11.mono B6.out.size))
  replace BW6 := Lib.hid (BW6.out.trans (gW11.mono BW6.out.size))
  replace Bw7 := Lib.hid (Bw7.out.trans (gW11.mono Bw7.out.size))
  replace BW7 := Lib.hid (BW7.out.trans (gW11.mono BW7.out.size))
  replace Bw8 := Lib.hid (Bw8.out.trans (gW11.mono Bw8.out.size))
  replace BW8 := Lib.hid (BW8.out.trans (gW11.mono BW8.out.size))
  replace B11 := Lib.hid (B11.out.trans (gW11.mono B11.out.size))
  have BW11 := Lib.hid (Below.refl W11.heap.size W11)
  clear gW11
  go_wp2_with fail
  rw [← hW11, ← hbd, ← hbc]
  clear hW11 hbc hbd
  have CELLS := Lib.hid (fun (W : World) (h : Below W11.heap.size W11 W) => (show W.cell? ⟨bt, 0, none⟩ = some (.slice P m d) ∧ W.cell? ⟨bt, 1, none⟩ = some (.int .i64 st) ∧ W.cell? ⟨bx, 0, none⟩ = some (.slice Ax l.length cx) ∧ W.cell? ⟨bx, 1, none⟩ = some (.int .i64 su) ∧ W.cell? ⟨by_, 0, none⟩ = some (.slice Ay l.length cy) ∧ W.cell? ⟨by_, 1, none⟩ = some (.int .i64 su) ∧ W.cell? ⟨bc, 0, none⟩ = some (.slice P3 m3 d3) ∧ W.cell? ⟨bc, 1, none⟩ = some (.int .i64 st3) ∧ W.cell? ⟨bd, 0, none⟩ = some (.slice Q3 n3 h3) ∧ W.cell? ⟨bd, 1, none⟩ = some (.int .i64 su3) from ⟨(Cbt.out _ (BW1.out.trans (h.mono BW1.out.size))).1, (Cbt.out _ (BW1.out.trans (h.mono BW1.out.size))).2, (Cbx.out _ (BW7.out.trans (h.mono BW7.out.size))).1, (Cbx.out _ (BW7.out.trans (h.mono BW7.out.size))).2, (Cby_.out _ (BW8.out.trans (h.mono BW8.out.size))).1, (Cby_.out _ (BW8.out.trans (h.mono BW8.out.size))).2, (Cbc.out _ (BW11.out.trans (h.mono BW11.out.size))).1, (Cbc.out _ (BW11.out.trans (h.mono BW11.out.size))).2, (Cbd.out _ (BW11.out.trans (h.mono BW11.out.size))).1, (Cbd.out _ (BW11.out.trans (h.mono BW11.out.size))).2⟩))
  have CB := Lib.hid (fun (W : World) (h : Below W11.heap.size W11 W) => (show W.cell? ⟨bb, 0, none⟩ = some (.slice P2 m2 d2) ∧ W.cell? ⟨bb, 1, none⟩ = some (.int .i64 st2) from Cbb.out _ (BW6.out.trans (h.mono BW6.out.size))))
  have ST := Lib.hid (fun (W : World) (h : Below W11.heap.size W11 W) => RT.out _ (B1.out.trans (h.mono B1.out.size)))
  have SF := Lib.hid (fun (W : World) (h : Below W11.heap.size W11 W) => RF.out _ (Bw2.out.trans (h.mono Bw2.out.size)))
  have SM := Lib.hid (fun (W : World) (h : Below W11.heap.size W11 W) => RM.out _ (Bw3.out.trans (h.mono Bw3.out.size)))
  have SX := Lib.hid (fun (W : World) (h : Below W11.heap.size W11 W) => RX.out _ (Bw7.out.trans (h.mono Bw7.out.size)))
  have SY := Lib.hid (fun (W : World) (h : Below W11.heap.size W11 W) => RY.out _ (Bw8.out.trans (h.mono Bw8.out.size)))
  have SP := Lib.hid (fun (W : World) (h : Below W11.heap.size W11 W) => RP.out _ (B11.out.trans (h.mono B11.out.size)))
  have SQ := Lib.hid (fun (W : World) (h : Below W11.heap.size W11 W) => RQ.out _ (B11.out.trans (h.mono B11.out.size)))
  have SB := Lib.hid (fun (W : World) (h : Below W11.heap.size W11 W) => RB.out _ (B6.out.trans (h.mono B6.out.size)))
  have TB := Lib.hid (fun (W : World) (h : Below W11.heap.size W11 W) => dec.tab_below tab (B0.out.trans (h.mono B0.out.size)))
  obtain ⟨TX, TI, TS⟩ := text_any m Y st hmx
  have HT1 := Lib.hid (show (TX.toList == TX.toList) = true by simp)
  replace TI := Lib.hid TI
  replace TS := Lib.hid TS
  obtain ⟨v3, hv3⟩ : ∃ v3, (decide (st3 = su3) && sameL m3 n3 Y3 Z3) = v3 := ⟨_, rfl⟩
  obtain ⟨v5, hv5⟩ : ∃ v5, twB m Y st = v5 := ⟨_, rfl⟩
  have hlm : l.length ≤ maxLen := by unfold maxLen; omega
  have hRm : R ≤ maxLen := by unfold maxLen; omega
  have K1 := Lib.hid (fun (W : World) (h : Below W11.heap.size W11 W) => (textsT_c Af Am R cf cm T W hRm (SF.out W h) (SM.out W h)).mono fun e w' ⟨p, q⟩ => (show e = Ending.returned (Value.bool true) ∧ Below W.heap.size W w' from ⟨p, Drew.below q⟩))
  have K2 := Lib.hid (fun (W : World) (h : Below W11.heap.size W11 W) => (show Calls Tryd.prog 17 #[.agg #[.slice Ax l.length cx, .int .i64 su], .agg #[.slice Ay l.length cy, .int .i64 su]] W (fun e w' => e = .returned (.bool true) ∧ Below W.heap.size W w') from by have := sameTw_s Ax Ay l.length l.length cx cy (fun j => l.getD j 0) (fun j => l.getD j 0) su su W hlm hlm (SX.out W h) (SY.out W h); rw [sameTw_self] at this; exact this))
  have K3 := Lib.hid (fun (W : World) (h : Below W11.heap.size W11 W) => (show Calls Tryd.prog 18 #[.agg #[.slice P3 m3 d3, .int .i64 st3], .agg #[.slice Q3 n3 h3, .int .i64 su3]] W (fun e w' => e = .returned (.bool v3) ∧ Below W.heap.size W w') from by rw [← hv3]; exact sameTw_i P3 Q3 m3 n3 d3 h3 Y3 Z3 st3 su3 W hmx3 hnx3 (SP.out W h) (SQ.out W h)))
  have K4 := Lib.hid (fun (W : World) (h : Below W11.heap.size W11 W) => (show Calls Tryd.prog 17 #[.agg #[.slice P3 m3 d3, .int .i64 st3], .agg #[.slice Q3 n3 h3, .int .i64 su3]] W (fun e w' => e = .returned (.bool v3) ∧ Below W.heap.size W w') from by rw [← hv3]; exact sameTw_s P3 Q3 m3 n3 d3 h3 Y3 Z3 st3 su3 W hmx3 hnx3 (SP.out W h) (SQ.out W h)))
  have K5 := Lib.hid (fun (W : World) (h : Below W11.heap.size W11 W) => (show Calls Tryd.prog 19 #[.agg #[.slice P m d, .int .i64 st]] W (fun e w' => e = .returned (.bool v5) ∧ Below W.heap.size W w') from by rw [← hv5]; exact twval_i P m d Y st W hmx (ST.out W h)))
  have K6 := Lib.hid (fun (W : World) (h : Below W11.heap.size W11 W) => (show Calls Tryd.prog 20 #[.agg #[.slice P m d, .int .i64 st]] W (fun e w' => e = .returned (.bool v5) ∧ Below W.heap.size W w') from by rw [← hv5]; exact twval_s P m d Y st W hmx (ST.out W h)))
  have K7 := Lib.hid (fun (W : World) (h : Below W11.heap.size W11 W) => TI.out P d W (ST.out W h) (TB.out W h))
  have K8 := Lib.hid (fun (W : World) (h : Below W11.heap.size W11 W) => TS.out P d W (ST.out W h))
  have B0W := Lib.hid B0.out
  have HK4 := HBk
  clear FI FS RI RS LI LS BI BS TI TS RT RF RM RX RY RP RQ Cbt Cbx Cby_ Cbc Cbd Cbb Tbt Tbx Tby_ Tbc Tbd Tbb tab hv3 hv5 B0 B1 BW1 Bw2 Bw3 B6 BW6 Bw7 BW7 Bw8 BW8 B11 BW11 SF SY SP SQ TB
  have HV3 : (v3 != v3) = false := by cases v3 <;> rfl
  have HV5 : (v5 != v5) = false := by cases v5 <;> rfl
  have HT2 : (TX.toList != TX.toList) = false := by simp
  replace HT1 := HT1.out
  go_cut [171] from 99 to 171 (fun v wc => v = .bool false ∧ Below W11.heap.size W11 wc)
  case first =>
    as_aux_lemma =>
      dsimp only [List.append]
      have D0 := Lib.hid (show Below W11.heap.size W11 W11.drew from (Below.refl _ W11).drew)
      go_region_held3 (fun x => x.cell? ⟨bt, 0, none⟩ = some (.slice P m d) ∧ x.cell? ⟨bt, 1, none⟩ = some (.int .i64 st) ∧ x.cell? ⟨bx, 0, none⟩ = some (.slice Ax l.length cx) ∧ x.cell? ⟨bx, 1, none⟩ = some (.int .i64 su) ∧ x.cell? ⟨by_, 0, none⟩ = some (.slice Ay l.length cy) ∧ x.cell? ⟨by_, 1, none⟩ = some (.int .i64 su) ∧ x.cell? ⟨bc, 0, none⟩ = some (.slice P3 m3 d3) ∧ x.cell? ⟨bc, 1, none⟩ = some (.int .i64 st3) ∧ x.cell? ⟨bd, 0, none⟩ = some (.slice Q3 n3 h3) ∧ x.cell? ⟨bd, 1, none⟩ = some (.int .i64 su3)) (first | exact CELLS.out _ D0.out | exact CELLS.out _ D1.out | exact CELLS.out _ D2.out | exact CELLS.out _ D3.out | exact CELLS.out _ D4.out | exact CELLS.out _ D5.out | exact CELLS.out _ D6.out | exact CELLS.out _ D7.out | exact CELLS.out _ D8.out | go_keep)
        (first
          | (have _t := D0; go_at_call_of 16 (Value.slice Af R cf); refine (K1.out _ D0.out).mono ?_; rintro e v1 ⟨rfl, hb⟩; have D1 := Lib.hid (D0.out.trans (hb.mono D0.out.size)); clear hb D0)
          | (have _t := D1; go_at_call_of 17 (Value.agg #[.slice Ax l.length cx, .int .i64 su]); refine (K2.out _ D1.out).mono ?_; rintro e v2 ⟨rfl, hb⟩; have D2 := Lib.hid (D1.out.trans (hb.mono D1.out.size)); clear hb D1)
          | (have _t := D2; go_at_call_of 18 (Value.agg #[.slice P3 m3 d3, .int .i64 st3]); refine (K3.out _ D2.out).mono ?_; rintro e v3 ⟨rfl, hb⟩; have D3 := Lib.hid (D2.out.trans (hb.mono D2.out.size)); clear hb D2)
          | (have _t := D3; go_at_call_of 17 (Value.agg #[.slice P3 m3 d3, .int .i64 st3]); refine (K4.out _ D3.out).mono ?_; rintro e v4 ⟨rfl, hb⟩; have D4 := Lib.hid (D3.out.trans (hb.mono D3.out.size)); clear hb D3)
          | (have _t := D4; go_at_call_of 19 (Value.agg #[.slice P m d, .int .i64 st]); refine (K5.out _ D4.out).mono ?_; rintro e v5 ⟨rfl, hb⟩; have D5 := Lib.hid (D4.out.trans (hb.mono D4.out.size)); clear hb D4)
          | (have _t := D5; go_at_call_of 20 (Value.agg #[.slice P m d, .int .i64 st]); refine (K6.out _ D5.out).mono ?_; rintro e v6 ⟨rfl, hb⟩; have D6 := Lib.hid (D5.out.trans (hb.mono D5.out.size)); clear hb D5)
          | (have _t := D6; go_at_call_of 21 (Value.agg #[.slice P m d, .int .i64 st]); refine (K7.out _ D6.out).mono ?_; rintro e v7 ⟨rfl, hb⟩; have D7 := Lib.hid (D6.out.trans (hb.mono D6.out.size)); clear hb D6)
          | (have _t := D7; go_at_call_of 22 (Value.agg #[.slice P m d, .int .i64 st]); refine (K8.out _ D7.out).mono ?_; rintro e v8 ⟨rfl, hb⟩; have D8 := Lib.hid (D7.out.trans (hb.mono D7.out.size)); clear hb D7)
        )
      go_wp2_with fail
      go_meet
      case rel => exact ⟨rfl, D8.out⟩
  case rest =>
    rename World => w12
    obtain ⟨rfl, hD⟩ := hcut
    have D12 := Lib.hid hD
    clear hD K1 K2 K3 K4 K5 K6 K7 K8 HV3 HV5 HT1 HT2
    by_cases hk4 : k4 = 0
    rotate_left
    · as_aux_lemma =>
        have hk4' : (k4 == 0) = false := by simp [hk4]
        have BF := Lib.hid (B0W.out.trans (D12.out.mono B0W.out.size))
        by_cases hk1 : k1 = 0
        rotate_left
        · have hk1' : (k1 != 0) = true := by simp [hk1]
          go_wp2
          go_ret
          exact ⟨rfl, BF.out⟩
        subst hk1
        obtain ⟨t, S, rfl, TWt, rfl, S1, S40, rfl⟩ := HF.out rfl
        obtain ⟨P0, rfl, hPer, rfl⟩ := HRep.out TWt
        obtain rfl := HFlo.out TWt
        have ht1 := TWt.st1
        have hzr := row_size TWt
        have hw2 := TWt.wide2
        have hw1 := TWt.wide
        have hst2 := TWt.st2
        have hgc := around_gcd (P := P0) (t := t) (by omega)
        rw [hgc]
        have hpp := hPer.pos
        have hap := around_pos (P := P0) (t := t) hpp
        have hPle : P0 ≤ 40 := by have := hPer.le; omega
        have hale := around_le P0 t
        have hts : t ≤ (rowB Y m).size := by omega
        have h0s : 0 < (rowB Y m).size := by omega
        have HRUN := Lib.hid (fun r k => run_wide TWt t r k)
        have HFA := Lib.hid (fun (r k : Nat) (h : k < S) => (mkB_byte (faceU (rowB Y m) t r) h).trans (show _ = fa (rowB Y m) t r k from face_fa h0s))
        have HAL := Lib.hid (fun (r k : Nat) (h : P0 ≤ k) => fa_along hPer t r h)
        have HAR := Lib.hid (fun (r k : Nat) (h : around P0 t ≤ r) => fa_around hPer hts k h)
        generalize lrun (byteAt (rowB Y m)) (rowB Y m).size = WD at *
        generalize around P0 t = ar at *
        clear TWt hPer hzr hw2 hw1 hst2 hgc HF HRep HFlo hts h0s ht1 hap hpp hale
        have SMM := Lib.hid (SM.out _ D12.out)
        have hk1' : (0 : Int) = 0 := rfl
        clear hk1' SM CELLS CB ST SX SB RB D12 HSL
        go_wp2_with fail
        go_loopw [33] (fun s wr => ∃ r : Nat, r ≤ R ∧ s = .int .i64 r ∧ Drew w12 wr) (fun s _ => R - (intOf s).toNat)
        case atStart => exact ⟨0, by omega, rfl, Drew.refl _⟩
        case round =>
          obtain ⟨r, hr, rfl, hd⟩ := hrel
          have HDo := Lib.hid hd
          clear hd
          by_cases hlt : r < R
          · have hlt' : (r : Int) < (R : Int) := by omega
            have hr0 : (0 : Int) ≤ (r : Int) := by omega
            obtain ⟨g, rfl, hg, hX⟩ := SMM.out (by omega)
            have HX := Lib.hid hX
            clear hX
            rename World => wo
            go_wp2_with fail
            go_loopw [34, 35] (fun x y wr => ∃ k : Nat, k ≤ S ∧ y = .int .i64 k ∧ x = .int .i64 (runK (rowB Y m) t r k : Nat) ∧ Drew wo wr) (fun _ y _ => S - (intOf y).toNat)
            case atStart => exact ⟨0, by omega, rfl, rfl, Drew.refl _⟩
            case round =>
              obtain ⟨k, hk, rfl, rfl, hd⟩ := hrel
              have HD := Lib.hid hd
              clear hd
              have pr := HD.out.cell (HDo.out.cell (HX.out r hlt))
              have hsz : (faceT (rowB Y m) t S r).size = S := mkB_size _ _
              have HAT := Lib.hid (fun i (h : i < S) => show byteAt (faceT (rowB Y m) t S r) i = fa (rowB Y m) t r i from HFA.out r i h)
              by_cases hks : k < S
              · have hks' : (k : Int) < (S : Int) := by omega
                have hk0 : (0 : Int) ≤ (k : Int) := by omega
                go_wp2_with fail
                go_upto_region 30 with fail
                go_cut [253] from 212 to 253 (fun v wx => v = .bool false ∧ Drew wr wx)
                case first =>
                  generalize faceT (rowB Y m) t S r = Tr at *
                  have x1 : k < Tr.size := by omega
                  have x4 : (k : Int) < (Tr.size : Int) := by omega
                  rcases Nat.lt_or_ge k P0 with hA | hA <;> rcases Nat.lt_or_ge r ar with hB | hB
                  · have gA : decide ((P0 : Int) ≤ (k : Int)) = false := decide_eq_false (by omega)
                    have gA2 : decide (P0 ≤ k) = false := decide_eq_false (by omega)
                    have gB : decide ((ar : Int) ≤ (r : Int)) = false := decide_eq_false (by omega)
                    have gB2 : decide (ar ≤ r) = false := decide_eq_false (by omega)
                    clear HAT hA hB
                    go_wp2_with fail
                    go_quiet (fail)
                    go_wp2_with fail
                    go_meet
                    case rel => exact ⟨rfl, (Drew.refl _).drewN _⟩
                  · have gA : decide ((P0 : Int) ≤ (k : Int)) = false := decide_eq_false (by omega)
                    have gA2 : decide (P0 ≤ k) = false := decide_eq_false (by omega)
                    obtain ⟨q, hq⟩ : ∃ q, r = q + ar := ⟨r - ar, by omega⟩
                    have gB : decide ((ar : Int) ≤ (r : Int)) = true := decide_eq_true (by omega)
                    have gB2 : decide (ar ≤ r) = true := decide_eq_true (by omega)
                    have e4 : IntKind.i64.wrap ((r : Int) - (ar : Int)) = (q : Int) := by rw [IntKind.wrap_i64]; omega
                    have q0 : (0 : Int) ≤ (q : Int) := by omega
                    have q1 : (q : Int) < (R : Int) := by omega
                    have pq := HD.out.cell (HDo.out.cell (HX.out q (by omega)))
                    have hsq : (faceT (rowB Y m) t S q).size = S := mkB_size _ _
                    have HAQ := Lib.hid (fun i (h : i < S) => show byteAt (faceT (rowB Y m) t S q) i = fa (rowB Y m) t q i from HFA.out q i h)
                    generalize faceT (rowB Y m) t S q = Tq at *
                    have x2 : k < Tq.size := by omega
                    have x3 : (k : Int) < (Tq.size : Int) := by omega
                    have eB : ((((Tr[k]'x1).toNat : Nat) : Int) != (((Tq[k]'x2).toNat : Nat) : Int)) = false := by
                      rw [← byteAt_eq x1, ← byteAt_eq x2, HAT.out k hks, HAQ.out k hks, HAR.out r k hB, show r - ar = q by omega]
                      simp
                    clear hq HAQ
                    clear HAT hA hB
                    go_wp2_with fail
                    go_quiet (fail)
                    go_wp2_with fail
                    go_meet
                    case rel => exact ⟨rfl, (Drew.refl _).drewN _⟩
                  · obtain ⟨j, hj⟩ : ∃ j, k = j + P0 := ⟨k - P0, by omega⟩
                    have gA : decide ((P0 : Int) ≤ (k : Int)) = true := decide_eq_true (by omega)
                    have gA2 : decide (P0 ≤ k) = true := decide_eq_true (by omega)
                    have e3 : IntKind.i64.wrap ((k : Int) - (P0 : Int)) = (j : Int) := by rw [IntKind.wrap_i64]; omega
                    have j0 : (0 : Int) ≤ (j : Int) := by omega
                    have j1 : j < Tr.size := by omega
                    have j3 : j < S := by omega
                    have j4 : (j : Int) < (S : Int) := by omega
                    have j2 : (j : Int) < (Tr.size : Int) := by omega
                    have eA : ((((Tr[k]'x1).toNat : Nat) : Int) != (((Tr[j]'j1).toNat : Nat) : Int)) = false := by
                      rw [← byteAt_eq x1, ← byteAt_eq j1, HAT.out k hks, HAT.out j (by omega), HAL.out r k hA, show k - P0 = j by omega]
                      simp
                    clear hj
                    have gB : decide ((ar : Int) ≤ (r : Int)) = false := decide_eq_false (by omega)
                    have gB2 : decide (ar ≤ r) = false := decide_eq_false (by omega)
                    clear HAT hA hB
                    go_wp2_with fail
                    go_quiet (fail)
                    go_wp2_with fail
                    go_meet
                    case rel => exact ⟨rfl, (Drew.refl _).drewN _⟩
                  · obtain ⟨j, hj⟩ : ∃ j, k = j + P0 := ⟨k - P0, by omega⟩
                    have gA : decide ((P0 : Int) ≤ (k : Int)) = true := decide_eq_true (by omega)
                    have gA2 : decide (P0 ≤ k) = true := decide_eq_true (by omega)
                    have e3 : IntKind.i64.wrap ((k : Int) - (P0 : Int)) = (j : Int) := by rw [IntKind.wrap_i64]; omega
                    have j0 : (0 : Int) ≤ (j : Int) := by omega
                    have j1 : j < Tr.size := by omega
                    have j3 : j < S := by omega
                    have j4 : (j : Int) < (S : Int) := by omega
                    have j2 : (j : Int) < (Tr.size : Int) := by omega
                    have eA : ((((Tr[k]'x1).toNat : Nat) : Int) != (((Tr[j]'j1).toNat : Nat) : Int)) = false := by
                      rw [← byteAt_eq x1, ← byteAt_eq j1, HAT.out k hks, HAT.out j (by omega), HAL.out r k hA, show k - P0 = j by omega]
                      simp
                    clear hj
                    obtain ⟨q, hq⟩ : ∃ q, r = q + ar := ⟨r - ar, by omega⟩
                    have gB : decide ((ar : Int) ≤ (r : Int)) = true := decide_eq_true (by omega)
                    have gB2 : decide (ar ≤ r) = true := decide_eq_true (by omega)
                    have e4 : IntKind.i64.wrap ((r : Int) - (ar : Int)) = (q : Int) := by rw [IntKind.wrap_i64]; omega
                    have q0 : (0 : Int) ≤ (q : Int) := by omega
                    have q1 : (q : Int) < (R : Int) := by omega
                    have pq := HD.out.cell (HDo.out.cell (HX.out q (by omega)))
                    have hsq : (faceT (rowB Y m) t S q).size = S := mkB_size _ _
                    have HAQ := Lib.hid (fun i (h : i < S) => show byteAt (faceT (rowB Y m) t S q) i = fa (rowB Y m) t q i from HFA.out q i h)
                    generalize faceT (rowB Y m) t S q = Tq at *
                    have x2 : k < Tq.size := by omega
                    have x3 : (k : Int) < (Tq.size : Int) := by omega
                    have eB : ((((Tr[k]'x1).toNat : Nat) : Int) != (((Tq[k]'x2).toNat : Nat) : Int)) = false := by
                      rw [← byteAt_eq x1, ← byteAt_eq x2, HAT.out k hks, HAQ.out k hks, HAR.out r k hB, show r - ar = q by omega]
                      simp
                    clear hq HAQ
                    clear HAT hA hB
                    go_wp2_with fail
                    go_quiet (fail)
                    go_wp2_with fail
                    go_meet
                    case rel => exact ⟨rfl, (Drew.refl _).drewN _⟩
                case rest =>
                  rename World => w5
                  obtain ⟨rfl, hd5⟩ := hcut
                  have HD5 := Lib.hid (show Drew wo w5 from by obtain ⟨m5, rfl⟩ := hd5; exact HD.out.drewN m5)
                  clear hd5 pr
                  have pr := HD5.out.cell (HDo.out.cell (HX.out r hlt))
                  obtain ⟨nb, hnb⟩ : ∃ nb : Bool, nb = decide (0 < k ∧ ¬ fa (rowB Y m) t r k = fa (rowB Y m) t r (k - 1)) := ⟨_, rfl⟩
                  have HNB := Lib.hid hnb
                  clear hnb
                  go_wp2_with fail
                  go_upto_region 32 with fail
                  go_cut [271] from 254 to 271 (fun v wx => v = .bool nb ∧ Drew w5 wx)
                  case first =>
                    generalize faceT (rowB Y m) t S r = Tr at *
                    have x1 : k < Tr.size := by omega
                    have x4 : (k : Int) < (Tr.size : Int) := by omega
                    rcases Nat.eq_zero_or_pos k with hz | hz
                    · have gK : decide ((0 : Int) < (k : Int)) = false := decide_eq_false (by omega)
                      have gK2 : decide (0 < k) = false := decide_eq_false (by omega)
                      obtain rfl : nb = false := by rw [HNB.out]; exact decide_eq_false (by omega)
                      clear hz HAT
                      go_wp2_with fail
                      go_quiet (fail)
                      go_wp2_with fail
                      go_meet
                      case rel => exact ⟨rfl, (Drew.refl _).drewN _⟩
                    · obtain ⟨j, hj⟩ : ∃ j, k = j + 1 := ⟨k - 1, by omega⟩
                      have gK : decide ((0 : Int) < (k : Int)) = true := decide_eq_true (by omega)
                      have gK2 : decide (0 < k) = true := decide_eq_true (by omega)
                      have e3 : IntKind.i64.wrap ((k : Int) - 1) = (j : Int) := by rw [IntKind.wrap_i64]; omega
                      have j0 : (0 : Int) ≤ (j : Int) := by omega
                      have j1 : j < Tr.size := by omega
                      have j3 : j < S := by omega
                      have j4 : (j : Int) < (S : Int) := by omega
                      have j2 : (j : Int) < (Tr.size : Int) := by omega
                      have eA : ((((Tr[k]'x1).toNat : Nat) : Int) != (((Tr[j]'j1).toNat : Nat) : Int)) = nb := by
                        rw [← byteAt_eq x1, ← byteAt_eq j1, HAT.out k hks, HAT.out j (by omega), HNB.out, show k - 1 = j by omega]
                        by_cases he : fa (rowB Y m) t r k = fa (rowB Y m) t r j
                        · rw [he]; simp
                        · simp [he, hz]
                      clear hj hz HAT HNB
                      go_wp2_with fail
                      go_quiet (fail)
                      go_wp2_with fail
                      go_meet
                      case rel => exact ⟨rfl, (Drew.refl _).drewN _⟩
                  case rest =>
                    rename World => w6
                    obtain ⟨rfl, hd6⟩ := hcut
                    have HD6 := Lib.hid (show Drew wo w6 from by obtain ⟨m6, rfl⟩ := hd6; exact HD5.out.drewN m6)
                    clear hd6 pr
                    have hrk := runK_le (rowB Y m) t r k
                    have hru := HRUN.out r k
                    have HRN := Lib.hid (runK_next (s := rowB Y m) (t := t) (r := r) HNB.out)
                    generalize hRK : runK (rowB Y m) t r k = rk at *
                    cases nb
                    · have hrn : runK (rowB Y m) t r (k + 1) = rk + 1 := HRN.out
                      have hru' : ¬ ((WD : Nat) : Int) < ((rk : Nat) : Int) + 1 := by omega
                      have HRM := Lib.hid hrn
                      clear HAT HNB HRN hrn hru hRK
                      go_wp2
                      go_roundw
                      case rel => exact ⟨k + 1, by omega, by go_num, by rw [HRM.out]; go_num, HD6.out⟩
                      case measure => simp [intOf]; omega
                    · have hrn : runK (rowB Y m) t r (k + 1) = 1 := HRN.out
                      have hru' : ¬ ((WD : Nat) : Int) < 1 := by omega
                      have HRM := Lib.hid hrn
                      clear HAT HNB HRN hrn hru hRK
                      go_wp2
                      go_roundw
                      case rel => exact ⟨k + 1, by omega, by go_num, by rw [HRM.out]; go_num, HD6.out⟩
                      case measure => simp [intOf]; omega
              · obtain rfl : k = S := by omega
                have HDE := Lib.hid (show Drew w12 wr from by obtain ⟨ma, hma⟩ := HDo.out; subst hma; obtain ⟨mb, hmb⟩ := HD.out; subst hmb; exact ((Drew.refl _).drewN _).drewN _)
                clear HAT
                go_wp2
                go_roundw
                case rel => exact ⟨r + 1, by omega, by go_num, HDE.out⟩
                case measure => simp [intOf]; omega
          · obtain rfl : r = R := by omega
            have BE := Lib.hid (show Below w'.heap.size w' wr from by obtain ⟨mm, rfl⟩ := HDo.out; exact drewN_below BF.out mm)
            go_wp2
            go_ret
            exact ⟨rfl, BE.out⟩
    · as_aux_lemma =>
        subst hk4
        obtain ⟨TW2, hl, hsu⟩ := HBk.out rfl
        obtain ⟨TWX, hov, hst⟩ := again_face (m := l.length) (Z := fun j => l.getD j 0) TW2 hl hsu rfl (fun _ _ => rfl)
        have BK := Lib.hid (back_i Ax l.length cx (fun j => l.getD j 0) su w12 (SX.out _ D12.out) TWX.b)
        rw [hov, hst] at BK
        obtain ⟨l3, hl3⟩ : ∃ l3, (List.range m2).map Y2 = l3 := ⟨_, rfl⟩
        rw [hl3] at BK
        have hl3n : l3.length = m2 := by rw [← hl3]; simp
        have HZ := Lib.hid (fun j (hj : j < m2) => (show Y2 j = l3.getD j 0 from by rw [← hl3]; simp [List.getD, List.getElem?_map, List.getElem?_range hj]))
        have TWZ := TW2.congr HZ.out
        have hzz2 := row_size TW2
        have hzw2 := TW2.wide2
        obtain ⟨pp, hpp⟩ := Per.ex (s := rowB Y2 m2) (by omega)
        have HTW := Lib.hid (And.intro TW2 TWZ)
        have HPP := Lib.hid hpp
        have HL3 := Lib.hid hl3n
        obtain ⟨q0, q1, q2, q3, q4, q5, q6, q7, q8, q9⟩ := CELLS.out _ D12.out
        clear q0 q1 q4 q5 q6 q7 q8 q9 hl hsu hov hst TWX TW2 TWZ hzz2 hzw2 hpp hl3 hl3n
        go_wp2_with fail
        clear q2 q3
        refine BK.out.mono ?_
        rintro e w13 ⟨Az, cz, rfl, kz, mz, rowZ, hb13⟩
        have D13 := Lib.hid (D12.out.trans (hb13.mono D12.out.size))
        have RZ := Lib.hid (fun (W : World) (h : Below w13.heap.size w13 W) => rowZ.sl.below h (Nat.le_refl _))
        clear rowZ hb13 BK
        obtain ⟨W13, hW13⟩ : ∃ W13, W13 = w13.alloc (.cells #[.slice Az l3.length cz, .int .i64 st2] 26) := ⟨_, rfl⟩
        obtain ⟨bz, hbz⟩ : ∃ bz, bz = w13.heap.size := ⟨_, rfl⟩
        have g13 : Below w13.heap.size w13 W13 := by rw [hW13]; go_grown
        have Tz := Lib.hid (show TwBlk W13 bz (.slice Az l3.length cz) st2 from by rw [hW13, hbz]; exact Go.Deep.blk_alloc_new _ _)
        have D14 := Lib.hid (D13.out.trans (g13.mono D13.out.size))
        have z0 := Tz.out.cell0
        have z1 := Tz.out.cell1
        obtain ⟨c0, c1⟩ := CB.out _ D14.out
        have SZ := Lib.hid (RZ.out _ g13)
        go_upto_region 18 with fail
        rw [← hW13, ← hbz]
        clear hW13 hbz g13 RZ D13
        go_wp2_with fail
        clear z0 z1 c0 c1
        have FC := face_i Az P2 l3.length m2 cz d2 (fun j => l3.getD j 0) Y2 st2 st2 W13 pp pp SZ.out (SB.out _ D14.out) (by rw [HL3.out]; exact HTW.out.2.b) HTW.out.1.b (by rw [HL3.out, ← rowB_congr HZ.out]; exact HPP.out) HPP.out
        rw [show faceB (rowB (fun j => l3.getD j 0) l3.length) (rowB Y2 m2) pp pp st2 st2 = true from by rw [HL3.out, ← rowB_congr HZ.out]; exact face_self HPP.out.pos HPP.out.le] at FC
        have FCC := Lib.hid FC
        clear FC
        refine FCC.out.mono ?_
        rintro e w15 ⟨rfl, hb15⟩
        have D15 := Lib.hid (D14.out.trans (hb15.mono D14.out.size))
        clear hb15 FCC SZ HTW HPP HL3 HZ D14 Tz
        have BF := Lib.hid (B0W.out.trans (D15.out.mono B0W.out.size))
        by_cases hk1 : k1 = 0
        rotate_left
        · have hk1' : (k1 != 0) = true := by simp [hk1]
          go_wp2
          go_ret
          exact ⟨rfl, BF.out⟩
        subst hk1
        obtain ⟨t, S, rfl, TWt, rfl, S1, S40, rfl⟩ := HF.out rfl
        obtain ⟨P0, rfl, hPer, rfl⟩ := HRep.out TWt
        obtain rfl := HFlo.out TWt
        have ht1 := TWt.st1
        have hzr := row_size TWt
        have hw2 := TWt.wide2
        have hw1 := TWt.wide
        have hst2 := TWt.st2
        have hgc := around_gcd (P := P0) (t := t) (by omega)
        rw [hgc]
        have hpp := hPer.pos
        have hap := around_pos (P := P0) (t := t) hpp
        have hPle : P0 ≤ 40 := by have := hPer.le; omega
        have hale := around_le P0 t
        have hts : t ≤ (rowB Y m).size := by omega
        have h0s : 0 < (rowB Y m).size := by omega
        have HRUN := Lib.hid (fun r k => run_wide TWt t r k)
        have HFA := Lib.hid (fun (r k : Nat) (h : k < S) => (mkB_byte (faceU (rowB Y m) t r) h).trans (show _ = fa (rowB Y m) t r k from face_fa h0s))
        have HAL := Lib.hid (fun (r k : Nat) (h : P0 ≤ k) => fa_along hPer t r h)
        have HAR := Lib.hid (fun (r k : Nat) (h : around P0 t ≤ r) => fa_around hPer hts k h)
        generalize lrun (byteAt (rowB Y m)) (rowB Y m).size = WD at *
        generalize around P0 t = ar at *
        clear TWt hPer hzr hw2 hw1 hst2 hgc HF HRep HFlo hts h0s ht1 hap hpp hale
        have SMM := Lib.hid (SM.out _ D15.out)
        have hk1' : (0 : Int) = 0 := rfl
        clear hk1' SM CELLS CB ST SX SB RB D15 HSL
        go_wp2_with fail
        go_loopw [33] (fun s wr => ∃ r : Nat, r ≤ R ∧ s = .int .i64 r ∧ Drew w15 wr) (fun s _ => R - (intOf s).toNat)
        case atStart => exact ⟨0, by omega, rfl, Drew.refl _⟩
        case round =>
          obtain ⟨r, hr, rfl, hd⟩ := hrel
          have HDo := Lib.hid hd
          clear hd
          by_cases hlt : r < R
          · have hlt' : (r : Int) < (R : Int) := by omega
            have hr0 : (0 : Int) ≤ (r : Int) := by omega
            obtain ⟨g, rfl, hg, hX⟩ := SMM.out (by omega)
            have HX := Lib.hid hX
            clear hX
            rename World => wo
            go_wp2_with fail
            go_loopw [34, 35] (fun x y wr => ∃ k : Nat, k ≤ S ∧ y = .int .i64 k ∧ x = .int .i64 (runK (rowB Y m) t r k : Nat) ∧ Drew wo wr) (fun _ y _ => S - (intOf y).toNat)
            case atStart => exact ⟨0, by omega, rfl, rfl, Drew.refl _⟩
            case round =>
              obtain ⟨k, hk, rfl, rfl, hd⟩ := hrel
              have HD := Lib.hid hd
              clear hd
              have pr := HD.out.cell (HDo.out.cell (HX.out r hlt))
              have hsz : (faceT (rowB Y m) t S r).size = S := mkB_size _ _
              have HAT := Lib.hid (fun i (h : i < S) => show byteAt (faceT (rowB Y m) t S r) i = fa (rowB Y m) t r i from HFA.out r i h)
              by_cases hks : k < S
              · have hks' : (k : Int) < (S : Int) := by omega
                have hk0 : (0 : Int) ≤ (k : Int) := by omega
                go_wp2_with fail
                go_upto_region 30 with fail
                go_cut [253] from 212 to 253 (fun v wx => v = .bool false ∧ Drew wr wx)
                case first =>
                  generalize faceT (rowB Y m) t S r = Tr at *
                  have x1 : k < Tr.size := by omega
                  have x4 : (k : Int) < (Tr.size : Int) := by omega
                  rcases Nat.lt_or_ge k P0 with hA | hA <;> rcases Nat.lt_or_ge r ar with hB | hB
                  · have gA : decide ((P0 : Int) ≤ (k : Int)) = false := decide_eq_false (by omega)
                    have gA2 : decide (P0 ≤ k) = false := decide_eq_false (by omega)
                    have gB : decide ((ar : Int) ≤ (r : Int)) = false := decide_eq_false (by omega)
                    have gB2 : decide (ar ≤ r) = false := decide_eq_false (by omega)
                    clear HAT hA hB
                    go_wp2_with fail
                    go_quiet (fail)
                    go_wp2_with fail
                    go_meet
                    case rel => exact ⟨rfl, (Drew.refl _).drewN _⟩
                  · have gA : decide ((P0 : Int) ≤ (k : Int)) = false := decide_eq_false (by omega)
                    have gA2 : decide (P0 ≤ k) = false := decide_eq_false (by omega)
                    obtain ⟨q, hq⟩ : ∃ q, r = q + ar := ⟨r - ar, by omega⟩
                    have gB : decide ((ar : Int) ≤ (r : Int)) = true := decide_eq_true (by omega)
                    have gB2 : decide (ar ≤ r) = true := decide_eq_true (by omega)
                    have e4 : IntKind.i64.wrap ((r : Int) - (ar : Int)) = (q : Int) := by rw [IntKind.wrap_i64]; omega
                    have q0 : (0 : Int) ≤ (q : Int) := by omega
                    have q1 : (q : Int) < (R : Int) := by omega
                    have pq := HD.out.cell (HDo.out.cell (HX.out q (by omega)))
                    have hsq : (faceT (rowB Y m) t S q).size = S := mkB_size _ _
                    have HAQ := Lib.hid (fun i (h : i < S) => show byteAt (faceT (rowB Y m) t S q) i = fa (rowB Y m) t q i from HFA.out q i h)
                    generalize faceT (rowB Y m) t S q = Tq at *
                    have x2 : k < Tq.size := by omega
                    have x3 : (k : Int) < (Tq.size : Int) := by omega
                    have eB : ((((Tr[k]'x1).toNat : Nat) : Int) != (((Tq[k]'x2).toNat : Nat) : Int)) = false := by
                      rw [← byteAt_eq x1, ← byteAt_eq x2, HAT.out k hks, HAQ.out k hks, HAR.out r k hB, show r - ar = q by omega]
                      simp
                    clear hq HAQ
                    clear HAT hA hB
                    go_wp2_with fail
                    go_quiet (fail)
                    go_wp2_with fail
                    go_meet
                    case rel => exact ⟨rfl, (Drew.refl _).drewN _⟩
                  · obtain ⟨j, hj⟩ : ∃ j, k = j + P0 := ⟨k - P0, by omega⟩
                    have gA : decide ((P0 : Int) ≤ (k : Int)) = true := decide_eq_true (by omega)
                    have gA2 : decide (P0 ≤ k) = true := decide_eq_true (by omega)
                    have e3 : IntKind.i64.wrap ((k : Int) - (P0 : Int)) = (j : Int) := by rw [IntKind.wrap_i64]; omega
                    have j0 : (0 : Int) ≤ (j : Int) := by omega
                    have j1 : j < Tr.size := by omega
                    have j3 : j < S := by omega
                    have j4 : (j : Int) < (S : Int) := by omega
                    have j2 : (j : Int) < (Tr.size : Int) := by omega
                    have eA : ((((Tr[k]'x1).toNat : Nat) : Int) != (((Tr[j]'j1).toNat : Nat) : Int)) = false := by
                      rw [← byteAt_eq x1, ← byteAt_eq j1, HAT.out k hks, HAT.out j (by omega), HAL.out r k hA, show k - P0 = j by omega]
                      simp
                    clear hj
                    have gB : decide ((ar : Int) ≤ (r : Int)) = false := decide_eq_false (by omega)
                    have gB2 : decide (ar ≤ r) = false := decide_eq_false (by omega)
                    clear HAT hA hB
                    go_wp2_with fail
                    go_quiet (fail)
                    go_wp2_with fail
                    go_meet
                    case rel => exact ⟨rfl, (Drew.refl _).drewN _⟩
                  · obtain ⟨j, hj⟩ : ∃ j, k = j + P0 := ⟨k - P0, by omega⟩
                    have gA : decide ((P0 : Int) ≤ (k : Int)) = true := decide_eq_true (by omega)
                    have gA2 : decide (P0 ≤ k) = true := decide_eq_true (by omega)
                    have e3 : IntKind.i64.wrap ((k : Int) - (P0 : Int)) = (j : Int) := by rw [IntKind.wrap_i64]; omega
                    have j0 : (0 : Int) ≤ (j : Int) := by omega
                    have j1 : j < Tr.size := by omega
                    have j3 : j < S := by omega
                    have j4 : (j : Int) < (S : Int) := by omega
                    have j2 : (j : Int) < (Tr.size : Int) := by omega
                    have eA : ((((Tr[k]'x1).toNat : Nat) : Int) != (((Tr[j]'j1).toNat : Nat) : Int)) = false := by
                      rw [← byteAt_eq x1, ← byteAt_eq j1, HAT.out k hks, HAT.out j (by omega), HAL.out r k hA, show k - P0 = j by omega]
                      simp
                    clear hj
                    obtain ⟨q, hq⟩ : ∃ q, r = q + ar := ⟨r - ar, by omega⟩
                    have gB : decide ((ar : Int) ≤ (r : Int)) = true := decide_eq_true (by omega)
                    have gB2 : decide (ar ≤ r) = true := decide_eq_true (by omega)
                    have e4 : IntKind.i64.wrap ((r : Int) - (ar : Int)) = (q : Int) := by rw [IntKind.wrap_i64]; omega
                    have q0 : (0 : Int) ≤ (q : Int) := by omega
                    have q1 : (q : Int) < (R : Int) := by omega
                    have pq := HD.out.cell (HDo.out.cell (HX.out q (by omega)))
                    have hsq : (faceT (rowB Y m) t S q).size = S := mkB_size _ _
                    have HAQ := Lib.hid (fun i (h : i < S) => show byteAt (faceT (rowB Y m) t S q) i = fa (rowB Y m) t q i from HFA.out q i h)
                    generalize faceT (rowB Y m) t S q = Tq at *
                    have x2 : k < Tq.size := by omega
                    have x3 : (k : Int) < (Tq.size : Int) := by omega
                    have eB : ((((Tr[k]'x1).toNat : Nat) : Int) != (((Tq[k]'x2).toNat : Nat) : Int)) = false := by
                      rw [← byteAt_eq x1, ← byteAt_eq x2, HAT.out k hks, HAQ.out k hks, HAR.out r k hB, show r - ar = q by omega]
                      simp
                    clear hq HAQ
                    clear HAT hA hB
                    go_wp2_with fail
                    go_quiet (fail)
                    go_wp2_with fail
                    go_meet
                    case rel => exact ⟨rfl, (Drew.refl _).drewN _⟩
                case rest =>
                  rename World => w5
                  obtain ⟨rfl, hd5⟩ := hcut
                  have HD5 := Lib.hid (show Drew wo w5 from by obtain ⟨m5, rfl⟩ := hd5; exact HD.out.drewN m5)
                  clear hd5 pr
                  have pr := HD5.out.cell (HDo.out.cell (HX.out r hlt))
                  obtain ⟨nb, hnb⟩ : ∃ nb : Bool, nb = decide (0 < k ∧ ¬ fa (rowB Y m) t r k = fa (rowB Y m) t r (k - 1)) := ⟨_, rfl⟩
                  have HNB := Lib.hid hnb
                  clear hnb
                  go_wp2_with fail
                  go_upto_region 32 with fail
                  go_cut [271] from 254 to 271 (fun v wx => v = .bool nb ∧ Drew w5 wx)
                  case first =>
                    generalize faceT (rowB Y m) t S r = Tr at *
                    have x1 : k < Tr.size := by omega
                    have x4 : (k : Int) < (Tr.size : Int) := by omega
                    rcases Nat.eq_zero_or_pos k with hz | hz
                    · have gK : decide ((0 : Int) < (k : Int)) = false := decide_eq_false (by omega)
                      have gK2 : decide (0 < k) = false := decide_eq_false (by omega)
                      obtain rfl : nb = false := by rw [HNB.out]; exact decide_eq_false (by omega)
                      clear hz HAT
                      go_wp2_with fail
                      go_quiet (fail)
                      go_wp2_with fail
                      go_meet
                      case rel => exact ⟨rfl, (Drew.refl _).drewN _⟩
                    · obtain ⟨j, hj⟩ : ∃ j, k = j + 1 := ⟨k - 1, by omega⟩
                      have gK : decide ((0 : Int) < (k : Int)) = true := decide_eq_true (by omega)
                      have gK2 : decide (0 < k) = true := decide_eq_true (by omega)
                      have e3 : IntKind.i64.wrap ((k : Int) - 1) = (j : Int) := by rw [IntKind.wrap_i64]; omega
                      have j0 : (0 : Int) ≤ (j : Int) := by omega
                      have j1 : j < Tr.size := by omega
                      have j3 : j < S := by omega
                      have j4 : (j : Int) < (S : Int) := by omega
                      have j2 : (j : Int) < (Tr.size : Int) := by omega
                      have eA : ((((Tr[k]'x1).toNat : Nat) : Int) != (((Tr[j]'j1).toNat : Nat) : Int)) = nb := by
                        rw [← byteAt_eq x1, ← byteAt_eq j1, HAT.out k hks, HAT.out j (by omega), HNB.out, show k - 1 = j by omega]
                        by_cases he : fa (rowB Y m) t r k = fa (rowB Y m) t r j
                        · rw [he]; simp
                        · simp [he, hz]
                      clear hj hz HAT HNB
                      go_wp2_with fail
                      go_quiet (fail)
                      go_wp2_with fail
                      go_meet
                      case rel => exact ⟨rfl, (Drew.refl _).drewN _⟩
                  case rest =>
                    rename World => w6
                    obtain ⟨rfl, hd6⟩ := hcut
                    have HD6 := Lib.hid (show Drew wo w6 from by obtain ⟨m6, rfl⟩ := hd6; exact HD5.out.drewN m6)
                    clear hd6 pr
                    have hrk := runK_le (rowB Y m) t r k
                    have hru := HRUN.out r k
                    have HRN := Lib.hid (runK_next (s := rowB Y m) (t := t) (r := r) HNB.out)
                    generalize hRK : runK (rowB Y m) t r k = rk at *
                    cases nb
                    · have hrn : runK (rowB Y m) t r (k + 1) = rk + 1 := HRN.out
                      have hru' : ¬ ((WD : Nat) : Int) < ((rk : Nat) : Int) + 1 := by omega
                      have HRM := Lib.hid hrn
                      clear HAT HNB HRN hrn hru hRK
                      go_wp2
                      go_roundw
                      case rel => exact ⟨k + 1, by omega, by go_num, by rw [HRM.out]; go_num, HD6.out⟩
                      case measure => simp [intOf]; omega
                    · have hrn : runK (rowB Y m) t r (k + 1) = 1 := HRN.out
                      have hru' : ¬ ((WD : Nat) : Int) < 1 := by omega
                      have HRM := Lib.hid hrn
                      clear HAT HNB HRN hrn hru hRK
                      go_wp2
                      go_roundw
                      case rel => exact ⟨k + 1, by omega, by go_num, by rw [HRM.out]; go_num, HD6.out⟩
                      case measure => simp [intOf]; omega
              · obtain rfl : k = S := by omega
                have HDE := Lib.hid (show Drew w15 wr from by obtain ⟨ma, hma⟩ := HDo.out; subst hma; obtain ⟨mb, hmb⟩ := HD.out; subst hmb; exact ((Drew.refl _).drewN _).drewN _)
                clear HAT
                go_wp2
                go_roundw
                case rel => exact ⟨r + 1, by omega, by go_num, HDE.out⟩
                case measure => simp [intOf]; omega
          · obtain rfl : r = R := by omega
            have BE := Lib.hid (show Below w'.heap.size w' wr from by obtain ⟨mm, rfl⟩ := HDo.out; exact drewN_below BF.out mm)
            go_wp2
            go_ret
            exact ⟨rfl, BE.out⟩

end Go.Proofs.YtopiecbldnhihaaDoor.twl
