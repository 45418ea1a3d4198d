/-
  The program's reading of a rod.
-/
import Derived.Test.YtobohjfenjeckabDoorReadS
import Derived.Lib.CutLaws
namespace Go.Proofs.YtobohjfenjeckabDoor.num
open Go.ChangeShapes Go.WideShapes Go.ChangeAt Go.RowKit
open Go.Proofs.YtobohjfenjeckabDoor.mem Go.Proofs.YtobohjfenjeckabDoor.dec Go.Proofs.YtobohjfenjeckabDoor.split Go.Proofs.YtobohjfenjeckabDoor.rod
set_option linter.unusedVariables false

/-- the library's variable MaxLen holds a whole number -/
def MaxAt (w : World) : Prop := ∃ m, w.cell? ⟨0, 0, none⟩ = some (.int .i64 m)
theorem maxAt_below {w w' : World} (h : MaxAt w) (hb : Below w.heap.size w w') : MaxAt w' := by
  obtain ⟨m, hm⟩ := h
  refine ⟨m, (hb.cell (p := ⟨_, 0, none⟩) ?_).trans hm⟩
  exact Lib.lt_of_cell hm
theorem cut_c (s sep X Y : ByteArray) (f : Bool) (hs : s.size ≤ 1048576) (hX : Lib.cut s.data.toList sep.data.toList = (X.data.toList, Y.data.toList, f)) (w : World) (hm : MaxAt w) :
    Calls Tryd.prog 29 #[.string s, .string sep] w fun e w' => e = .returned (.tuple #[.string X, .string Y, .bool f]) ∧ Below w.heap.size w w' := by
  obtain ⟨m, hm⟩ := hm
  refine (Any.strings_Cut { Tryd.laysM145 with } s sep m w (by omega) hm).mono ?_
  rintro e w' ⟨rfl, n, rfl⟩
  refine ⟨?_, drewN_below (Below.refl _ _) n⟩
  rw [hX]
theorem read_p (R : ByteArray) (n : Int) (b : Bool) (hp : R.size ≤ 1048576) (ha : ans R.data.toList = (n, b)) (w : World) (ht : Tab w) (he : Errs w) :
    Calls Tryd.prog 30 #[.string R] w fun e w' => e = .returned (.tuple #[.int .i64 n, .bool b]) ∧ Below w.heap.size w w' := by
  have h := read_i R (by omega) w ht he
  rw [ha] at h
  exact h
theorem cut_len {l sep a c : List UInt8} {f : Bool} (h : Lib.cut l sep = (a, c, f)) : a.length ≤ l.length ∧ c.length ≤ l.length := by
  rcases cut_cases l sep with e | ⟨x, y, e, hl⟩
  · rw [h] at e
    injection e with e1 e2
    injection e2 with e2 e3
    subst e1 e2
    simp
  · rw [h] at e
    injection e with e1 e2
    injection e2 with e2 e3
    subst e1 e2
    rw [hl]
    simp
    omega
/-- the rod of the three numbers, or the zero rod -/
def rodV : Option (Int × Int × Int) → Value
  | some (L, B, T) => .agg #[.int .i64 L, .int .i64 B, .int .i64 T]
  | none => .agg #[.int .i64 0, .int .i64 0, .int .i64 0]

set_option maxHeartbeats 4000000 in
set_option maxRecDepth 100000 in
theorem parse_yes (s X Y Bs Ts : ByteArray) (f1 f2 : Bool) (hs : s.size ≤ 1048576) (c1 : Lib.cut s.data.toList [32, 109, 109, 32] = (X.data.toList, Y.data.toList, f1)) (c2 : Lib.cut Y.data.toList [45] = (Bs.data.toList, Ts.data.toList, f2))
    (L B T : Int) (b1 b2 b3 : Bool) (a1 : ans X.data.toList = (L, b1)) (a2 : ans Bs.data.toList = (B, b2)) (a3 : ans Ts.data.toList = (T, b3)) (hr : rodB L B T = true) (w : World) (ht : Tab w) (he : Errs w) (hm : MaxAt w) :
    Calls Tryd.prog 23 #[.string s] w fun e w' => e = .returned (rodV (some (L, B, T))) ∧ Below w.heap.size w w' := by
  have l1 := cut_len c1
  have l2 := cut_len c2
  simp only [size_len] at l1 l2
  have HC1 := Lib.hid (fun W h => cut_c s ⟨#[32, 109, 109, 32]⟩ X Y f1 hs c1 W h)
  have HC2 := Lib.hid (fun W h => cut_c Y ⟨#[45]⟩ Bs Ts f2 (by omega) c2 W h)
  have HN1 := Lib.hid (fun W h h' => read_p X L b1 (by omega) a1 W h h')
  have HN2 := Lib.hid (fun W h h' => read_p Bs B b2 (by omega) a2 W h h')
  have HN3 := Lib.hid (fun W h h' => read_p Ts T b3 (by omega) a3 W h h')
  have HT := Lib.hid ht
  have HE := Lib.hid he
  have HM := Lib.hid hm
  clear ht he hm c1 c2 a1 a2 a3 l1 l2 hs
  go_enter Tryd.func23, Tryd.ntmps23
  go_wp2_with fail
  refine (HC1.out _ (maxAt_below HM.out (by go_grown))).mono ?_
  rintro e w1 ⟨rfl, hb⟩
  have x1 := hb.size
  simp at x1
  have r0 : w1.cell? ⟨w.heap.size, 0, none⟩ = some (.int .i64 0) := by rw [(bcell hb).1 _ _ (by first | omega | (simp; done) | (simp; omega))]; first | exact r0 | (rw [World.cell?_alloc_lt _ _ _ (by simp; omega)]; exact r0) | go_simp
  have f0 : w1.frozen? ⟨w.heap.size, 0, none⟩ = false := by rw [(bcell hb).2 _ _ (by first | omega | (simp; done) | (simp; omega))]; first | exact f0 | (rw [World.frozen?_alloc_old _ _ _ (by simp; omega)]; exact f0) | go_simp
  have r1 : w1.cell? ⟨w.heap.size, 1, none⟩ = some (.int .i64 0) := by rw [(bcell hb).1 _ _ (by first | omega | (simp; done) | (simp; omega))]; first | exact r1 | (rw [World.cell?_alloc_lt _ _ _ (by simp; omega)]; exact r1) | go_simp
  have f1 : w1.frozen? ⟨w.heap.size, 1, none⟩ = false := by rw [(bcell hb).2 _ _ (by first | omega | (simp; done) | (simp; omega))]; first | exact f1 | (rw [World.frozen?_alloc_old _ _ _ (by simp; omega)]; exact f1) | go_simp
  have r2 : w1.cell? ⟨w.heap.size, 2, none⟩ = some (.int .i64 0) := by rw [(bcell hb).1 _ _ (by first | omega | (simp; done) | (simp; omega))]; first | exact r2 | (rw [World.cell?_alloc_lt _ _ _ (by simp; omega)]; exact r2) | go_simp
  have f2 : w1.frozen? ⟨w.heap.size, 2, none⟩ = false := by rw [(bcell hb).2 _ _ (by first | omega | (simp; done) | (simp; omega))]; first | exact f2 | (rw [World.frozen?_alloc_old _ _ _ (by simp; omega)]; exact f2) | go_simp
  have B1 : Below w.heap.size w w1 := Below.trans (by go_grown) (hb.mono (by simp))
  clear hb
  go_wp2_with fail
  refine (HC2.out _ (maxAt_below HM.out B1)).mono ?_
  rintro e w2 ⟨rfl, hb⟩
  have x2 := hb.size
  have r0 : w2.cell? ⟨w.heap.size, 0, none⟩ = some (.int .i64 0) := by rw [(bcell hb).1 _ _ (by first | omega | (simp; done) | (simp; omega))]; first | exact r0 | (rw [World.cell?_alloc_lt _ _ _ (by simp; omega)]; exact r0) | go_simp
  have f0 : w2.frozen? ⟨w.heap.size, 0, none⟩ = false := by rw [(bcell hb).2 _ _ (by first | omega | (simp; done) | (simp; omega))]; first | exact f0 | (rw [World.frozen?_alloc_old _ _ _ (by simp; omega)]; exact f0) | go_simp
  have r1 : w2.cell? ⟨w.heap.size, 1, none⟩ = some (.int .i64 0) := by rw [(bcell hb).1 _ _ (by first | omega | (simp; done) | (simp; omega))]; first | exact r1 | (rw [World.cell?_alloc_lt _ _ _ (by simp; omega)]; exact r1) | go_simp
  have f1 : w2.frozen? ⟨w.heap.size, 1, none⟩ = false := by rw [(bcell hb).2 _ _ (by first | omega | (simp; done) | (simp; omega))]; first | exact f1 | (rw [World.frozen?_alloc_old _ _ _ (by simp; omega)]; exact f1) | go_simp
  have r2 : w2.cell? ⟨w.heap.size, 2, none⟩ = some (.int .i64 0) := by rw [(bcell hb).1 _ _ (by first | omega | (simp; done) | (simp; omega))]; first | exact r2 | (rw [World.cell?_alloc_lt _ _ _ (by simp; omega)]; exact r2) | go_simp
  have f2 : w2.frozen? ⟨w.heap.size, 2, none⟩ = false := by rw [(bcell hb).2 _ _ (by first | omega | (simp; done) | (simp; omega))]; first | exact f2 | (rw [World.frozen?_alloc_old _ _ _ (by simp; omega)]; exact f2) | go_simp
  have B2 : Below w.heap.size w w2 := B1.trans (hb.mono (by omega))
  clear hb
  go_wp2_with fail
  have G2 : ∀ o, Below w.heap.size w (w2.alloc o) := fun o => B2.alloc (by omega) o
  refine (HN1.out _ (tab_below HT.out (G2 _)) (errs_below HE.out (G2 _))).mono ?_
  rintro e w3 ⟨rfl, hb⟩
  have x3 := hb.size
  simp at x3
  have p0 : w3.cell? ⟨w2.heap.size, 0, none⟩ = some (.int .i64 0) := by rw [(bcell hb).1 _ _ (by simp <;> omega)]; go_simp
  have p1 : w3.cell? ⟨w2.heap.size, 1, none⟩ = some (.int .i64 0) := by rw [(bcell hb).1 _ _ (by simp <;> omega)]; go_simp
  have p2 : w3.cell? ⟨w2.heap.size, 2, none⟩ = some (.int .i64 0) := by rw [(bcell hb).1 _ _ (by simp <;> omega)]; go_simp
  have pf0 : w3.frozen? ⟨w2.heap.size, 0, none⟩ = false := by rw [(bcell hb).2 _ _ (by simp <;> omega)]; go_simp
  have pf1 : w3.frozen? ⟨w2.heap.size, 1, none⟩ = false := by rw [(bcell hb).2 _ _ (by simp <;> omega)]; go_simp
  have pf2 : w3.frozen? ⟨w2.heap.size, 2, none⟩ = false := by rw [(bcell hb).2 _ _ (by simp <;> omega)]; go_simp
  have r0 : w3.cell? ⟨w.heap.size, 0, none⟩ = some (.int .i64 0) := by rw [(bcell hb).1 _ _ (by first | omega | (simp; done) | (simp; omega))]; first | exact r0 | (rw [World.cell?_alloc_lt _ _ _ (by simp; omega)]; exact r0) | go_simp
  have f0 : w3.frozen? ⟨w.heap.size, 0, none⟩ = false := by rw [(bcell hb).2 _ _ (by first | omega | (simp; done) | (simp; omega))]; first | exact f0 | (rw [World.frozen?_alloc_old _ _ _ (by simp; omega)]; exact f0) | go_simp
  have r1 : w3.cell? ⟨w.heap.size, 1, none⟩ = some (.int .i64 0) := by rw [(bcell hb).1 _ _ (by first | omega | (simp; done) | (simp; omega))]; first | exact r1 | (rw [World.cell?_alloc_lt _ _ _ (by simp; omega)]; exact r1) | go_simp
  have f1 : w3.frozen? ⟨w.heap.size, 1, none⟩ = false := by rw [(bcell hb).2 _ _ (by first | omega | (simp; done) | (simp; omega))]; first | exact f1 | (rw [World.frozen?_alloc_old _ _ _ (by simp; omega)]; exact f1) | go_simp
  have r2 : w3.cell? ⟨w.heap.size, 2, none⟩ = some (.int .i64 0) := by rw [(bcell hb).1 _ _ (by first | omega | (simp; done) | (simp; omega))]; first | exact r2 | (rw [World.cell?_alloc_lt _ _ _ (by simp; omega)]; exact r2) | go_simp
  have f2 : w3.frozen? ⟨w.heap.size, 2, none⟩ = false := by rw [(bcell hb).2 _ _ (by first | omega | (simp; done) | (simp; omega))]; first | exact f2 | (rw [World.frozen?_alloc_old _ _ _ (by simp; omega)]; exact f2) | go_simp
  have B3 : Below w.heap.size w w3 := (G2 _).trans (hb.mono (by simp; omega))
  clear hb G2
  go_wp2_with fail
  have G3 : Below w.heap.size w (w3.setCell ⟨w2.heap.size, 0, none⟩ (.int .i64 L)) := bset B3 _ _ (by simp; omega)
  refine (HN2.out _ (tab_below HT.out G3) (errs_below HE.out G3)).mono ?_
  rintro e w4 ⟨rfl, hb⟩
  have x4 := hb.size
  simp at x4
  have q0 : (w3.setCell ⟨w2.heap.size, 0, none⟩ (.int .i64 L)).cell? ⟨w2.heap.size, 0, none⟩ = some (.int .i64 L) := World.cell?_setCell_same _ _ _ p0
  have p0 : w4.cell? ⟨w2.heap.size, 0, none⟩ = some (.int .i64 L) := by rw [(bcell hb).1 _ _ (by simp <;> omega)]; first | exact q0 | go_simp
  have p1 : w4.cell? ⟨w2.heap.size, 1, none⟩ = some (.int .i64 0) := by rw [(bcell hb).1 _ _ (by simp <;> omega)]; first | exact q0 | go_simp
  have p2 : w4.cell? ⟨w2.heap.size, 2, none⟩ = some (.int .i64 0) := by rw [(bcell hb).1 _ _ (by simp <;> omega)]; first | exact q0 | go_simp
  have pf0 : w4.frozen? ⟨w2.heap.size, 0, none⟩ = false := by rw [(bcell hb).2 _ _ (by simp <;> omega)]; go_simp
  have pf1 : w4.frozen? ⟨w2.heap.size, 1, none⟩ = false := by rw [(bcell hb).2 _ _ (by simp <;> omega)]; go_simp
  have pf2 : w4.frozen? ⟨w2.heap.size, 2, none⟩ = false := by rw [(bcell hb).2 _ _ (by simp <;> omega)]; go_simp
  have r0 : w4.cell? ⟨w.heap.size, 0, none⟩ = some (.int .i64 0) := by rw [(bcell hb).1 _ _ (by first | omega | (simp; done) | (simp; omega))]; first | exact r0 | (rw [World.cell?_alloc_lt _ _ _ (by simp; omega)]; exact r0) | go_simp
  have f0 : w4.frozen? ⟨w.heap.size, 0, none⟩ = false := by rw [(bcell hb).2 _ _ (by first | omega | (simp; done) | (simp; omega))]; first | exact f0 | (rw [World.frozen?_alloc_old _ _ _ (by simp; omega)]; exact f0) | go_simp
  have r1 : w4.cell? ⟨w.heap.size, 1, none⟩ = some (.int .i64 0) := by rw [(bcell hb).1 _ _ (by first | omega | (simp; done) | (simp; omega))]; first | exact r1 | (rw [World.cell?_alloc_lt _ _ _ (by simp; omega)]; exact r1) | go_simp
  have f1 : w4.frozen? ⟨w.heap.size, 1, none⟩ = false := by rw [(bcell hb).2 _ _ (by first | omega | (simp; done) | (simp; omega))]; first | exact f1 | (rw [World.frozen?_alloc_old _ _ _ (by simp; omega)]; exact f1) | go_simp
  have r2 : w4.cell? ⟨w.heap.size, 2, none⟩ = some (.int .i64 0) := by rw [(bcell hb).1 _ _ (by first | omega | (simp; done) | (simp; omega))]; first | exact r2 | (rw [World.cell?_alloc_lt _ _ _ (by simp; omega)]; exact r2) | go_simp
  have f2 : w4.frozen? ⟨w.heap.size, 2, none⟩ = false := by rw [(bcell hb).2 _ _ (by first | omega | (simp; done) | (simp; omega))]; first | exact f2 | (rw [World.frozen?_alloc_old _ _ _ (by simp; omega)]; exact f2) | go_simp
  have B4 : Below w.heap.size w w4 := G3.trans (hb.mono (by simp; omega))
  clear hb G3 q0
  go_wp2_with fail
  have G4 : Below w.heap.size w (w4.setCell ⟨w2.heap.size, 1, none⟩ (.int .i64 B)) := bset B4 _ _ (by simp; omega)
  refine (HN3.out _ (tab_below HT.out G4) (errs_below HE.out G4)).mono ?_
  rintro e w5 ⟨rfl, hb⟩
  have x5 := hb.size
  simp at x5
  have q1 : (w4.setCell ⟨w2.heap.size, 1, none⟩ (.int .i64 B)).cell? ⟨w2.heap.size, 1, none⟩ = some (.int .i64 B) := World.cell?_setCell_same _ _ _ p1
  have p0 : w5.cell? ⟨w2.heap.size, 0, none⟩ = some (.int .i64 L) := by rw [(bcell hb).1 _ _ (by simp <;> omega)]; first | exact q1 | go_simp
  have p1 : w5.cell? ⟨w2.heap.size, 1, none⟩ = some (.int .i64 B) := by rw [(bcell hb).1 _ _ (by simp <;> omega)]; first | exact q1 | go_simp
  have p2 : w5.cell? ⟨w2.heap.size, 2, none⟩ = some (.int .i64 0) := by rw [(bcell hb).1 _ _ (by simp <;> omega)]; first | exact q1 | go_simp
  have pf0 : w5.frozen? ⟨w2.heap.size, 0, none⟩ = false := by rw [(bcell hb).2 _ _ (by simp <;> omega)]; go_simp
  have pf1 : w5.frozen? ⟨w2.heap.size, 1, none⟩ = false := by rw [(bcell hb).2 _ _ (by simp <;> omega)]; go_simp
  have pf2 : w5.frozen? ⟨w2.heap.size, 2, none⟩ = false := by rw [(bcell hb).2 _ _ (by simp <;> omega)]; go_simp
  have r0 : w5.cell? ⟨w.heap.size, 0, none⟩ = some (.int .i64 0) := by rw [(bcell hb).1 _ _ (by first | omega | (simp; done) | (simp; omega))]; first | exact r0 | (rw [World.cell?_alloc_lt _ _ _ (by simp; omega)]; exact r0) | go_simp
  have f0 : w5.frozen? ⟨w.heap.size, 0, none⟩ = false := by rw [(bcell hb).2 _ _ (by first | omega | (simp; done) | (simp; omega))]; first | exact f0 | (rw [World.frozen?_alloc_old _ _ _ (by simp; omega)]; exact f0) | go_simp
  have r1 : w5.cell? ⟨w.heap.size, 1, none⟩ = some (.int .i64 0) := by rw [(bcell hb).1 _ _ (by first | omega | (simp; done) | (simp; omega))]; first | exact r1 | (rw [World.cell?_alloc_lt _ _ _ (by simp; omega)]; exact r1) | go_simp
  have f1 : w5.frozen? ⟨w.heap.size, 1, none⟩ = false := by rw [(bcell hb).2 _ _ (by first | omega | (simp; done) | (simp; omega))]; first | exact f1 | (rw [World.frozen?_alloc_old _ _ _ (by simp; omega)]; exact f1) | go_simp
  have r2 : w5.cell? ⟨w.heap.size, 2, none⟩ = some (.int .i64 0) := by rw [(bcell hb).1 _ _ (by first | omega | (simp; done) | (simp; omega))]; first | exact r2 | (rw [World.cell?_alloc_lt _ _ _ (by simp; omega)]; exact r2) | go_simp
  have f2 : w5.frozen? ⟨w.heap.size, 2, none⟩ = false := by rw [(bcell hb).2 _ _ (by first | omega | (simp; done) | (simp; omega))]; first | exact f2 | (rw [World.frozen?_alloc_old _ _ _ (by simp; omega)]; exact f2) | go_simp
  have B5 : Below w.heap.size w w5 := G4.trans (hb.mono (by simp; omega))
  clear hb G4 q1
  have q2 : (w5.setCell ⟨w2.heap.size, 2, none⟩ (.int .i64 T)).cell? ⟨w2.heap.size, 2, none⟩ = some (.int .i64 T) := World.cell?_setCell_same _ _ _ p2
  go_wp2_with fail
  have G5 : Below w.heap.size w (w5.setCell ⟨w2.heap.size, 2, none⟩ (.int .i64 T)) := bset B5 _ _ (by simp; omega)
  refine (rod_i L B T _).mono ?_
  rintro e w6 ⟨rfl, hb⟩
  have x6 := hb.size
  simp at x6
  have p0 : w6.cell? ⟨w2.heap.size, 0, none⟩ = some (.int .i64 L) := by rw [(bcell hb).1 _ _ (by simp <;> omega)]; first | exact q2 | go_simp
  have p1 : w6.cell? ⟨w2.heap.size, 1, none⟩ = some (.int .i64 B) := by rw [(bcell hb).1 _ _ (by simp <;> omega)]; first | exact q2 | go_simp
  have p2 : w6.cell? ⟨w2.heap.size, 2, none⟩ = some (.int .i64 T) := by rw [(bcell hb).1 _ _ (by simp <;> omega)]; first | exact q2 | go_simp
  have r0 : w6.cell? ⟨w.heap.size, 0, none⟩ = some (.int .i64 0) := by rw [(bcell hb).1 _ _ (by first | omega | (simp; done) | (simp; omega))]; first | exact r0 | (rw [World.cell?_alloc_lt _ _ _ (by simp; omega)]; exact r0) | go_simp
  have f0 : w6.frozen? ⟨w.heap.size, 0, none⟩ = false := by rw [(bcell hb).2 _ _ (by first | omega | (simp; done) | (simp; omega))]; first | exact f0 | (rw [World.frozen?_alloc_old _ _ _ (by simp; omega)]; exact f0) | go_simp
  have r1 : w6.cell? ⟨w.heap.size, 1, none⟩ = some (.int .i64 0) := by rw [(bcell hb).1 _ _ (by first | omega | (simp; done) | (simp; omega))]; first | exact r1 | (rw [World.cell?_alloc_lt _ _ _ (by simp; omega)]; exact r1) | go_simp
  have f1 : w6.frozen? ⟨w.heap.size, 1, none⟩ = false := by rw [(bcell hb).2 _ _ (by first | omega | (simp; done) | (simp; omega))]; first | exact f1 | (rw [World.frozen?_alloc_old _ _ _ (by simp; omega)]; exact f1) | go_simp
  have r2 : w6.cell? ⟨w.heap.size, 2, none⟩ = some (.int .i64 0) := by rw [(bcell hb).1 _ _ (by first | omega | (simp; done) | (simp; omega))]; first | exact r2 | (rw [World.cell?_alloc_lt _ _ _ (by simp; omega)]; exact r2) | go_simp
  have f2 : w6.frozen? ⟨w.heap.size, 2, none⟩ = false := by rw [(bcell hb).2 _ _ (by first | omega | (simp; done) | (simp; omega))]; first | exact f2 | (rw [World.frozen?_alloc_old _ _ _ (by simp; omega)]; exact f2) | go_simp
  have B6 : Below w.heap.size w w6 := G5.trans (hb.mono (by simp; omega))
  clear hb G5 q2
  go_wp2
  try simp only [Exit.inBlock, Exit.then]
  refine bodyPost_ret (by simp [results, Tryd.results23, go_sem, r0, r1, r2]; try rfl) rfl ?_
  exact ⟨rfl, bset (bset (bset B6 _ _ (by simp)) _ _ (by simp)) _ _ (by simp)⟩

set_option maxHeartbeats 4000000 in
set_option maxRecDepth 100000 in
theorem parse_no (s X Y Bs Ts : ByteArray) (f1 f2 : Bool) (hs : s.size ≤ 1048576) (c1 : Lib.cut s.data.toList [32, 109, 109, 32] = (X.data.toList, Y.data.toList, f1)) (c2 : Lib.cut Y.data.toList [45] = (Bs.data.toList, Ts.data.toList, f2))
    (L B T : Int) (b1 b2 b3 : Bool) (a1 : ans X.data.toList = (L, b1)) (a2 : ans Bs.data.toList = (B, b2)) (a3 : ans Ts.data.toList = (T, b3)) (hr : rodB L B T = false) (w : World) (ht : Tab w) (he : Errs w) (hm : MaxAt w) :
    Calls Tryd.prog 23 #[.string s] w fun e w' => e = .returned (rodV none) ∧ Below w.heap.size w w' := by
  have l1 := cut_len c1
  have l2 := cut_len c2
  simp only [size_len] at l1 l2
  have HC1 := Lib.hid (fun W h => cut_c s ⟨#[32, 109, 109, 32]⟩ X Y f1 hs c1 W h)
  have HC2 := Lib.hid (fun W h => cut_c Y ⟨#[45]⟩ Bs Ts f2 (by omega) c2 W h)
  have HN1 := Lib.hid (fun W h h' => read_p X L b1 (by omega) a1 W h h')
  have HN2 := Lib.hid (fun W h h' => read_p Bs B b2 (by omega) a2 W h h')
  have HN3 := Lib.hid (fun W h h' => read_p Ts T b3 (by omega) a3 W h h')
  have HT := Lib.hid ht
  have HE := Lib.hid he
  have HM := Lib.hid hm
  clear ht he hm c1 c2 a1 a2 a3 l1 l2 hs
  go_enter Tryd.func23, Tryd.ntmps23
  go_wp2_with fail
  refine (HC1.out _ (maxAt_below HM.out (by go_grown))).mono ?_
  rintro e w1 ⟨rfl, hb⟩
  have x1 := hb.size
  simp at x1
  have r0 : w1.cell? ⟨w.heap.size, 0, none⟩ = some (.int .i64 0) := by rw [(bcell hb).1 _ _ (by first | omega | (simp; done) | (simp; omega))]; first | exact r0 | (rw [World.cell?_alloc_lt _ _ _ (by simp; omega)]; exact r0) | go_simp
  have f0 : w1.frozen? ⟨w.heap.size, 0, none⟩ = false := by rw [(bcell hb).2 _ _ (by first | omega | (simp; done) | (simp; omega))]; first | exact f0 | (rw [World.frozen?_alloc_old _ _ _ (by simp; omega)]; exact f0) | go_simp
  have r1 : w1.cell? ⟨w.heap.size, 1, none⟩ = some (.int .i64 0) := by rw [(bcell hb).1 _ _ (by first | omega | (simp; done) | (simp; omega))]; first | exact r1 | (rw [World.cell?_alloc_lt _ _ _ (by simp; omega)]; exact r1) | go_simp
  have f1 : w1.frozen? ⟨w.heap.size, 1, none⟩ = false := by rw [(bcell hb).2 _ _ (by first | omega | (simp; done) | (simp; omega))]; first | exact f1 | (rw [World.frozen?_alloc_old _ _ _ (by simp; omega)]; exact f1) | go_simp
  have r2 : w1.cell? ⟨w.heap.size, 2, none⟩ = some (.int .i64 0) := by rw [(bcell hb).1 _ _ (by first | omega | (simp; done) | (simp; omega))]; first | exact r2 | (rw [World.cell?_alloc_lt _ _ _ (by simp; omega)]; exact r2) | go_simp
  have f2 : w1.frozen? ⟨w.heap.size, 2, none⟩ = false := by rw [(bcell hb).2 _ _ (by first | omega | (simp; done) | (simp; omega))]; first | exact f2 | (rw [World.frozen?_alloc_old _ _ _ (by simp; omega)]; exact f2) | go_simp
  have B1 : Below w.heap.size w w1 := Below.trans (by go_grown) (hb.mono (by simp))
  clear hb
  go_wp2_with fail
  refine (HC2.out _ (maxAt_below HM.out B1)).mono ?_
  rintro e w2 ⟨rfl, hb⟩
  have x2 := hb.size
  have r0 : w2.cell? ⟨w.heap.size, 0, none⟩ = some (.int .i64 0) := by rw [(bcell hb).1 _ _ (by first | omega | (simp; done) | (simp; omega))]; first | exact r0 | (rw [World.cell?_alloc_lt _ _ _ (by simp; omega)]; exact r0) | go_simp
  have f0 : w2.frozen? ⟨w.heap.size, 0, none⟩ = false := by rw [(bcell hb).2 _ _ (by first | omega | (simp; done) | (simp; omega))]; first | exact f0 | (rw [World.frozen?_alloc_old _ _ _ (by simp; omega)]; exact f0) | go_simp
  have r1 : w2.cell? ⟨w.heap.size, 1, none⟩ = some (.int .i64 0) := by rw [(bcell hb).1 _ _ (by first | omega | (simp; done) | (simp; omega))]; first | exact r1 | (rw [World.cell?_alloc_lt _ _ _ (by simp; omega)]; exact r1) | go_simp
  have f1 : w2.frozen? ⟨w.heap.size, 1, none⟩ = false := by rw [(bcell hb).2 _ _ (by first | omega | (simp; done) | (simp; omega))]; first | exact f1 | (rw [World.frozen?_alloc_old _ _ _ (by simp; omega)]; exact f1) | go_simp
  have r2 : w2.cell? ⟨w.heap.size, 2, none⟩ = some (.int .i64 0) := by rw [(bcell hb).1 _ _ (by first | omega | (simp; done) | (simp; omega))]; first | exact r2 | (rw [World.cell?_alloc_lt _ _ _ (by simp; omega)]; exact r2) | go_simp
  have f2 : w2.frozen? ⟨w.heap.size, 2, none⟩ = false := by rw [(bcell hb).2 _ _ (by first | omega | (simp; done) | (simp; omega))]; first | exact f2 | (rw [World.frozen?_alloc_old _ _ _ (by simp; omega)]; exact f2) | go_simp
  have B2 : Below w.heap.size w w2 := B1.trans (hb.mono (by omega))
  clear hb
  go_wp2_with fail
  have G2 : ∀ o, Below w.heap.size w (w2.alloc o) := fun o => B2.alloc (by omega) o
  refine (HN1.out _ (tab_below HT.out (G2 _)) (errs_below HE.out (G2 _))).mono ?_
  rintro e w3 ⟨rfl, hb⟩
  have x3 := hb.size
  simp at x3
  have p0 : w3.cell? ⟨w2.heap.size, 0, none⟩ = some (.int .i64 0) := by rw [(bcell hb).1 _ _ (by simp <;> omega)]; go_simp
  have p1 : w3.cell? ⟨w2.heap.size, 1, none⟩ = some (.int .i64 0) := by rw [(bcell hb).1 _ _ (by simp <;> omega)]; go_simp
  have p2 : w3.cell? ⟨w2.heap.size, 2, none⟩ = some (.int .i64 0) := by rw [(bcell hb).1 _ _ (by simp <;> omega)]; go_simp
  have pf0 : w3.frozen? ⟨w2.heap.size, 0, none⟩ = false := by rw [(bcell hb).2 _ _ (by simp <;> omega)]; go_simp
  have pf1 : w3.frozen? ⟨w2.heap.size, 1, none⟩ = false := by rw [(bcell hb).2 _ _ (by simp <;> omega)]; go_simp
  have pf2 : w3.frozen? ⟨w2.heap.size, 2, none⟩ = false := by rw [(bcell hb).2 _ _ (by simp <;> omega)]; go_simp
  have r0 : w3.cell? ⟨w.heap.size, 0, none⟩ = some (.int .i64 0) := by rw [(bcell hb).1 _ _ (by first | omega | (simp; done) | (simp; omega))]; first | exact r0 | (rw [World.cell?_alloc_lt _ _ _ (by simp; omega)]; exact r0) | go_simp
  have f0 : w3.frozen? ⟨w.heap.size, 0, none⟩ = false := by rw [(bcell hb).2 _ _ (by first | omega | (simp; done) | (simp; omega))]; first | exact f0 | (rw [World.frozen?_alloc_old _ _ _ (by simp; omega)]; exact f0) | go_simp
  have r1 : w3.cell? ⟨w.heap.size, 1, none⟩ = some (.int .i64 0) := by rw [(bcell hb).1 _ _ (by first | omega | (simp; done) | (simp; omega))]; first | exact r1 | (rw [World.cell?_alloc_lt _ _ _ (by simp; omega)]; exact r1) | go_simp
  have f1 : w3.frozen? ⟨w.heap.size, 1, none⟩ = false := by rw [(bcell hb).2 _ _ (by first | omega | (simp; done) | (simp; omega))]; first | exact f1 | (rw [World.frozen?_alloc_old _ _ _ (by simp; omega)]; exact f1) | go_simp
  have r2 : w3.cell? ⟨w.heap.size, 2, none⟩ = some (.int .i64 0) := by rw [(bcell hb).1 _ _ (by first | omega | (simp; done) | (simp; omega))]; first | exact r2 | (rw [World.cell?_alloc_lt _ _ _ (by simp; omega)]; exact r2) | go_simp
  have f2 : w3.frozen? ⟨w.heap.size, 2, none⟩ = false := by rw [(bcell hb).2 _ _ (by first | omega | (simp; done) | (simp; omega))]; first | exact f2 | (rw [World.frozen?_alloc_old _ _ _ (by simp; omega)]; exact f2) | go_simp
  have B3 : Below w.heap.size w w3 := (G2 _).trans (hb.mono (by simp; omega))
  clear hb G2
  go_wp2_with fail
  have G3 : Below w.heap.size w (w3.setCell ⟨w2.heap.size, 0, none⟩ (.int .i64 L)) := bset B3 _ _ (by simp; omega)
  refine (HN2.out _ (tab_below HT.out G3) (errs_below HE.out G3)).mono ?_
  rintro e w4 ⟨rfl, hb⟩
  have x4 := hb.size
  simp at x4
  have q0 : (w3.setCell ⟨w2.heap.size, 0, none⟩ (.int .i64 L)).cell? ⟨w2.heap.size, 0, none⟩ = some (.int .i64 L) := World.cell?_setCell_same _ _ _ p0
  have p0 : w4.cell? ⟨w2.heap.size, 0, none⟩ = some (.int .i64 L) := by rw [(bcell hb).1 _ _ (by simp <;> omega)]; first | exact q0 | go_simp
  have p1 : w4.cell? ⟨w2.heap.size, 1, none⟩ = some (.int .i64 0) := by rw [(bcell hb).1 _ _ (by simp <;> omega)]; first | exact q0 | go_simp
  have p2 : w4.cell? ⟨w2.heap.size, 2, none⟩ = some (.int .i64 0) := by rw [(bcell hb).1 _ _ (by simp <;> omega)]; first | exact q0 | go_simp
  have pf0 : w4.frozen? ⟨w2.heap.size, 0, none⟩ = false := by rw [(bcell hb).2 _ _ (by simp <;> omega)]; go_simp
  have pf1 : w4.frozen? ⟨w2.heap.size, 1, none⟩ = false := by rw [(bcell hb).2 _ _ (by simp <;> omega)]; go_simp
  have pf2 : w4.frozen? ⟨w2.heap.size, 2, none⟩ = false := by rw [(bcell hb).2 _ _ (by simp <;> omega)]; go_simp
  have r0 : w4.cell? ⟨w.heap.size, 0, none⟩ = some (.int .i64 0) := by rw [(bcell hb).1 _ _ (by first | omega | (simp; done) | (simp; omega))]; first | exact r0 | (rw [World.cell?_alloc_lt _ _ _ (by simp; omega)]; exact r0) | go_simp
  have f0 : w4.frozen? ⟨w.heap.size, 0, none⟩ = false := by rw [(bcell hb).2 _ _ (by first | omega | (simp; done) | (simp; omega))]; first | exact f0 | (rw [World.frozen?_alloc_old _ _ _ (by simp; omega)]; exact f0) | go_simp
  have r1 : w4.cell? ⟨w.heap.size, 1, none⟩ = some (.int .i64 0) := by rw [(bcell hb).1 _ _ (by first | omega | (simp; done) | (simp; omega))]; first | exact r1 | (rw [World.cell?_alloc_lt _ _ _ (by simp; omega)]; exact r1) | go_simp
  have f1 : w4.frozen? ⟨w.heap.size, 1, none⟩ = false := by rw [(bcell hb).2 _ _ (by first | omega | (simp; done) | (simp; omega))]; first | exact f1 | (rw [World.frozen?_alloc_old _ _ _ (by simp; omega)]; exact f1) | go_simp
  have r2 : w4.cell? ⟨w.heap.size, 2, none⟩ = some (.int .i64 0) := by rw [(bcell hb).1 _ _ (by first | omega | (simp; done) | (simp; omega))]; first | exact r2 | (rw [World.cell?_alloc_lt _ _ _ (by simp; omega)]; exact r2) | go_simp
  have f2 : w4.frozen? ⟨w.heap.size, 2, none⟩ = false := by rw [(bcell hb).2 _ _ (by first | omega | (simp; done) | (simp; omega))]; first | exact f2 | (rw [World.frozen?_alloc_old _ _ _ (by simp; omega)]; exact f2) | go_simp
  have B4 : Below w.heap.size w w4 := G3.trans (hb.mono (by simp; omega))
  clear hb G3 q0
  go_wp2_with fail
  have G4 : Below w.heap.size w (w4.setCell ⟨w2.heap.size, 1, none⟩ (.int .i64 B)) := bset B4 _ _ (by simp; omega)
  refine (HN3.out _ (tab_below HT.out G4) (errs_below HE.out G4)).mono ?_
  rintro e w5 ⟨rfl, hb⟩
  have x5 := hb.size
  simp at x5
  have q1 : (w4.setCell ⟨w2.heap.size, 1, none⟩ (.int .i64 B)).cell? ⟨w2.heap.size, 1, none⟩ = some (.int .i64 B) := World.cell?_setCell_same _ _ _ p1
  have p0 : w5.cell? ⟨w2.heap.size, 0, none⟩ = some (.int .i64 L) := by rw [(bcell hb).1 _ _ (by simp <;> omega)]; first | exact q1 | go_simp
  have p1 : w5.cell? ⟨w2.heap.size, 1, none⟩ = some (.int .i64 B) := by rw [(bcell hb).1 _ _ (by simp <;> omega)]; first | exact q1 | go_simp
  have p2 : w5.cell? ⟨w2.heap.size, 2, none⟩ = some (.int .i64 0) := by rw [(bcell hb).1 _ _ (by simp <;> omega)]; first | exact q1 | go_simp
  have pf0 : w5.frozen? ⟨w2.heap.size, 0, none⟩ = false := by rw [(bcell hb).2 _ _ (by simp <;> omega)]; go_simp
  have pf1 : w5.frozen? ⟨w2.heap.size, 1, none⟩ = false := by rw [(bcell hb).2 _ _ (by simp <;> omega)]; go_simp
  have pf2 : w5.frozen? ⟨w2.heap.size, 2, none⟩ = false := by rw [(bcell hb).2 _ _ (by simp <;> omega)]; go_simp
  have r0 : w5.cell? ⟨w.heap.size, 0, none⟩ = some (.int .i64 0) := by rw [(bcell hb).1 _ _ (by first | omega | (simp; done) | (simp; omega))]; first | exact r0 | (rw [World.cell?_alloc_lt _ _ _ (by simp; omega)]; exact r0) | go_simp
  have f0 : w5.frozen? ⟨w.heap.size, 0, none⟩ = false := by rw [(bcell hb).2 _ _ (by first | omega | (simp; done) | (simp; omega))]; first | exact f0 | (rw [World.frozen?_alloc_old _ _ _ (by simp; omega)]; exact f0) | go_simp
  have r1 : w5.cell? ⟨w.heap.size, 1, none⟩ = some (.int .i64 0) := by rw [(bcell hb).1 _ _ (by first | omega | (simp; done) | (simp; omega))]; first | exact r1 | (rw [World.cell?_alloc_lt _ _ _ (by simp; omega)]; exact r1) | go_simp
  have f1 : w5.frozen? ⟨w.heap.size, 1, none⟩ = false := by rw [(bcell hb).2 _ _ (by first | omega | (simp; done) | (simp; omega))]; first | exact f1 | (rw [World.frozen?_alloc_old _ _ _ (by simp; omega)]; exact f1) | go_simp
  have r2 : w5.cell? ⟨w.heap.size, 2, none⟩ = some (.int .i64 0) := by rw [(bcell hb).1 _ _ (by first | omega | (simp; done) | (simp; omega))]; first | exact r2 | (rw [World.cell?_alloc_lt _ _ _ (by simp; omega)]; exact r2) | go_simp
  have f2 : w5.frozen? ⟨w.heap.size, 2, none⟩ = false := by rw [(bcell hb).2 _ _ (by first | omega | (simp; done) | (simp; omega))]; first | exact f2 | (rw [World.frozen?_alloc_old _ _ _ (by simp; omega)]; exact f2) | go_simp
  have B5 : Below w.heap.size w w5 := G4.trans (hb.mono (by simp; omega))
  clear hb G4 q1
  have q2 : (w5.setCell ⟨w2.heap.size, 2, none⟩ (.int .i64 T)).cell? ⟨w2.heap.size, 2, none⟩ = some (.int .i64 T) := World.cell?_setCell_same _ _ _ p2
  go_wp2_with fail
  have G5 : Below w.heap.size w (w5.setCell ⟨w2.heap.size, 2, none⟩ (.int .i64 T)) := bset B5 _ _ (by simp; omega)
  refine (rod_i L B T _).mono ?_
  rintro e w6 ⟨rfl, hb⟩
  have x6 := hb.size
  simp at x6
  have p0 : w6.cell? ⟨w2.heap.size, 0, none⟩ = some (.int .i64 L) := by rw [(bcell hb).1 _ _ (by simp <;> omega)]; first | exact q2 | go_simp
  have p1 : w6.cell? ⟨w2.heap.size, 1, none⟩ = some (.int .i64 B) := by rw [(bcell hb).1 _ _ (by simp <;> omega)]; first | exact q2 | go_simp
  have p2 : w6.cell? ⟨w2.heap.size, 2, none⟩ = some (.int .i64 T) := by rw [(bcell hb).1 _ _ (by simp <;> omega)]; first | exact q2 | go_simp
  have r0 : w6.cell? ⟨w.heap.size, 0, none⟩ = some (.int .i64 0) := by rw [(bcell hb).1 _ _ (by first | omega | (simp; done) | (simp; omega))]; first | exact r0 | (rw [World.cell?_alloc_lt _ _ _ (by simp; omega)]; exact r0) | go_simp
  have f0 : w6.frozen? ⟨w.heap.size, 0, none⟩ = false := by rw [(bcell hb).2 _ _ (by first | omega | (simp; done) | (simp; omega))]; first | exact f0 | (rw [World.frozen?_alloc_old _ _ _ (by simp; omega)]; exact f0) | go_simp
  have r1 : w6.cell? ⟨w.heap.size, 1, none⟩ = some (.int .i64 0) := by rw [(bcell hb).1 _ _ (by first | omega | (simp; done) | (simp; omega))]; first | exact r1 | (rw [World.cell?_alloc_lt _ _ _ (by simp; omega)]; exact r1) | go_simp
  have f1 : w6.frozen? ⟨w.heap.size, 1, none⟩ = false := by rw [(bcell hb).2 _ _ (by first | omega | (simp; done) | (simp; omega))]; first | exact f1 | (rw [World.frozen?_alloc_old _ _ _ (by simp; omega)]; exact f1) | go_simp
  have r2 : w6.cell? ⟨w.heap.size, 2, none⟩ = some (.int .i64 0) := by rw [(bcell hb).1 _ _ (by first | omega | (simp; done) | (simp; omega))]; first | exact r2 | (rw [World.cell?_alloc_lt _ _ _ (by simp; omega)]; exact r2) | go_simp
  have f2 : w6.frozen? ⟨w.heap.size, 2, none⟩ = false := by rw [(bcell hb).2 _ _ (by first | omega | (simp; done) | (simp; omega))]; first | exact f2 | (rw [World.frozen?_alloc_old _ _ _ (by simp; omega)]; exact f2) | go_simp
  have B6 : Below w.heap.size w w6 := G5.trans (hb.mono (by simp; omega))
  clear hb G5 q2
  go_wp2
  try simp only [Exit.inBlock, Exit.then]
  refine bodyPost_ret (by simp [results, Tryd.results23, go_sem, r0, r1, r2]; try rfl) rfl ?_
  exact ⟨rfl, bset (bset (bset B6 _ _ (by simp)) _ _ (by simp)) _ _ (by simp)⟩

theorem parse_i (s : ByteArray) (hs : s.size ≤ 1048576) (w : World) (ht : Tab w) (he : Errs w) (hm : MaxAt w) :
    Calls Tryd.prog 23 #[.string s] w fun e w' => e = .returned (rodV (readI s.data.toList)) ∧ Below w.heap.size w w' := by
  obtain ⟨X, hX⟩ : ∃ X : ByteArray, X = ⟨(Lib.cut s.data.toList [32, 109, 109, 32]).1.toArray⟩ := ⟨_, rfl⟩
  obtain ⟨Y, hY⟩ : ∃ Y : ByteArray, Y = ⟨(Lib.cut s.data.toList [32, 109, 109, 32]).2.1.toArray⟩ := ⟨_, rfl⟩
  have c1 : Lib.cut s.data.toList [32, 109, 109, 32] = (X.data.toList, Y.data.toList, (Lib.cut s.data.toList [32, 109, 109, 32]).2.2) := by rw [hX, hY]
  obtain ⟨Bs, hB⟩ : ∃ X : ByteArray, X = ⟨(Lib.cut Y.data.toList [45]).1.toArray⟩ := ⟨_, rfl⟩
  obtain ⟨Ts, hT⟩ : ∃ X : ByteArray, X = ⟨(Lib.cut Y.data.toList [45]).2.1.toArray⟩ := ⟨_, rfl⟩
  have c2 : Lib.cut Y.data.toList [45] = (Bs.data.toList, Ts.data.toList, (Lib.cut Y.data.toList [45]).2.2) := by rw [hB, hT]
  have e : readI s.data.toList = rodOf (ans X.data.toList).1 (ans Bs.data.toList).1 (ans Ts.data.toList).1 := by
    unfold readI
    rw [c1]
    simp only []
    rw [c2]
  rw [e]
  unfold rodOf
  cases hr : rodB (ans X.data.toList).1 (ans Bs.data.toList).1 (ans Ts.data.toList).1
  · rw [if_neg (by simp)]
    exact parse_no s X Y Bs Ts _ _ hs c1 c2 _ _ _ _ _ _ rfl rfl rfl hr w ht he hm
  · rw [if_pos rfl]
    exact parse_yes s X Y Bs Ts _ _ hs c1 c2 _ _ _ _ _ _ rfl rfl rfl hr w ht he hm

set_option maxHeartbeats 4000000 in
set_option maxRecDepth 100000 in
theorem read_rod_no (s : ByteArray)  (hp : ∀ W, Tab W → Errs W → MaxAt W → Calls Tryd.prog 23 #[.string s] W fun e w' => e = .returned (.agg #[.int .i64 0, .int .i64 0, .int .i64 0]) ∧ Below W.heap.size W w') (w : World) (ht : Tab w) (he : Errs w) (hm : MaxAt w) :
    Calls Tryd.prog 11 #[.string s] w fun e w' => e = .returned (retV (none)) ∧ Below w.heap.size w w' := by
  have HP := Lib.hid hp
  clear hp
  have HT := Lib.hid ht
  have HE := Lib.hid he
  have HM := Lib.hid hm
  clear ht he hm
  go_enter Tryd.func11, Tryd.ntmps11
  go_wp2_with fail
  have G0 : ∀ o, Below w.heap.size w (w.alloc o) := fun o => (Below.refl _ _).alloc (Nat.le_refl _) o
  refine (HP.out _ (tab_below HT.out (G0 _)) (errs_below HE.out (G0 _)) (maxAt_below HM.out (G0 _))).mono ?_
  rintro e w1 ⟨rfl, hb⟩
  have x1 := hb.size
  simp at x1
  have r0 : w1.cell? ⟨w.heap.size, 0, none⟩ = some (.int .i64 0) := by rw [(bcell hb).1 _ _ (by first | omega | (simp; done) | (simp; omega))]; first | exact r0 | (rw [World.cell?_alloc_lt _ _ _ (by simp; omega)]; exact r0) | go_simp
  have f0 : w1.frozen? ⟨w.heap.size, 0, none⟩ = false := by rw [(bcell hb).2 _ _ (by first | omega | (simp; done) | (simp; omega))]; first | exact f0 | (rw [World.frozen?_alloc_old _ _ _ (by simp; omega)]; exact f0) | go_simp
  have r1 : w1.cell? ⟨w.heap.size, 1, none⟩ = some (.int .i64 0) := by rw [(bcell hb).1 _ _ (by first | omega | (simp; done) | (simp; omega))]; first | exact r1 | (rw [World.cell?_alloc_lt _ _ _ (by simp; omega)]; exact r1) | go_simp
  have f1 : w1.frozen? ⟨w.heap.size, 1, none⟩ = false := by rw [(bcell hb).2 _ _ (by first | omega | (simp; done) | (simp; omega))]; first | exact f1 | (rw [World.frozen?_alloc_old _ _ _ (by simp; omega)]; exact f1) | go_simp
  have r2 : w1.cell? ⟨w.heap.size, 2, none⟩ = some (.int .i64 0) := by rw [(bcell hb).1 _ _ (by first | omega | (simp; done) | (simp; omega))]; first | exact r2 | (rw [World.cell?_alloc_lt _ _ _ (by simp; omega)]; exact r2) | go_simp
  have f2 : w1.frozen? ⟨w.heap.size, 2, none⟩ = false := by rw [(bcell hb).2 _ _ (by first | omega | (simp; done) | (simp; omega))]; first | exact f2 | (rw [World.frozen?_alloc_old _ _ _ (by simp; omega)]; exact f2) | go_simp
  have B1 : Below w.heap.size w w1 := (G0 _).trans (hb.mono (by simp))
  have hn1 : ¬ w.heap.size = w1.heap.size := by omega
  have hn1' : ¬ w1.heap.size = w.heap.size := by omega
  have hl1 : w.heap.size < w1.heap.size := by omega
  clear hb G0
  go_wp2_with fail
  go_region
  go_wp2
  try simp only [Exit.inBlock, Exit.then]
  refine bodyPost_ret (by simp [results, Tryd.results11, go_sem, r0, r1, r2, hl1]; try rfl) rfl ?_
  exact ⟨rfl, ((bset (bset (bset B1 _ _ (by simp)) _ _ (by simp)) _ _ (by simp)).alloc (by simp; omega) _).drew⟩

set_option maxHeartbeats 4000000 in
set_option maxRecDepth 100000 in
theorem read_rod_yes (s : ByteArray) (L B T : Int) (hr : rodB L B T = true) (hp : ∀ W, Tab W → Errs W → MaxAt W → Calls Tryd.prog 23 #[.string s] W fun e w' => e = .returned (.agg #[.int .i64 L, .int .i64 B, .int .i64 T]) ∧ Below W.heap.size W w') (w : World) (ht : Tab w) (he : Errs w) (hm : MaxAt w) :
    Calls Tryd.prog 11 #[.string s] w fun e w' => e = .returned (retV (some (L, B, T))) ∧ Below w.heap.size w w' := by
  have HP := Lib.hid hp
  clear hp
  have hb0 := rodB_of hr
  have n1 : (L == 0) = false := by simp; omega
  have n2 : ¬ L = 0 := by omega
  have HT := Lib.hid ht
  have HE := Lib.hid he
  have HM := Lib.hid hm
  clear ht he hm
  go_enter Tryd.func11, Tryd.ntmps11
  go_wp2_with fail
  have G0 : ∀ o, Below w.heap.size w (w.alloc o) := fun o => (Below.refl _ _).alloc (Nat.le_refl _) o
  refine (HP.out _ (tab_below HT.out (G0 _)) (errs_below HE.out (G0 _)) (maxAt_below HM.out (G0 _))).mono ?_
  rintro e w1 ⟨rfl, hb⟩
  have x1 := hb.size
  simp at x1
  have r0 : w1.cell? ⟨w.heap.size, 0, none⟩ = some (.int .i64 0) := by rw [(bcell hb).1 _ _ (by first | omega | (simp; done) | (simp; omega))]; first | exact r0 | (rw [World.cell?_alloc_lt _ _ _ (by simp; omega)]; exact r0) | go_simp
  have f0 : w1.frozen? ⟨w.heap.size, 0, none⟩ = false := by rw [(bcell hb).2 _ _ (by first | omega | (simp; done) | (simp; omega))]; first | exact f0 | (rw [World.frozen?_alloc_old _ _ _ (by simp; omega)]; exact f0) | go_simp
  have r1 : w1.cell? ⟨w.heap.size, 1, none⟩ = some (.int .i64 0) := by rw [(bcell hb).1 _ _ (by first | omega | (simp; done) | (simp; omega))]; first | exact r1 | (rw [World.cell?_alloc_lt _ _ _ (by simp; omega)]; exact r1) | go_simp
  have f1 : w1.frozen? ⟨w.heap.size, 1, none⟩ = false := by rw [(bcell hb).2 _ _ (by first | omega | (simp; done) | (simp; omega))]; first | exact f1 | (rw [World.frozen?_alloc_old _ _ _ (by simp; omega)]; exact f1) | go_simp
  have r2 : w1.cell? ⟨w.heap.size, 2, none⟩ = some (.int .i64 0) := by rw [(bcell hb).1 _ _ (by first | omega | (simp; done) | (simp; omega))]; first | exact r2 | (rw [World.cell?_alloc_lt _ _ _ (by simp; omega)]; exact r2) | go_simp
  have f2 : w1.frozen? ⟨w.heap.size, 2, none⟩ = false := by rw [(bcell hb).2 _ _ (by first | omega | (simp; done) | (simp; omega))]; first | exact f2 | (rw [World.frozen?_alloc_old _ _ _ (by simp; omega)]; exact f2) | go_simp
  have B1 : Below w.heap.size w w1 := (G0 _).trans (hb.mono (by simp))
  have hn1 : ¬ w.heap.size = w1.heap.size := by omega
  have hn1' : ¬ w1.heap.size = w.heap.size := by omega
  have hl1 : w.heap.size < w1.heap.size := by omega
  clear hb G0
  go_wp2_with fail
  go_region
  go_wp2
  try simp only [Exit.inBlock, Exit.then]
  refine bodyPost_ret (by simp [results, Tryd.results11, go_sem, r0, r1, r2, hl1]; try rfl) rfl ?_
  exact ⟨rfl, ((bset (bset (bset B1 _ _ (by simp)) _ _ (by simp)) _ _ (by simp)).alloc (by simp; omega) _).drew⟩

theorem read_rod_i (s : ByteArray) (hs : s.size ≤ 1048576) (w : World) (ht : Tab w) (he : Errs w) (hm : MaxAt w) :
    Calls Tryd.prog 11 #[.string s] w fun e w' => e = .returned (retV (readI s.data.toList)) ∧ Below w.heap.size w w' := by
  have hp := fun W h1 h2 h3 => parse_i s hs W h1 h2 h3
  cases ho : readI s.data.toList with
  | none =>
    rw [ho] at hp
    exact read_rod_no s hp w ht he hm
  | some r =>
    obtain ⟨L, B, T⟩ := r
    rw [ho] at hp
    exact read_rod_yes s L B T (by unfold readI at ho; obtain ⟨h1, h2⟩ := rodOf_some ho; injection h1 with h1 h3; injection h3 with h3 h4; rw [h1, h3, h4]; exact h2) hp w ht he hm

end Go.Proofs.YtobohjfenjeckabDoor.num
