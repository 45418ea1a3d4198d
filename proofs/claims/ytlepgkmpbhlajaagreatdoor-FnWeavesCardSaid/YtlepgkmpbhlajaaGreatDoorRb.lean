/-
  What a Replacer of F for B and B for F builds: a table of 256 bytes.
-/
import Derived.Test.YtlepgkmpbhlajaaGreatDoorOn
import Derived.Test.YtlepgkmpbhlajaaGreatDoorOwnV
import Derived.Deep.WholeRow
import Derived.Lib.SliceRun
import Derived.Outline
namespace Go.Proofs.YtlepgkmpbhlajaaGreatDoor.rp
open Go.ChangeShapes Go.WideShapes Go.ChangeAt Go.RowKit Go.Proofs.YtlepgkmpbhlajaaGreatDoor.mem
set_option linter.unusedVariables false

/-- the table, k entries written -/
def idT (k : Nat) (j : Nat) : Value := .int .u8 (if j < k then (j : Int) else 0)
def oneT (j : Nat) : Value := if j = 66 then .int .u8 70 else .int .u8 j
def flT (j : Nat) : Value := if j = 70 then .int .u8 66 else if j = 66 then .int .u8 70 else .int .u8 j
theorem idT_set (k : Nat) : (fun j => if j = k then Value.int .u8 (k : Int) else idT k j) = idT (k + 1) := by
  funext j
  unfold idT
  by_cases e : j = k
  · subst e; rw [if_pos rfl, if_pos (by omega)]
  · rw [if_neg e]
    by_cases h : j < k
    · rw [if_pos h, if_pos (by omega)]
    · rw [if_neg h, if_neg (by omega)]
/-- the four words -/
def Four (w : World) (g : Nat) : Prop := w.cell? ⟨g, 0, none⟩ = some (.string ⟨#[70]⟩) ∧ w.cell? ⟨g, 1, none⟩ = some (.string ⟨#[66]⟩) ∧ w.cell? ⟨g, 2, none⟩ = some (.string ⟨#[66]⟩) ∧ w.cell? ⟨g, 3, none⟩ = some (.string ⟨#[70]⟩)
theorem Four.below {w w' : World} {g K : Nat} (h : Four w g) (hb : Below K w w') (hK : g < K) : Four w' g :=
  ⟨(hb.cell (p := ⟨g, _, none⟩) hK).trans h.1, (hb.cell (p := ⟨g, _, none⟩) hK).trans h.2.1, (hb.cell (p := ⟨g, _, none⟩) hK).trans h.2.2.1, (hb.cell (p := ⟨g, _, none⟩) hK).trans h.2.2.2⟩
theorem own_new (w : World) (Z : Array Value) (hZ : Z = Array.replicate 256 (.int .u8 0)) : OwnV (w.alloc (.cells Z 98)) w.heap.size 98 256 (idT 0) := by
  refine ⟨Z, Go.Deep.blk_alloc_new _ _, by rw [hZ]; simp, fun i hi => ?_⟩
  rw [hZ]
  simp [hi, idT]

set_option maxHeartbeats 8000000 in
set_option maxRecDepth 100000 in
theorem build_c (b g c : Nat) (v0 v1 v2 v3 : Value) (w : World) (h : Rep w b v0 v1 v2 v3 (.slice (some ⟨g, 0, none⟩) 4 c)) (hf : Four w g) (hg : g < w.heap.size) :
    Calls Tryz.prog 39 #[.pointer (some ⟨b, 0, none⟩)] w fun e w' => ∃ x, e = .returned (.iface 99 (.pointer (some ⟨x, 0, none⟩))) ∧ w.heap.size ≤ x ∧ OwnV w' x 98 256 flT ∧ Below w.heap.size w w' := by
  obtain ⟨q0, q1, q2, q3⟩ := hf
  have p4 := h.c4
  have hb := h.lt
  obtain ⟨Z, hZ⟩ : ∃ Z, Z = Array.replicate 256 (Value.int .u8 0) := ⟨_, rfl⟩
  have hz := zero_of_info (P := Tryz.prog) (t := 98) (v := .agg (Array.replicate 256 (.int .u8 0))) (n := 256) (by kernel_rfl)
  rw [← hZ] at hz
  have hz1 := hz.1
  have hst := fun W => run_storeAt_new (P := Tryz.prog) W 98 Z Z (by rw [hz.2, hZ]; simp) rfl (by rw [hZ]; kernel_rfl)
  have hsc := fun W => run_storeCells_new (P := Tryz.prog) W 98 Z Z (by rw [hz.2, hZ]; simp) rfl (by rw [hZ]; kernel_rfl)
  have hzs : Z.size = 256 := by rw [hZ]; simp
  have HZ := Lib.hid hZ
  clear hz hZ h
  go_enter Tryz.func39, Tryz.ntmps39
  go_wp2_with fail
  go_loopw [5, 4] (fun i a wr => ∃ k : Int, (k = 0 ∨ k = 2 ∨ k = 4) ∧ i = .int .i64 k ∧ a = .bool true ∧ w = wr) (fun i _ _ => (8 - intOf i).toNat)
  case atStart => exact ⟨0, .inl rfl, rfl, rfl, rfl⟩
  case round =>
    obtain ⟨k, hk, rfl, rfl, rfl⟩ := hrel
    rcases hk with rfl | rfl | rfl
    · go_wp2
      go_roundw
      case rel => exact ⟨2, .inr (.inl rfl), rfl, rfl, by first | trivial | rfl⟩
      case measure => simp [intOf]
    · go_wp2
      go_roundw
      case rel => exact ⟨4, .inr (.inr rfl), rfl, rfl, by first | trivial | rfl⟩
      case measure => simp [intOf]
    · obtain ⟨W0, hW0⟩ : ∃ W, W = w.alloc (.cells Z 98) := ⟨_, rfl⟩
      have O0 := Lib.hid (show OwnV W0 w.heap.size 98 256 (idT 0) from by rw [hW0]; exact own_new w Z HZ.out)
      have B0 := Lib.hid (show Below w.heap.size w W0 from by rw [hW0]; exact (Below.refl _ _).alloc (Nat.le_refl _) _)
      have F0 := Lib.hid (show Four w g from ⟨q0, q1, q2, q3⟩)
      obtain ⟨x, hx⟩ : ∃ x, x = w.heap.size := ⟨_, rfl⟩
      go_wp2_with fail
      rw [← hW0]
      clear hW0 q0 q1 q2 q3 p4
      rw [← hx] at O0
      simp only [← hx]
      have hxw : w.heap.size ≤ x := Nat.le_of_eq hx.symm
      have hgx : g < x := Nat.lt_of_lt_of_le hg hxw
      clear hx
      go_loopw [61] (fun i wr => ∃ k : Nat, k ≤ 256 ∧ i = .int .i64 (k : Int) ∧ Hid (OwnV wr x 98 256 (idT k)) ∧ Hid (Below w.heap.size w wr)) (fun i _ => 256 - (intOf i).toNat)
      case atStart => exact ⟨0, by omega, rfl, O0, B0⟩
      case round =>
        obtain ⟨k, hk, rfl, HO, HB⟩ := hrel
        by_cases hlt : k < 256
        · have p := HO.out.cell hlt
          have fz := HO.out.frozen k
          have k0 : (0 : Int) ≤ (k : Int) := by omega
          have k1 : (k : Int) < 256 := by omega
          have hw : IntKind.u8.wrap (k : Int) = (k : Int) := by rw [IntKind.wrap_u8]; omega
          have HS := Lib.hid (show OwnV (wr.setCell ⟨x, k, none⟩ (.int .u8 (k : Int))) x 98 256 (idT (k + 1)) from by rw [← idT_set]; exact HO.out.set k _)
          have HC := Lib.hid (show Below w.heap.size w (wr.setCell ⟨x, k, none⟩ (.int .u8 (k : Int))) from Below.setCell HB.out hxw _)
          go_wp2
          go_roundw
          case rel => exact ⟨k + 1, by omega, by go_num, HS, HC⟩
          case measure => simp [intOf]; omega
        · obtain rfl : k = 256 := by omega
          have F2 := Lib.hid (F0.out.below HB.out hg)
          have O2 := HO
          clear F0 HO
          go_wp2_with fail
          go_loopw [8] (fun i wr => ((i = .int .i64 2 ∧ Hid (OwnV wr x 98 256 (idT 256))) ∨ (i = .int .i64 0 ∧ Hid (OwnV wr x 98 256 oneT)) ∨ (i = .int .i64 (-2) ∧ Hid (OwnV wr x 98 256 flT))) ∧ Hid (Below w.heap.size w wr) ∧ Hid (Four wr g)) (fun i _ => (4 + intOf i).toNat)
          case atStart => exact ⟨.inl ⟨rfl, O2⟩, HB, F2⟩
          case round =>
            obtain ⟨hst, HB3, HF3⟩ := hrel
            obtain ⟨q0, q1, q2, q3⟩ := HF3.out
            have i66 : ∀ h, (((⟨#[66]⟩ : ByteArray)[0]'h).toNat) = 66 := fun _ => rfl
            have i70 : ∀ h, (((⟨#[70]⟩ : ByteArray)[0]'h).toNat) = 70 := fun _ => rfl
            rcases hst with ⟨rfl, HO⟩ | ⟨rfl, HO⟩ | ⟨rfl, HO⟩
            · have p := HO.out.cell (j := 66) (by omega)
              have fz := HO.out.frozen 66
              rw [show idT 256 66 = Value.int .u8 66 from rfl] at p
              have HS := Lib.hid (show OwnV (wr.setCell ⟨x, 66, none⟩ (.int .u8 70)) x 98 256 oneT from (HO.out.set 66 _).congr fun j hj => by unfold idT oneT; by_cases e : j = 66 <;> simp [e, hj])
              have HC := Lib.hid (show Below w.heap.size w (wr.setCell ⟨x, 66, none⟩ (.int .u8 70)) from Below.setCell HB3.out hxw _)
              have HD := Lib.hid (show Four (wr.setCell ⟨x, 66, none⟩ (.int .u8 70)) g from HF3.out.below (Below.setCell (Below.refl x wr) (Nat.le_refl _) _) hgx)
              go_wp2
              go_roundw
              case rel => exact ⟨.inr (.inl ⟨rfl, HS⟩), HC, HD⟩
              case measure => simp [intOf]
            · have p := HO.out.cell (j := 70) (by omega)
              have fz := HO.out.frozen 70
              rw [show oneT 70 = Value.int .u8 70 from rfl] at p
              have HS := Lib.hid (show OwnV (wr.setCell ⟨x, 70, none⟩ (.int .u8 66)) x 98 256 flT from (HO.out.set 70 _).congr fun j hj => rfl)
              have HC := Lib.hid (show Below w.heap.size w (wr.setCell ⟨x, 70, none⟩ (.int .u8 66)) from Below.setCell HB3.out hxw _)
              have HD := Lib.hid (show Four (wr.setCell ⟨x, 70, none⟩ (.int .u8 66)) g from HF3.out.below (Below.setCell (Below.refl x wr) (Nat.le_refl _) _) hgx)
              go_wp2
              go_roundw
              case rel => exact ⟨.inr (.inr ⟨rfl, HS⟩), HC, HD⟩
              case measure => simp [intOf]
            · clear q0 q1 q2 q3
              go_wp2
              go_ret
              exact ⟨x, rfl, hxw, HO.out, HB3.out⟩
end Go.Proofs.YtlepgkmpbhlajaaGreatDoor.rp
