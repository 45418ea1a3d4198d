/-
  What a stake of a face sees, and the longest floats of a twill, of the program. No condition of a statement lies here.
-/
import Derived.Test.YtopiecbldnhihaaDoorQr
import Derived.Test.YtopiecbldnhihaaDoorQp
import Derived.Test.YtopiecbldnhihaaDoorFold9
namespace Go.Proofs.YtopiecbldnhihaaDoor.twl
open Go.ChangeShapes Go.WideShapes Go.ChangeAt Go.RowKit Go.Deep Go.Proofs.YtopiecbldnhihaaDoor.mem Go.Proofs.YtopiecbldnhihaaDoor.rod Go.Proofs.YtopiecbldnhihaaDoor.nums Go.Proofs.YtopiecbldnhihaaDoor.shp Go.Proofs.YtopiecbldnhihaaDoor.wv Go.Proofs.YtopiecbldnhihaaDoor.wk
set_option linter.unusedVariables false
set_option maxRecDepth 100000

theorem rnd_gcd {n t : Nat} (h : 1 ≤ t) : (n : Int) / gcdI (n : Int) (t : Int) = (rnd n t : Nat) := by
  have e : gcdI (n : Int) (t : Int) = (Nat.gcd n t : Nat) := rfl
  rw [e]
  unfold rnd
  rw [Int.natCast_ediv]

set_option maxHeartbeats 1000000 in
theorem lam9 (g b cap R S B r k b1 b2 : Nat) (V : Nat → Nat → UInt8) (w : World) (hr : r < R) (hk : k < S) (hF : FaceAt w B g b R S V)
    (c0 : w.cell? ⟨b1, 0, none⟩ = some (.slice (some ⟨g, 0, none⟩) R cap)) (c1 : w.cell? ⟨b2, 0, none⟩ = some (.int .i64 (k : Int))) :
    Calls Tryd.prog 74 #[.int .i64 (r : Int), .pointer (some ⟨b1, 0, none⟩), .pointer (some ⟨b2, 0, none⟩)] w fun e w' => e = .returned (.int .u8 ((V r k).toNat : Int)) ∧ Below w.heap.size w w' := by
  have p0 := hF.round hr
  have p1 := hF.cell hr hk
  generalize r * S = m at *
  have q0 : (0 : Int) ≤ (r : Int) := by omega
  have q1 : (r : Int) < (R : Int) := by omega
  have q2 : (0 : Int) ≤ (k : Int) := by omega
  have q3 : (k : Int) < (S : Int) := by omega
  generalize (V r k).toNat = y at *
  clear hF
  go_enter Tryd.func74, Tryd.ntmps74
  go_wp2_with fail
  go_quiet (fail)
  go_wp2
  go_ret
  exact ⟨rfl, drewN_below (Below.refl _ _) _⟩

set_option maxHeartbeats 4000000 in
theorem sidesAt9 (g b cap R S B k b1 b2 : Nat) (V : Nat → Nat → UInt8) (w : World) (hR : R ≤ 60) (hk : k < S) (hF : FaceAt w B g b R S V) (l1 : b1 < w.heap.size) (l2 : b2 < w.heap.size)
    (c0 : w.cell? ⟨b1, 0, none⟩ = some (.slice (some ⟨g, 0, none⟩) R cap)) (c1 : w.cell? ⟨b2, 0, none⟩ = some (.int .i64 (k : Int))) :
    Calls Tryd.prog 73 #[.int .i64 (R : Int), .func (.func 74) #[] #[.pointer (some ⟨b1, 0, none⟩), .pointer (some ⟨b2, 0, none⟩)]] w fun e w' => e = .returned (.string (mkB (fun r => V r k) R)) ∧ Below w.heap.size w w' := by
  have hmk := run_make_rows (P := Tryd.prog) 22 5 _ 1 1 Tryd.underlying22 info_u8 .i64 .i64 R (by omega) (by omega)
  obtain ⟨f, hf⟩ : ∃ f, f = fun r => V r k := ⟨_, rfl⟩
  obtain ⟨O, hO⟩ : ∃ O, O = mkB f R := ⟨_, rfl⟩
  have HL := Lib.hid (fun (j : Nat) (hj : j < R) (W : World) (hW : Below w.heap.size w W) => (show Calls Tryd.prog 74 #[.int .i64 (j : Int), .pointer (some ⟨b1, 0, none⟩), .pointer (some ⟨b2, 0, none⟩)] W fun e w' => e = .returned (.int .u8 ((f j).toNat : Int)) ∧ Below W.heap.size W w' by
    rw [hf]
    exact lam9 g b cap R S B j k b1 b2 V W hj hk (hF.below hW (Nat.le_refl _)) ((hW.cell (p := ⟨b1, 0, none⟩) l1).trans c0) ((hW.cell (p := ⟨b2, 0, none⟩) l2).trans c1)))
  rw [← hf, ← hO]
  have HO := Lib.hid hO
  clear hf hO c0 c1 hF
  go_enter Tryd.func73, Tryd.ntmps73
  go_wp2_with fail
  have hV : OwnV (w.alloc (Obj.cells (madeCells #[Value.int IntKind.u8 0] R) 5)) w.heap.size 5 R (fun j => if j < 0 then bv (f j) else .int .u8 0) :=
    ownV_made _ _ _ _ _ _ (fun i hi => by simp [Nat.mod_one]) (by simp) (by omega)
  have HV := Lib.hid hV
  clear hV hmk
  go_loopw [11] (fun i wr => ∃ k : Nat, k ≤ R ∧ i = .int .i64 (k : Int) ∧ Hid (OwnV wr w.heap.size 5 R (fun j => if j < k then bv (f j) else .int .u8 0)) ∧ Below w.heap.size w wr) (fun i _ => R - (intOf i).toNat)
  case atStart => exact ⟨0, by omega, rfl, HV, by go_grown⟩
  case round =>
    obtain ⟨q, hq, rfl, hown, hbl⟩ := hrel
    have HB := Lib.hid hbl
    have hzz := hbl.size
    clear hbl
    by_cases hlt : q < R
    · have hlt' : (q : Int) < (R : Int) := by omega
      have hk0 : (0 : Int) ≤ (q : Int) := by omega
      have hol := hown.out.lt
      have HL2 := Lib.hid (HL.out q hlt)
      have hbv := Lib.hid (show bv (f q) = .int .u8 ((f q).toNat : Int) from rfl)
      obtain ⟨y, hy⟩ : ∃ y, (f q).toNat = y := ⟨_, rfl⟩
      rw [hy] at HL2 hbv
      clear hy
      go_wp2_with (go_at_call 74; refine (HL2.out _ HB.out).mono ?_; rintro e w2 ⟨rfl, hb⟩; have O2 := hown.out.below hb hol; have ck := O2.cell hlt; rw [if_neg (Nat.lt_irrefl q)] at ck; have fk := O2.frozen q; have HO2 := Lib.hid O2; have g2 := HB.out.trans (hb.mono hzz); clear O2 hb)
      go_roundw
      case rel =>
        refine ⟨q + 1, by omega, by go_num, Lib.hid ((HO2.out.set q (.int .u8 y)).congr (fun j hj => ?_)), Below.setCell g2 (Nat.le_refl _) _⟩
        by_cases e0 : j = q
        · subst e0; rw [if_pos rfl, if_pos (by omega), hbv.out]
        · rw [if_neg e0]
          by_cases e3 : j < q
          · rw [if_pos e3, if_pos (by omega)]
          · rw [if_neg e3, if_neg (by omega)]
      case measure => simp [intOf]; omega
    · obtain rfl : q = R := by omega
      have hcv : (convert 22 9 (.slice (some ⟨w.heap.size, 0, none⟩) q q)).run Tryd.prog wr = .ok (.string O) wr := by
        rw [HO.out]
        refine run_str_row (P := Tryd.prog) wr 22 9 5 Tryd.underlying22 Tryd.underlying5 Tryd.underlying9 _ q q (mkL f q) (mkL_len f q) fun j v hj => ?_
        have hjk : j < q := by have := (List.getElem?_eq_some_iff.1 hj).1; rw [List.length_map, mkL_len] at this; exact this
        have hc := hown.out.cell hjk
        rw [if_pos hjk] at hc
        rw [List.getElem?_map, show (mkL f q)[j]? = some (f j) by simp [mkL, hjk]] at hj
        simp only [Option.map_some, Option.some.injEq] at hj
        rw [← hj]
        have ea : (⟨w.heap.size, 0, none⟩ : Addr).add j = ⟨w.heap.size, j, none⟩ := by simp [Addr.add]; exact fun h => h.symm
        rw [ea]; exact hc
      go_wp2
      go_ret
      exact ⟨rfl, HB.out⟩

set_option maxHeartbeats 1000000 in
theorem along_i (g b cap R S B k : Nat) (V : Nat → Nat → UInt8) (w : World) (hR : R ≤ 60) (hk : k < S) (hF : FaceAt w B g b R S V) :
    Calls Tryd.prog 65 #[.slice (some ⟨g, 0, none⟩) R cap, .int .i64 (k : Int)] w fun e w' => e = .returned (.string (mkB (fun r => V r k) R)) ∧ Below w.heap.size w w' := by
  have HF := Lib.hid (fun W (hw : Below w.heap.size w W) => hF.below hw (Nat.le_refl _))
  clear hF
  go_enter Tryd.func65, Tryd.ntmps65
  go_wp2_with fail
  refine (sidesAt9 g b cap R S B k w.heap.size (w.heap.size + 1) V _ hR hk (HF.out _ (by go_grown)) (by simp <;> omega) (by simp) (by go_simp) (by go_simp)).mono ?_
  rintro e w2 ⟨rfl, hb⟩
  have g2 : Below w.heap.size w w2 := Below.trans (by go_grown) (hb.mono (by simp <;> omega))
  clear hb
  go_wp2
  go_ret
  exact ⟨rfl, g2⟩

/-- letters of a row, as of a text -/
theorem ascii_row {X : Nat → Int} {n : Nat} (i : Nat) (hi : i < (rowB X n).size) : byteAt (rowB X n) i < 128 := by
  rw [byteAt_eq hi]
  have h : (rowB X n)[i]'hi ∈ rowL X n := by
    have e : (rowB X n)[i]'hi = (rowL X n)[i]'(by rw [← rowB_size]; exact hi) := rfl
    rw [e]; exact List.getElem_mem _
  rcases rowL_mem h with h | h <;> rw [h] <;> decide
theorem ascii_line {X : Nat → Int} {n t k : Nat} (h0 : 0 < (rowB X n).size) (i : Nat) (hi : i < (lineB (rowB X n) t k).size) : byteAt (lineB (rowB X n) t k) i < 128 := by
  rw [lineB_size] at hi
  have e : byteAt (lineB (rowB X n) t k) i = ((lineU (rowB X n) t k i).toNat : Int) := mkB_byte _ hi
  rw [e]
  have h := ascii_row (X := X) (n := n) (plc (rowB X n).size t k i) (plc_lt h0)
  rw [byteU_at] at h
  exact h

end Go.Proofs.YtopiecbldnhihaaDoor.twl
