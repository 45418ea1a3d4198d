/-
  The strokes of a face: a list of rounds, each a part of one block of bytes; the program's newFace. No condition of a statement lies here.
-/
import Derived.Test.YtopiecbldnhihaaDoorQh
import Derived.Test.YtopiecbldnhihaaDoorQj
import Derived.Test.YtopiecbldnhihaaDoorQq
import Derived.OwnWalk
namespace Go.Proofs.YtopiecbldnhihaaDoor.twl
open Go.ChangeShapes Go.WideShapes Go.ChangeAt Go.RowKit Go.Deep Go.Proofs.YtopiecbldnhihaaDoor.mem Go.Proofs.YtopiecbldnhihaaDoor.rod Go.Proofs.YtopiecbldnhihaaDoor.nums Go.Proofs.YtopiecbldnhihaaDoor.shp Go.Proofs.YtopiecbldnhihaaDoor.wv Go.Proofs.YtopiecbldnhihaaDoor.wk
set_option linter.unusedVariables false
set_option maxRecDepth 100000

theorem ne_type {w : World} {B n size g : Nat} {E E' : TypeId} {v : Value} {xs : List Value} {c : Array Value} {z : Nat × Nat} (h : w.ownsRow B E size v n xs) (hg : w.heap[g]? = some (.cells c E' z)) (hE : E ≠ E') : v.ownBlock ≠ some g := fun e => by
  rcases h.2 with ⟨rfl, _⟩ | ⟨g', cap, cur, rfl, _, hh, _⟩
  · simp [Value.ownBlock] at e
  · simp [Value.ownBlock] at e
    subst e
    rw [hg] at hh
    injection hh with hh
    injection hh with _ hh _
    exact hE hh.symm
theorem owns_keep {w w' : World} {B n size : Nat} {E : TypeId} {v : Value} {xs : List Value} (h : w.ownsRow B E size v n xs) (hb : ∀ g, v.ownBlock = some g → g < w.heap.size → w'.heap[g]? = w.heap[g]?) : w'.ownsRow B E size v n xs := by
  obtain ⟨hl, h⟩ := h
  rcases h with h0 | ⟨g, cap, cur, rfl, hB, hh, r⟩
  · exact ⟨hl, .inl h0⟩
  · exact ⟨hl, .inr ⟨g, cap, cur, rfl, hB, (hb g rfl (Array.getElem?_eq_some_iff.1 hh).1).trans hh, r⟩⟩
theorem ownV_ne {w : World} {g n : Nat} {E E' : TypeId} {V : Nat → Value} (h : OwnV w g E' n V) {B m size : Nat} {v : Value} {xs : List Value} (ho : w.ownsRow B E size v m xs) (hE : E ≠ E') : v.ownBlock ≠ some g := by
  obtain ⟨c, hb, _⟩ := h
  exact ne_type ho hb hE
/-- round r of a face -/
def rndV (b S r : Nat) : Value := .slice (some ⟨b, r * S, none⟩) S S
def rndL (b S r : Nat) : List Value := (List.range r).map (rndV b S)
theorem rndL_succ (b S r : Nat) : rndL b S (r + 1) = rndL b S r ++ [rndV b S r] := by unfold rndL; rw [List.range_succ, List.map_append]; rfl
theorem rndL_len (b S r : Nat) : (rndL b S r).length = r := by unfold rndL; simp
/-- a face in memory -/
structure FaceAt (w : World) (B g b R S : Nat) (V : Nat → Nat → UInt8) : Prop where
  list : OwnV w g 22 R (rndV b S)
  rows : OwnV w b 5 (R * S) (fun j => bv (V (j / S) (j % S)))
  lo : B ≤ g ∧ B ≤ b
theorem FaceAt.below {w w' : World} {B g b R S K : Nat} {V : Nat → Nat → UInt8} (h : FaceAt w B g b R S V) (hb : Below K w w') (hK : w.heap.size ≤ K) : FaceAt w' B g b R S V :=
  ⟨h.list.below hb (by have := h.list.lt; omega), h.rows.below hb (by have := h.rows.lt; omega), h.lo⟩
theorem FaceAt.lower {w : World} {B B' g b R S : Nat} {V : Nat → Nat → UInt8} (h : FaceAt w B g b R S V) (hB : B' ≤ B) : FaceAt w B' g b R S V := ⟨h.list, h.rows, by have := h.lo; omega, by have := h.lo; omega⟩
theorem FaceAt.round {w : World} {B g b R S : Nat} {V : Nat → Nat → UInt8} (h : FaceAt w B g b R S V) {r : Nat} (hr : r < R) : w.cell? ⟨g, r, none⟩ = some (.slice (some ⟨b, r * S, none⟩) S S) := h.list.cell hr
theorem FaceAt.cell {w : World} {B g b R S : Nat} {V : Nat → Nat → UInt8} (h : FaceAt w B g b R S V) {r k : Nat} (hr : r < R) (hk : k < S) : w.cell? ⟨b, r * S + k, none⟩ = some (.int .u8 ((V r k).toNat : Int)) := by
  have h1 : r * S + k < R * S := by
    have := Nat.mul_le_mul_right S (show r + 1 ≤ R by omega)
    rw [Nat.add_mul, Nat.one_mul] at this
    omega
  rw [h.rows.cell h1]
  rw [show (r * S + k) / S = r by rw [Nat.mul_comm, Nat.mul_add_div (by omega), Nat.div_eq_of_lt hk, Nat.add_zero], show (r * S + k) % S = k by rw [Nat.mul_comm, Nat.mul_add_mod, Nat.mod_eq_of_lt hk]]
  rfl
theorem info_bytes : (Tryd.prog.info? 22).map (fun i => (i.zero, i.size, i.bytes)) = some (some (.slice none 0 0), 1, 24) := by kernel_rfl
theorem ownV_list {w : World} {B b S R : Nat} {v : Value} (h : w.ownsRow B 22 1 v R (rndL b S R)) (h0 : 0 < R) : ∃ g c, v = .slice (some ⟨g, 0, none⟩) R c ∧ R ≤ c ∧ c ≤ maxLen ∧ B ≤ g ∧ OwnV w g 22 R (rndV b S) := by
  have e : rndL b S R = (List.range (R * 1)).map (rndV b S) := by unfold rndL; rw [Nat.mul_one]
  rw [e] at h
  obtain ⟨A, c, e1, h1, h2, h3⟩ := ownV_of_owns h
  obtain ⟨g, rfl, hB, hl, ho⟩ := h3 h0
  rw [Nat.mul_one] at ho
  exact ⟨g, c, e1, h1, h2, hB, ho⟩
/-- the letter at a place of a face, as a cell -/
def stk9 (s : ByteArray) (t S j : Nat) : UInt8 := byteU s (plc s.size t (j % S) (j / S))
theorem stk9_at (s : ByteArray) (t : Nat) {S r k : Nat} (hk : k < S) : stk9 s t S (r * S + k) = byteU s (plc s.size t k r) := by
  unfold stk9
  rw [show (r * S + k) / S = r by rw [Nat.mul_comm, Nat.mul_add_div (by omega), Nat.div_eq_of_lt hk, Nat.add_zero], show (r * S + k) % S = k by rw [Nat.mul_comm, Nat.mul_add_mod, Nat.mod_eq_of_lt hk]]
theorem cut3 (b m m2 P S : Nat) (W : World) (h1 : m2 = m + S) (h2 : m2 ≤ P) (h3 : 1 ≤ S) :
    (Instr.slice 22 (.slice (some ⟨b, 0, none⟩) P P) (some (.int .i64 (m : Int))) (some (.int .i64 (m2 : Int))) (some (.int .i64 (m2 : Int)))).run Tryd.prog W = .ok (.slice (some ⟨b, m, none⟩) S S) W := by
  have he : Tryd.prog.elem 22 = 5 := by unfold Program.elem; rw [Tryd.underlying22]
  have hu : Tryd.prog.underlying 22 = some (.slice (Tryd.prog.elem 22)) := by rw [he]; exact Tryd.underlying22
  have h := run_slice_lhm (P := Tryd.prog) W 22 (some ⟨b, 0, none⟩) P P hu .i64 .i64 .i64 (m : Int) (m2 : Int) (m2 : Int) (by omega) (by omega) (by omega) (by omega)
  rw [h, he]
  have e1 : m2 - m = S := by omega
  have e2 : ¬ m2 = m := by omega
  have e3 := Tryd.sizeOf5
  simp only [Int.toNat_natCast, sliced, if_neg e2, e1, e3, Result.andThen, Option.map_some, Addr.add_lit, Nat.zero_add, Nat.mul_one]
theorem place_at {r d k N p : Nat} (hr : r ≤ 40) (hd : d ≤ 12) (hk : k ≤ 40) (h0 : 0 < N) (hp : p = (k + r * d) % N) :
    ∃ Q E : Int, wrap64 ((r : Int) * (d : Int)) = Q ∧ wrap64 ((k : Int) + Q) = E ∧ E.tmod (N : Int) = (p : Int) := by
  have h := Nat.mul_le_mul hr hd
  obtain ⟨q, hq⟩ : ∃ q, q = r * d := ⟨_, rfl⟩
  rw [← hq] at h hp
  refine ⟨(q : Int), ((k + q : Nat) : Int), ?_, ?_, ?_⟩
  · rw [hq, Int.natCast_mul, ← Int.natCast_mul, ← hq]
    exact IntWalk.wrap64_in _ ⟨by omega, by omega⟩
  · rw [Int.natCast_add]
    exact IntWalk.wrap64_in _ ⟨by omega, by omega⟩
  · rw [Int.tmod_eq_emod_of_nonneg (by omega), hp, Int.natCast_emod]
theorem mul_in {a b A B : Nat} (ha : a ≤ A) (hb : b ≤ B) : a * b ≤ A * B := Nat.mul_le_mul ha hb

set_option maxHeartbeats 8000000 in
theorem face9_i (A : Option Addr) (n c : Nat) (X : Nat → Int) (t S R : Nat) (w : World) (T : Tw n X (t : Int)) (hr : Sl w A n 1 X) (s0 : 1 ≤ S) (s1 : S ≤ 40) (r0 : 1 ≤ R) (r1 : R ≤ 40) :
    Calls Tryd.prog 30 #[.agg #[.slice A n c, .int .i64 (t : Int)], .int .i64 (S : Int), .int .i64 (R : Int)] w fun e w' => ∃ g b cap, e = .returned (.slice (some ⟨g, 0, none⟩) R cap) ∧ R ≤ cap ∧ cap ≤ maxLen ∧ FaceAt w' w.heap.size g b R S (fun r k => byteU (rowB X n) (plc (rowB X n).size t k r)) ∧ Below w.heap.size w w' := by
  have hz := row_size T
  have h12 := T.n12
  have hw := T.wide
  have t1 := T.st1
  have t2 := T.st2
  have HR := Lib.hid hr
  have HW := Lib.hid (fun W (hw : Below w.heap.size w W) => width_i A n c X (t : Int) W h12 T.part (HR.out.below hw (Nat.le_refl _)))
  have HO := Lib.hid (fun W (hw : Below w.heap.size w W) => row_i A n c X (t : Int) W h12 T.part (HR.out.below hw (Nat.le_refl _)))
  rw [← hz] at HW hw t2
  have HST := Lib.hid (fun (r k : Nat) (hk : k < S) => stk9_at (rowB X n) t (S := S) (r := r) hk)
  have HPL := Lib.hid (fun (k r : Nat) => @plc_lt (rowB X n).size t k r)
  have HFA : Hid (∀ j, bv (stk9 (rowB X n) t S j) = bv (byteU (rowB X n) (plc (rowB X n).size t (j % S) (j / S)))) := fun _ => rfl
  clear hr hz
  generalize hRr : rowB X n = s at *
  clear hRr
  obtain ⟨P, hP⟩ : ∃ P, P = R * S := ⟨_, rfl⟩
  have hPm : P ≤ 1600 := by rw [hP]; exact Nat.mul_le_mul r1 s1
  have hmk := run_make_rows (P := Tryd.prog) 22 5 _ 1 1 Tryd.underlying22 info_u8' .i64 .i64 P (by omega) (by omega)
  obtain ⟨i0, hi0, hz0, hz1, hz2⟩ := info_parts info_bytes
  have hwp : wrap64 ((S : Int) * (R : Int)) = (P : Int) := by
    have e : (S : Int) * (R : Int) = (P : Int) := by rw [hP, Int.natCast_mul, Int.mul_comm]
    rw [e]; exact IntWalk.wrap64_in _ ⟨by omega, by omega⟩
  have hwp' : IntKind.i64.wrap ((S : Int) * (R : Int)) = (P : Int) := by
    have e : (S : Int) * (R : Int) = (P : Int) := by rw [hP, Int.natCast_mul, Int.mul_comm]
    rw [e]; exact IntWalk.i64_in _ (by omega)
  have HP := Lib.hid hP
  clear hP
  obtain ⟨d, hd⟩ : ∃ d, d = s.size - t := ⟨_, rfl⟩
  have hwd : wrap64 ((s.size : Int) - (t : Int)) = (d : Int) := by
    have e : (s.size : Int) - (t : Int) = (d : Int) := by omega
    rw [e]; exact IntWalk.wrap64_in _ ⟨by omega, by omega⟩
  have hd12 : d ≤ 12 := by omega
  have HD := Lib.hid (fun (k r : Nat) => show plc s.size t k r = (k + r * d) % s.size by unfold plc; rw [hd])
  clear hd
  go_enter Tryd.func30, Tryd.ntmps30
  go_wp2_with fail
  have B0 : Below w.heap.size w (w.alloc (Obj.cells #[Value.slice A n c, .int .i64 (t : Int)] 26)) := by go_grown
  have K0 : TwBlk (w.alloc (Obj.cells #[Value.slice A n c, .int .i64 (t : Int)] 26)) w.heap.size (.slice A n c) (t : Int) := Go.Deep.blk_alloc_new _ _
  generalize hw1 : w.alloc (Obj.cells #[Value.slice A n c, .int .i64 (t : Int)] 26) = w1 at *
  clear hw1
  have p0 := K0.cell0
  have p1 := K0.cell1
  have HB0 := Lib.hid B0
  have HK0 := Lib.hid K0
  have z0 := K0.lt
  clear B0 K0
  go_region_held3 (fun x => x.cell? ⟨w.heap.size, 0, none⟩ = some (.slice A n c) ∧ x.cell? ⟨w.heap.size, 1, none⟩ = some (.int .i64 (t : Int))) (first | exact ⟨p0, p1⟩ | go_keep)
    (first
      | (go_at_call 36; refine (HO.out _ (by first | exact HB0.out.drew | exact b3.drew | exact b3)).mono ?_; rintro e w2 ⟨rfl, hb⟩
         have K2 := Lib.hid (TwBlk.of_block (w' := w2) (by first | exact HK0.out | exact K3.out) (hb.block _ (by first | (simp; omega) | omega)))
         have b2 : Below w.heap.size w w2 := by first | exact HB0.out.drew.trans (hb.mono (by simp; omega)) | exact b3.trans (hb.mono (by omega))
         have z2 := K2.out.lt
         have p0 := K2.out.cell0
         have p1 := K2.out.cell1
         clear hb)
      | (go_at_call 42; refine (HW.out _ (by first | exact HB0.out.drew | exact b2.drew | exact b2)).mono ?_; rintro e w3 ⟨rfl, hb⟩
         have K3 := Lib.hid (TwBlk.of_block (w' := w3) (by first | exact HK0.out | exact K2.out) (hb.block _ (by first | (simp; omega) | omega)))
         have b3 : Below w.heap.size w w3 := by first | exact HB0.out.drew.trans (hb.mono (by simp; omega)) | exact b2.trans (hb.mono (by omega))
         have z3 := K3.out.lt
         have p0 := K3.out.cell0
         have p1 := K3.out.cell1
         clear hb))
  go_wp2_with fail
  obtain ⟨b, hbb⟩ : ∃ b, b = w3.heap.size := ⟨_, rfl⟩
  have HV : Hid (OwnV (w3.alloc (Obj.cells (madeCells #[Value.int IntKind.u8 0] P) 5)) b 5 P (fun j => if j < 0 * S then bv (stk9 s t S j) else .int .u8 0)) := by
    rw [hbb]
    exact ownV_made _ _ _ _ _ _ (fun i hi => by simp [Nat.mod_one]) (by simp) (by omega)
  have HK := Lib.hid (K3.out.of_block (w' := w3.alloc (Obj.cells (madeCells #[Value.int IntKind.u8 0] P) 5)) (Go.Deep.blk_alloc_lt _ _ _ z3))
  have HB := Lib.hid (show Below w.heap.size w (w3.alloc (Obj.cells (madeCells #[Value.int IntKind.u8 0] P) 5)) from b3.alloc (by omega) _)
  have hbw : w.heap.size ≤ b := by omega
  rw [← hbb]
  generalize w3.alloc (Obj.cells (madeCells #[Value.int IntKind.u8 0] P) 5) = w4 at *
  clear hmk K2 K3 b2 b3 z2 z3 hbb
  go_loopw [25, 7] (fun i v wr => ∃ r : Nat, r ≤ R ∧ i = .int .i64 (r : Int) ∧ Hid (wr.ownsRow w.heap.size 22 1 v r (rndL b S r)) ∧ Hid (OwnV wr b 5 P (fun j => if j < r * S then bv (stk9 s t S j) else .int .u8 0)) ∧ Hid (TwBlk wr w.heap.size (.slice A n c) (t : Int)) ∧ Hid (Below w.heap.size w wr)) (fun i _ _ => R - (intOf i).toNat)
  case atStart => exact ⟨0, by omega, rfl, ⟨rfl, .inl ⟨rfl, rfl⟩⟩, HV, HK, HB⟩
  case round =>
    clear HV HK HB
    obtain ⟨r, hr, rfl, HOw, HVr, HKr, HBr⟩ := hrel
    by_cases hlt : r < R
    · have hlt' : (r : Int) < (R : Int) := by omega
      have hr0 : (0 : Int) ≤ (r : Int) := by omega
      obtain ⟨m, hm⟩ : ∃ m, m = r * S := ⟨_, rfl⟩
      obtain ⟨m2, hm2⟩ : ∃ m2, m2 = m + S := ⟨_, rfl⟩
      have hmP : m2 ≤ P := by
        rw [HP.out, hm2, hm]
        have := Nat.mul_le_mul_right S (show r + 1 ≤ R by omega)
        rwa [Nat.add_mul, Nat.one_mul] at this
      have hm0 : m ≤ m2 := by omega
      have hwm : wrap64 ((r : Int) * (S : Int)) = (m : Int) := by
        have e : (r : Int) * (S : Int) = (m : Int) := by rw [hm, Int.natCast_mul]
        rw [e]; exact IntWalk.wrap64_in _ ⟨by omega, by omega⟩
      have hwn : wrap64 (((r : Int) + 1) * (S : Int)) = (m2 : Int) := by
        have e : ((r : Int) + 1) * (S : Int) = (m2 : Int) := by rw [hm2, hm, Int.add_mul, Int.one_mul, Int.natCast_add, Int.natCast_mul]
        rw [e]; exact IntWalk.wrap64_in _ ⟨by omega, by omega⟩
      have HWM := Lib.hid hwm
      have HWN := Lib.hid hwn
      clear hwm hwn
      have hbl := HVr.out.lt
      have hsl := fun W => cut3 b m m2 P S W (by omega) (by omega) s0
      have HM := Lib.hid hm
      have HM2 := Lib.hid hm2
      clear hm hm2
      go_upto_region 8 with fail
      rw [HWM.out, HWN.out]
      go_wp2_with fail
      clear hsl
      have HV0 : Hid (OwnV wr b 5 P (fun j => if j < m + 0 then bv (stk9 s t S j) else .int .u8 0)) := by
        have h := HVr.out
        rw [← HM.out] at h
        exact h
      go_loopw [41] (fun i wq => ∃ k : Nat, k ≤ S ∧ i = .int .i64 (k : Int) ∧ Hid (wq.ownsRow w.heap.size 22 1 u7 r (rndL b S r)) ∧ Hid (OwnV wq b 5 P (fun j => if j < m + k then bv (stk9 s t S j) else .int .u8 0)) ∧ Hid (TwBlk wq w.heap.size (.slice A n c) (t : Int)) ∧ Hid (Below w.heap.size w wq)) (fun i _ => S - (intOf i).toNat)
      case atStart => exact ⟨0, by omega, rfl, HOw, HV0, HKr, HBr⟩
      case round =>
        clear HV0 HOw HVr HKr HBr
        obtain ⟨k, hk, rfl, HOk, HVk, HKk, HBk⟩ := hrel
        by_cases hlk : k < S
        · have hlk' : (k : Int) < (S : Int) := by omega
          have hk0 : (0 : Int) ≤ (k : Int) := by omega
          go_upto_region 12 with fail
          obtain ⟨p, hp⟩ : ∃ p, p = plc s.size t k r := ⟨_, rfl⟩
          have hpl : p < s.size := by rw [hp]; exact HPL.out k r (by omega)
          have hby : stk9 s t S (m + k) = s[p]'hpl := by
            rw [HM.out, HST.out r k hlk, ← hp]
            unfold byteU; rw [dif_pos hpl]
          have hcl := HVk.out.cell (j := m + k) (by have := HM2.out; omega)
          rw [if_neg (Nat.lt_irrefl _)] at hcl
          have hfz := HVk.out.frozen (m + k)
          have hst := HKk.out.cell1
          obtain ⟨Q, E, hw2, hw3, hE'⟩ := place_at (N := s.size) (show r ≤ 40 by omega) (show d ≤ 12 by omega) (show k ≤ 40 by omega) (by omega) (hp.trans (HD.out k r))
          have hn0 : ((s.size : Int) == 0) = false := beq_false_of_ne (by omega)
          have hn1 : 1 ≤ (s.size : Int) := by omega
          have hp0 : (0 : Int) ≤ (p : Int) := by omega
          have hp1 : (p : Int) < (s.size : Int) := by omega
          have HBY := Lib.hid hby
          clear hp hby
          clear hw t1 t2
          go_wp2
          go_roundw
          case rel =>
            refine ⟨k + 1, by omega, by go_num, Lib.hid (owns_keep HOk.out fun g e hg => Go.Deep.blk_setCell_other _ _ _ _ ?_), Lib.hid ((HVk.out.set (m + k) _).congr fun j hj => ?_), Lib.hid (HKk.out.other ?_ _), Lib.hid (Below.setCell HBk.out hbw _)⟩
            · intro e2
              have e3 : g = b := e2
              subst e3
              exact ownV_ne HVk.out HOk.out (by decide) e
            · by_cases e0 : j = m + k
              · subst e0
                rw [if_pos rfl, if_pos (by omega), HBY.out]; rfl
              · rw [if_neg e0]
                by_cases e3 : j < m + k
                · rw [if_pos e3, if_pos (by omega)]
                · rw [if_neg e3, if_neg (by omega)]
            · show ¬ w.heap.size = b
              intro e2
              obtain ⟨cs, hcs, _⟩ := HVk.out
              have h2 : wr.heap[w.heap.size]? = _ := HKk.out
              rw [e2, hcs] at h2
              injection h2 with h2
              injection h2 with _ h2 _
              exact absurd h2 (by decide)
          case measure => simp [intOf]; omega
        · obtain rfl : k = S := by omega
          have HV2 : Hid (OwnV wr b 5 P (fun j => if j < (r + 1) * k then bv (stk9 s t k j) else .int .u8 0)) := by
            have h := HVk.out
            rw [HM.out, ← Nat.succ_mul] at h
            exact h
          have hzz := HBk.out.size
          have hl1 : r + 1 ≤ maxLen := by unfold maxLen; omega
          have hl2 : (r + 1) * 24 ≤ 140737488355328 := by omega
          have HSU := Lib.hid (rndL_succ b k r)
          have hrv : rndV b k r = .slice (some ⟨b, m, none⟩) k k := by unfold rndV; rw [HM.out]
          have HRV := Lib.hid hrv
          clear hrv
          go_wp2_with (at_builtin; refine wpList_append_own _ rfl _ _ 53 rfl w.heap.size 22 i0 (.slice none 0 0) 1 24 Tryd.underlying53 hi0 hz0 hz1 hz2 rfl (by decide) _ _ _ rfl (HOk.out.alloc _) ⟨wr.heap.size, 0, none⟩ 1 1 [.slice (some ⟨b, m, none⟩) k k] rfl rfl ?c1 ?c2 hl1 hl2 ?c5 ?_)
          case c1 => intro j u hj; rcases j with _ | j <;> simp at hj; subst hj; go_simp
          case c2 => intro u hu; simp at hu; subst hu; rfl
          case c5 => simp; omega
          intro v' w5 hown5 hgrow5 _
          have g5 : Below w.heap.size w w5 := Below.grown (HBk.out.alloc hzz _) hgrow5 (by simp; omega) (owns_block HOk.out)
          have HB5 := Lib.hid g5
          have HO5 : Hid (w5.ownsRow w.heap.size 22 1 v' (r + 1) (rndL b k (r + 1))) := by rw [HSU.out, HRV.out]; exact hown5
          have HV5 := Lib.hid (HV2.out.of_block (w' := w5) ((hgrow5.block b (by simp; have := HV2.out.lt; omega) (fun e => ownV_ne HV2.out HOk.out (by decide) e.symm)).trans (Go.Deep.blk_alloc_lt _ _ _ HV2.out.lt)))
          have HK5 := Lib.hid (HKk.out.of_block (w' := w5) ((hgrow5.block w.heap.size (by simp; have := HKk.out.lt; omega) (fun e => ne_type HOk.out HKk.out (by decide) e.symm)).trans (Go.Deep.blk_alloc_lt _ _ _ HKk.out.lt)))
          clear hown5 hgrow5 g5
          go_wp2
          go_roundw
          case rel => exact ⟨r + 1, by omega, by go_num, HO5, HV5, HK5, HB5⟩
          case measure => simp [intOf]; omega
    · obtain rfl : r = R := by omega
      obtain ⟨g, cap, rfl, hc1, hc2, hg, ho⟩ := ownV_list HOw.out (by omega)
      have HF : Hid (FaceAt wr w.heap.size g b r S (fun q k => byteU s (plc s.size t k q))) := ⟨ho, by
        have h := HVr.out
        rw [HP.out] at h
        exact h.congr fun j hj => by rw [if_pos hj, HFA.out], hg, hbw⟩
      clear ho
      go_wp2
      go_ret
      exact ⟨g, b, cap, rfl, hc1, hc2, HF.out, HBr.out⟩

end Go.Proofs.YtopiecbldnhihaaDoor.twl
