/-
  A text with F and B exchanged, by the table.
-/
import Derived.Test.YtlepgkmpbhlajaaGreatDoorRd
import Derived.Test.YtlepgkmpbhlajaaGreatDoorWo
import Derived.Laws.IdiomStrings
namespace Go.Proofs.YtlepgkmpbhlajaaGreatDoor.rp
open Go.ChangeShapes Go.WideShapes Go.ChangeAt Go.RowKit Go.Proofs.YtlepgkmpbhlajaaGreatDoor.mem Go.Proofs.YtlepgkmpbhlajaaGreatDoor.rod Go.Proofs.YtlepgkmpbhlajaaGreatDoor.wk Go.Proofs.YtlepgkmpbhlajaaGreatDoor.wv
set_option linter.unusedVariables false

/-- a row whose frozen place lies behind its last cell -/
def OwnF (w : World) (g : Nat) (E : TypeId) (n : Nat) (V : Nat → Value) : Prop :=
  ∃ (c : Array Value) (fz : Nat × Nat), w.heap[g]? = some (.cells c E fz) ∧ n ≤ c.size ∧ c.size ≤ fz.1 ∧ ∀ i, i < n → c[i]? = some (V i)
section
variable {w w' : World} {g n : Nat} {E : TypeId} {V U : Nat → Value}
theorem OwnF.cell (h : OwnF w g E n V) {j : Nat} (hj : j < n) : w.cell? ⟨g, j, none⟩ = some (V j) := by
  obtain ⟨c, fz, hb, _, _, hc⟩ := h
  simp [World.cell?, hb, hc j hj]
theorem OwnF.lt (h : OwnF w g E n V) : g < w.heap.size := by
  obtain ⟨c, fz, hb, _⟩ := h
  obtain ⟨hlt, _⟩ := Array.getElem?_eq_some_iff.1 hb
  exact hlt
theorem OwnF.frozen (h : OwnF w g E n V) {j : Nat} (hj : j < n) : w.frozen? ⟨g, j, none⟩ = false := by
  obtain ⟨c, fz, hb, h1, h2, _⟩ := h
  simp [World.frozen?, hb]
  omega
theorem OwnF.congr (h : OwnF w g E n V) (e : ∀ j, j < n → V j = U j) : OwnF w g E n U := by
  obtain ⟨c, fz, hb, hn, hf, hc⟩ := h
  exact ⟨c, fz, hb, hn, hf, fun i hi => by rw [hc i hi, e i hi]⟩
theorem OwnF.set (h : OwnF w g E n V) (i : Nat) (v : Value) : OwnF (w.setCell ⟨g, i, none⟩ v) g E n (fun j => if j = i then v else V j) := by
  obtain ⟨c, fz, hb, hn, hf, hc⟩ := h
  refine ⟨c.setIfInBounds i v, fz, ?_, by simpa using hn, by simpa using hf, fun j hj => ?_⟩
  · simp [World.setCell, Array.getElem?_modify, hb]
  · rw [Array.getElem?_setIfInBounds]
    by_cases e : j = i
    · subst e
      simp [show j < c.size by omega]
    · rw [if_neg (fun h => e h.symm)]
      show c[j]? = some (if j = i then v else V j)
      rw [if_neg e]
      exact hc j hj
end
/-- k letters exchanged -/
def mixV (s : ByteArray) (k j : Nat) : Value := .int .u8 ((if j < k then flip (byteU s j) else byteU s j).toNat : Int)
theorem mix_set {s : ByteArray} {k : Nat} {w : World} {g : Nat} {E : TypeId} (h : OwnF w g E s.size (mixV s k)) {z : Int} (hz : z = ((flip (byteU s k)).toNat : Int)) : OwnF (w.setCell ⟨g, k, none⟩ (.int .u8 z)) g E s.size (mixV s (k + 1)) := by
  refine (h.set k _).congr fun j hj => ?_
  unfold mixV
  by_cases e : j = k
  · subst e; rw [if_pos rfl, if_pos (by omega), hz]
  · rw [if_neg e]
    by_cases h : j < k
    · rw [if_pos h, if_pos (by omega)]
    · rw [if_neg h, if_neg (by omega)]
theorem own_bytes (w : World) (s : ByteArray) (cp : Nat) : OwnF (w.drew.alloc (.cells (bytesRow s cp) 5 ((bytesRow s cp).size, (bytesRow s cp).size + 1))) w.heap.size 5 s.size (mixV s 0) := by
  refine ⟨_, _, by exact Go.Deep.blk_alloc_new w.drew _, ?_, Nat.le_refl _, fun i hi => ?_⟩
  · unfold bytesRow
    simp
  · unfold bytesRow mixV
    have h1 : i < (s.data.map (fun b => Value.int .u8 (b.toNat : Int))).size := by simpa using hi
    rw [Array.getElem?_append_left h1, Array.getElem?_map, if_neg (by omega)]
    have h2 : i < s.data.size := hi
    rw [Array.getElem?_eq_getElem h2]
    show some (Value.int .u8 ((s.data[i]).toNat : Int)) = _
    unfold byteU
    rw [dif_pos hi]
    rfl
theorem str_flip (w : World) (s : ByteArray) (g cp : Nat) (h : OwnF w g 5 s.size (mixV s s.size)) : (convert 22 9 (.slice (some ⟨g, 0, none⟩) s.size cp)).run Tryz.prog w = .ok (.string (otherB s)) w := by
  have hl : (mkL (fun i => flip (byteU s i)) s.size).length = s.size := mkL_len _ _
  have := run_convert_bytes_back (P := Tryz.prog) w 22 9 5 ⟨g, 0, none⟩ cp (mkL (fun i => flip (byteU s i)) s.size) Tryz.underlying22 Tryz.underlying5 Tryz.underlying9 (fun j hj => by
    have hj' : j < s.size := by rw [hl] at hj; exact hj
    have ha : (⟨g, 0, none⟩ : Addr).add j = ⟨g, j, none⟩ := by unfold Addr.add; split <;> simp_all
    rw [ha, h.cell hj']
    unfold mixV
    rw [if_pos hj']
    simp [mkL])
  rw [hl] at this
  exact this

set_option maxHeartbeats 8000000 in
set_option maxRecDepth 100000 in
theorem breplace_c (x : Nat) (s : ByteArray) (w : World) (ho : OwnV w x 98 256 flT) (hst : strokeB s = true) :
    Calls Tryz.prog 112 #[.pointer (some ⟨x, 0, none⟩), .string s] w fun e w' => e = .returned (.string (otherB s)) ∧ Below w.heap.size w w' := by
  obtain ⟨h0, h12, hfb⟩ := stroke_of hst
  have HO0 := Lib.hid ho
  have hxw := ho.lt
  have HFB := Lib.hid hfb
  clear hst ho hfb
  have hn0 : ∀ W, (binOp .eql 22 (.slice none 0 0) (.slice none 0 0)).run Tryz.prog W = .ok (.bool true) W := fun W => Lib.run_eql_slice_nil W 22 5 none 0 0 0 0 Tryz.underlying22
  have hn1 : ∀ W (a : Addr) (n c : Nat), (binOp .eql 22 (.slice (some a) n c) (.slice none 0 0)).run Tryz.prog W = .ok (.bool false) W := fun W a n c => Lib.run_eql_slice_nil W 22 5 (some a) n c 0 0 Tryz.underlying22
  go_enter Tryz.func112, Tryz.ntmps112
  go_wp2_with fail
  go_loopw [6, 5] (fun i v wr => ∃ k : Nat, k ≤ s.size ∧ i = .int .i64 (k : Int) ∧ Hid (OwnV wr x 98 256 flT) ∧ Hid (Below w.heap.size w wr) ∧ ((k = 0 ∧ v = .slice none 0 0) ∨ (0 < k ∧ ∃ g cp, v = .slice (some ⟨g, 0, none⟩) s.size cp ∧ x < g ∧ w.heap.size ≤ g ∧ Hid (OwnF wr g 5 s.size (mixV s k))))) (fun i _ _ => s.size - (intOf i).toNat)
  case atStart => exact ⟨0, by omega, rfl, HO0, Lib.hid (Below.refl _ _), .inl ⟨rfl, rfl⟩⟩
  case round =>
    obtain ⟨k, hk, rfl, HO, HB, hv⟩ := hrel
    by_cases hlt : k < s.size
    · have k0 : (0 : Int) ≤ (k : Int) := by omega
      have k1 : (k : Int) < (s.size : Int) := by omega
      have hbk := byteAt_eq hlt
      have hU : byteU s k = s[k]'hlt := dif_pos hlt
      rcases HFB.out k hlt with h70 | h70
      · have hv0 : ∀ h, ((s[k]'h).toNat) = 70 := fun _ => by rw [hbk] at h70; omega
        have hz : (66 : Int) = ((flip (byteU s k)).toNat : Int) := by
          rw [hU, show s[k]'hlt = 70 from UInt8.toNat_inj.1 (hv0 hlt)]
          rfl
        have HZ := Lib.hid hz
        clear hz hU hbk h70
        have t0 := HO.out.cell (j := 70) (by omega)
        rw [show flT 70 = Value.int .u8 66 from rfl] at t0
        rcases hv with ⟨rfl, rfl⟩ | ⟨hk0, g, cp, rfl, hxg, hwg, HR⟩
        · obtain ⟨cp, hcp⟩ : ∃ cp, cp = grownCap wr s.size 0 5 := ⟨_, rfl⟩
          obtain ⟨g, hg⟩ : ∃ g, g = wr.heap.size := ⟨_, rfl⟩
          obtain ⟨W1, hW1⟩ : ∃ W, W = wr.drew.alloc (.cells (bytesRow s cp) 5 ((bytesRow s cp).size, (bytesRow s cp).size + 1)) := ⟨_, rfl⟩
          have hcv : (convert 9 22 (.string s)).run Tryz.prog wr = .ok (.slice (some ⟨g, 0, none⟩) s.size cp) W1 := by
            rw [hW1, hcp, hg]; exact run_bytes_of_string (P := Tryz.prog) wr 9 22 5 s Tryz.underlying9 Tryz.underlying22 Tryz.underlying5
          have hR1 : OwnF W1 g 5 s.size (mixV s 0) := by rw [hW1, hg]; exact own_bytes wr s cp
          have hxg : x < g := by rw [hg]; exact HO.out.lt
          have hwg : w.heap.size ≤ g := by rw [hg]; exact HB.out.size
          have hB1 : Below w.heap.size w W1 := by rw [hW1]; exact Below.alloc HB.out.drew HB.out.size _
          have hO1 : OwnV W1 x 98 256 flT := HO.out.of_block (by rw [hW1]; exact Go.Deep.blk_alloc_lt wr.drew _ _ HO.out.lt)
          have t1 := hO1.cell (j := 70) (by omega)
          rw [show flT 70 = Value.int .u8 66 from rfl] at t1
          have c1 := hR1.cell hlt
          rw [show mixV s 0 0 = Value.int .u8 ((byteU s 0).toNat : Int) from rfl] at c1
          have f1 := hR1.frozen hlt
          have HS := Lib.hid (mix_set hR1 HZ.out)
          have HO2 := Lib.hid (hO1.setOther (a := ⟨g, 0, none⟩) (Nat.ne_of_lt hxg) (.int .u8 66))
          have HB2 := Lib.hid (bset hB1 (a := ⟨g, 0, none⟩) hwg (.int .u8 66))
          clear hcp hg hW1 hR1 hB1 hO1
          go_wp2
          go_roundw
          case rel => exact ⟨1, by omega, by go_num, HO2, HB2, .inr ⟨by omega, g, cp, rfl, hxg, hwg, HS⟩⟩
          case measure => simp [intOf]; omega
        · have c1 := HR.out.cell hlt
          have c1' : wr.cell? ⟨g, k, none⟩ = some (Value.int .u8 ((byteU s k).toNat : Int)) := by rw [c1]; unfold mixV; rw [if_neg (by omega)]
          have f1 := HR.out.frozen hlt
          have HS := Lib.hid (mix_set HR.out HZ.out)
          have HO2 := Lib.hid (HO.out.setOther (a := ⟨g, k, none⟩) (Nat.ne_of_lt hxg) (.int .u8 66))
          have HB2 := Lib.hid (bset HB.out (a := ⟨g, k, none⟩) hwg (.int .u8 66))
          clear c1
          go_wp2
          go_roundw
          case rel => exact ⟨k + 1, by omega, by go_num, HO2, HB2, .inr ⟨by omega, g, cp, rfl, hxg, hwg, HS⟩⟩
          case measure => simp [intOf]; omega
      · have hv0 : ∀ h, ((s[k]'h).toNat) = 66 := fun _ => by rw [hbk] at h70; omega
        have hz : (70 : Int) = ((flip (byteU s k)).toNat : Int) := by
          rw [hU, show s[k]'hlt = 66 from UInt8.toNat_inj.1 (hv0 hlt)]
          rfl
        have HZ := Lib.hid hz
        clear hz hU hbk h70
        have t0 := HO.out.cell (j := 66) (by omega)
        rw [show flT 66 = Value.int .u8 70 from rfl] at t0
        rcases hv with ⟨rfl, rfl⟩ | ⟨hk0, g, cp, rfl, hxg, hwg, HR⟩
        · obtain ⟨cp, hcp⟩ : ∃ cp, cp = grownCap wr s.size 0 5 := ⟨_, rfl⟩
          obtain ⟨g, hg⟩ : ∃ g, g = wr.heap.size := ⟨_, rfl⟩
          obtain ⟨W1, hW1⟩ : ∃ W, W = wr.drew.alloc (.cells (bytesRow s cp) 5 ((bytesRow s cp).size, (bytesRow s cp).size + 1)) := ⟨_, rfl⟩
          have hcv : (convert 9 22 (.string s)).run Tryz.prog wr = .ok (.slice (some ⟨g, 0, none⟩) s.size cp) W1 := by
            rw [hW1, hcp, hg]; exact run_bytes_of_string (P := Tryz.prog) wr 9 22 5 s Tryz.underlying9 Tryz.underlying22 Tryz.underlying5
          have hR1 : OwnF W1 g 5 s.size (mixV s 0) := by rw [hW1, hg]; exact own_bytes wr s cp
          have hxg : x < g := by rw [hg]; exact HO.out.lt
          have hwg : w.heap.size ≤ g := by rw [hg]; exact HB.out.size
          have hB1 : Below w.heap.size w W1 := by rw [hW1]; exact Below.alloc HB.out.drew HB.out.size _
          have hO1 : OwnV W1 x 98 256 flT := HO.out.of_block (by rw [hW1]; exact Go.Deep.blk_alloc_lt wr.drew _ _ HO.out.lt)
          have t1 := hO1.cell (j := 66) (by omega)
          rw [show flT 66 = Value.int .u8 70 from rfl] at t1
          have c1 := hR1.cell hlt
          rw [show mixV s 0 0 = Value.int .u8 ((byteU s 0).toNat : Int) from rfl] at c1
          have f1 := hR1.frozen hlt
          have HS := Lib.hid (mix_set hR1 HZ.out)
          have HO2 := Lib.hid (hO1.setOther (a := ⟨g, 0, none⟩) (Nat.ne_of_lt hxg) (.int .u8 70))
          have HB2 := Lib.hid (bset hB1 (a := ⟨g, 0, none⟩) hwg (.int .u8 70))
          clear hcp hg hW1 hR1 hB1 hO1
          go_wp2
          go_roundw
          case rel => exact ⟨1, by omega, by go_num, HO2, HB2, .inr ⟨by omega, g, cp, rfl, hxg, hwg, HS⟩⟩
          case measure => simp [intOf]; omega
        · have c1 := HR.out.cell hlt
          have c1' : wr.cell? ⟨g, k, none⟩ = some (Value.int .u8 ((byteU s k).toNat : Int)) := by rw [c1]; unfold mixV; rw [if_neg (by omega)]
          have f1 := HR.out.frozen hlt
          have HS := Lib.hid (mix_set HR.out HZ.out)
          have HO2 := Lib.hid (HO.out.setOther (a := ⟨g, k, none⟩) (Nat.ne_of_lt hxg) (.int .u8 70))
          have HB2 := Lib.hid (bset HB.out (a := ⟨g, k, none⟩) hwg (.int .u8 70))
          clear c1
          go_wp2
          go_roundw
          case rel => exact ⟨k + 1, by omega, by go_num, HO2, HB2, .inr ⟨by omega, g, cp, rfl, hxg, hwg, HS⟩⟩
          case measure => simp [intOf]; omega
    · obtain rfl : k = s.size := by omega
      rcases hv with ⟨hk0, _⟩ | ⟨_, g, cp, rfl, hxg, hwg, HR⟩
      · omega
      · have hcv := str_flip wr s g cp HR.out
        go_wp2
        go_ret
        exact ⟨rfl, HB.out⟩

end Go.Proofs.YtlepgkmpbhlajaaGreatDoor.rp
