/-
  Contracts: how a weaver lies at the stakes of a round and at a stake in the rounds, of the program; RoundOf of both.
-/
import Derived.Test.YtlepgkmpbhlajaaGreatDoorWs
import Derived.Test.YtlepgkmpbhlajaaGreatDoorWl
namespace Go.Proofs.YtlepgkmpbhlajaaGreatDoor.wk
open Go.ChangeShapes Go.WideShapes Go.ChangeAt Go.RowKit
open Go.Proofs.YtlepgkmpbhlajaaGreatDoor.mem Go.Proofs.YtlepgkmpbhlajaaGreatDoor.rod Go.Proofs.YtlepgkmpbhlajaaGreatDoor.wv
set_option linter.unusedVariables false

set_option maxHeartbeats 1000000 in
theorem lamRound (s : ByteArray) (n q j b1 b2 : Nat) (w : World) (h0 : 0 < s.size) (hs : s.size ≤ 12) (hn : n ≤ 60) (hq : q ≤ 100) (hj : j ≤ 60)
    (c0 : w.cell? ⟨b1, 0, none⟩ = some (.string s)) (c1 : w.cell? ⟨b1, 1, none⟩ = some (.int .i64 (n : Int))) (c2 : w.cell? ⟨b2, 0, none⟩ = some (.int .i64 (q : Int))) :
    Calls Tryz.prog 27 #[.int .i64 (j : Int), .pointer (some ⟨b1, 0, none⟩), .pointer (some ⟨b2, 0, none⟩)] w fun e w' => e = .returned (.int .u8 ((sideU s n q j).toNat : Int)) ∧ Below w.heap.size w w' := by
  have HS := Lib.hid (fun W => side_i s n q j W h0 hs hn hq hj)
  rw [sideU_at] at HS
  go_enter Tryz.func27, Tryz.ntmps27
  go_wp2_with (go_at_call 28; refine (HS.out _).mono ?_; rintro e w2 ⟨rfl, hb⟩)
  go_ret
  exact ⟨rfl, hb⟩

set_option maxHeartbeats 4000000 in
theorem sidesAtRound (s : ByteArray) (n q m b1 b2 : Nat) (w : World) (h0 : 0 < s.size) (hs : s.size ≤ 12) (hn : n ≤ 60) (hq : q ≤ 100) (hm : m ≤ 60) (l1 : b1 < w.heap.size) (l2 : b2 < w.heap.size)
    (c0 : w.cell? ⟨b1, 0, none⟩ = some (.string s)) (c1 : w.cell? ⟨b1, 1, none⟩ = some (.int .i64 (n : Int))) (c2 : w.cell? ⟨b2, 0, none⟩ = some (.int .i64 (q : Int))) :
    Calls Tryz.prog 26 #[.int .i64 (m : Int), .func (.func 27) #[] #[.pointer (some ⟨b1, 0, none⟩), .pointer (some ⟨b2, 0, none⟩)]] w fun e w' => e = .returned (.string (mkB (fun j => sideU s n q j) m)) ∧ Below w.heap.size w w' := by
  have hmk := run_make_rows (P := Tryz.prog) 22 5 _ 1 1 Tryz.underlying22 info_u8 .i64 .i64 m (by omega) (by omega)
  obtain ⟨g, hg⟩ : ∃ g, g = fun j => sideU s n q j := ⟨_, rfl⟩
  obtain ⟨O, hO⟩ : ∃ O, O = mkB g m := ⟨_, rfl⟩
  have HL := Lib.hid (fun (j : Nat) (hj : j ≤ 60) (W : World) (hW : Below w.heap.size w W) => (show Calls Tryz.prog 27 #[.int .i64 (j : Int), .pointer (some ⟨b1, 0, none⟩), .pointer (some ⟨b2, 0, none⟩)] W fun e w' => e = .returned (.int .u8 ((g j).toNat : Int)) ∧ Below W.heap.size W w' by
    rw [hg]
    exact lamRound s n q j b1 b2 W h0 hs hn hq (by omega) ((hW.cell (p := ⟨b1, 0, none⟩) l1).trans c0) ((hW.cell (p := ⟨b1, 1, none⟩) l1).trans c1) ((hW.cell (p := ⟨b2, 0, none⟩) l2).trans c2)))
  rw [← hg, ← hO]
  have HO := Lib.hid hO
  clear hg hO c0 c1 c2
  go_enter Tryz.func26, Tryz.ntmps26
  go_wp2_with fail
  have hV : OwnV (w.alloc (Obj.cells (madeCells #[Value.int IntKind.u8 0] m) 5)) w.heap.size 5 m (fun j => if j < 0 then bv (g j) else .int .u8 0) :=
    ownV_made _ _ _ _ _ _ (fun i hi => by simp [Nat.mod_one]) (by simp) (by omega)
  have HV := Lib.hid hV
  clear hV hmk
  go_loopw [11] (fun i wr => ∃ k : Nat, k ≤ m ∧ i = .int .i64 (k : Int) ∧ Hid (OwnV wr w.heap.size 5 m (fun j => if j < k then bv (g j) else .int .u8 0)) ∧ Below w.heap.size w wr) (fun i _ => m - (intOf i).toNat)
  case atStart => exact ⟨0, by omega, rfl, HV, by go_grown⟩
  case round =>
    obtain ⟨k, hk, rfl, hown, hbl⟩ := hrel
    have HB := Lib.hid hbl
    have hzz := hbl.size
    clear hbl
    by_cases hlt : k < m
    · have hlt' : (k : Int) < (m : Int) := by omega
      have hk0 : (0 : Int) ≤ (k : Int) := by omega
      have hol := hown.out.lt
      have HL2 := Lib.hid (HL.out k (by omega))
      have hbv := Lib.hid (show bv (g k) = .int .u8 ((g k).toNat : Int) from rfl)
      obtain ⟨y, hy⟩ : ∃ y, (g k).toNat = y := ⟨_, rfl⟩
      rw [hy] at HL2 hbv
      clear hy
      go_wp2_with (go_at_call 27; refine (HL2.out _ HB.out).mono ?_; rintro e w2 ⟨rfl, hb⟩; have O2 := hown.out.below hb hol; have ck := O2.cell hlt; rw [if_neg (Nat.lt_irrefl k)] at ck; have fk := O2.frozen k; have HO2 := Lib.hid O2; have g2 := HB.out.trans (hb.mono hzz); clear O2 hb)
      go_roundw
      case rel =>
        refine ⟨k + 1, by omega, by go_num, Lib.hid ((HO2.out.set k (.int .u8 y)).congr (fun j hj => ?_)), Below.setCell g2 (Nat.le_refl _) _⟩
        by_cases e0 : j = k
        · subst e0; rw [if_pos rfl, if_pos (by omega), hbv.out]
        · rw [if_neg e0]
          by_cases e3 : j < k
          · rw [if_pos e3, if_pos (by omega)]
          · rw [if_neg e3, if_neg (by omega)]
      case measure => simp [intOf]; omega
    · obtain rfl : k = m := by omega
      have hcv : (convert 22 9 (.slice (some ⟨w.heap.size, 0, none⟩) k k)).run Tryz.prog wr = .ok (.string O) wr := by
        rw [HO.out]
        refine run_str_row (P := Tryz.prog) wr 22 9 5 Tryz.underlying22 Tryz.underlying5 Tryz.underlying9 _ k k (mkL g k) (mkL_len g k) fun j v hj => ?_
        have hjk : j < k := by have := (List.getElem?_eq_some_iff.1 hj).1; rw [List.length_map, mkL_len] at this; exact this
        have hc := hown.out.cell hjk
        rw [if_pos hjk] at hc
        rw [List.getElem?_map, show (mkL g k)[j]? = some (g j) by simp [mkL, hjk]] at hj
        simp only [Option.map_some, Option.some.injEq] at hj
        rw [← hj]
        have ea : (⟨w.heap.size, 0, none⟩ : Addr).add j = ⟨w.heap.size, j, none⟩ := by simp [Addr.add]; exact fun h => h.symm
        rw [ea]; exact hc
      go_wp2
      go_ret
      exact ⟨rfl, HB.out⟩

set_option maxHeartbeats 1000000 in
theorem inRound_i (s : ByteArray) (n r : Nat) (w : World) (h0 : 0 < s.size) (hs : s.size ≤ 12) (hn : n ≤ 60) (hr : r ≤ 100) :
    Calls Tryz.prog 18 #[.agg #[.string s, .int .i64 (n : Int)], .int .i64 (r : Int)] w fun e w' => e = .returned (.string (mkB (fun j => sideU s n r j) n)) ∧ Below w.heap.size w w' := by
  go_enter Tryz.func18, Tryz.ntmps18
  go_wp2_with fail
  refine (sidesAtRound s n r n w.heap.size (w.heap.size + 1) _ h0 hs hn hr hn (by simp <;> omega) (by simp) (by go_simp) (by go_simp) (by go_simp)).mono ?_
  rintro e w2 ⟨rfl, hb⟩
  have g2 : Below w.heap.size w w2 := Below.trans (by go_grown) (hb.mono (by simp <;> omega))
  clear hb
  go_wp2
  go_ret
  exact ⟨rfl, g2⟩

end Go.Proofs.YtlepgkmpbhlajaaGreatDoor.wk
