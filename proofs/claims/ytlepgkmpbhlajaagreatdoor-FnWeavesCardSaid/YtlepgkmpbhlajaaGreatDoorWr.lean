/-
  Contracts: the code of a stroke and stakes, a weave, its places, after how many rounds it begins again; of the model and of the program.
-/
import Derived.Test.YtlepgkmpbhlajaaGreatDoorWk
namespace Go.Proofs.YtlepgkmpbhlajaaGreatDoor.wk
open Go.ChangeShapes Go.WideShapes Go.ChangeAt Go.RowKit
open Go.Proofs.YtlepgkmpbhlajaaGreatDoor.mem Go.Proofs.YtlepgkmpbhlajaaGreatDoor.rod Go.Proofs.YtlepgkmpbhlajaaGreatDoor.wv
set_option linter.unusedVariables false

/-- the code of a stroke and stakes -/
def codeW (s : ByteArray) (a : Int) : Int := if strokeB s = false then 1 else if inB a 3 60 = false then 2 else 0
theorem codeW_0 {s : ByteArray} {a : Int} : codeW s a = 0 ↔ strokeB s = true ∧ inB a 3 60 = true := by
  unfold codeW
  cases strokeB s <;> cases inB a 3 60 <;> simp
theorem codeW_cases (s : ByteArray) (a : Int) : (strokeB s = false ∧ codeW s a = 1) ∨ (strokeB s = true ∧ inB a 3 60 = false ∧ codeW s a = 2) ∨ (strokeB s = true ∧ inB a 3 60 = true ∧ codeW s a = 0) := by
  unfold codeW
  cases strokeB s <;> cases inB a 3 60 <;> simp
/-- stakes as a number that is not negative -/
theorem stakes_of {a : Int} (h : inB a 3 60 = true) : ∃ n : Nat, a = (n : Int) ∧ 3 ≤ n ∧ n ≤ 60 := by
  obtain ⟨h1, h2⟩ := inB_of h
  exact ⟨a.toNat, by omega, by omega, by omega⟩

theorem gcd_step (x y : Nat) : Nat.gcd x y = Nat.gcd y (x % y) := by rw [Nat.gcd_comm x y, Nat.gcd_rec y x, Nat.gcd_comm]
/-! ### the program -/
set_option maxHeartbeats 1000000 in
theorem new_i (s : ByteArray) (n : Nat) (w : World) (hs : strokeB s = true) (h3 : 3 ≤ n) (hn : n ≤ 60) :
    Calls Tryz.prog 15 #[.string s, .int .i64 (n : Int)] w fun e w' => e = .returned (.tuple #[.agg #[.string s, .int .i64 (n : Int)], .int .i64 0]) ∧ Below w.heap.size w w' := by
  obtain ⟨s0, s1, _⟩ := stroke_of hs
  have hi : inB (n : Int) 3 60 = true := inB_yes (by omega) (by omega)
  go_enter Tryz.func15, Tryz.ntmps15
  go_wp2_with fail
  refine (valid_i s _ (by omega)).mono ?_
  rintro e w1 ⟨rfl, hb⟩
  have z1 := hb.size
  simp at z1
  obtain ⟨hc, hf⟩ := bcell hb
  have c0 : w1.cell? ⟨w.heap.size, 0, none⟩ = some (.string ⟨#[]⟩) := by rw [hc _ _ (by simp)]; go_simp
  have c1 : w1.cell? ⟨w.heap.size, 1, none⟩ = some (.int .i64 0) := by rw [hc _ _ (by simp)]; go_simp
  have f0 : w1.frozen? ⟨w.heap.size, 0, none⟩ = false := by rw [hf _ _ (by simp)]; go_simp
  have f1 : w1.frozen? ⟨w.heap.size, 1, none⟩ = false := by rw [hf _ _ (by simp)]; go_simp
  have hg : Below w.heap.size w w1 := Below.trans (by go_grown) (hb.mono (by simp <;> omega))
  clear hb hc hf
  go_wp2_with (go_at_call 17; refine (in_i _ _ _ _).mono ?_; rintro e w' ⟨rfl, rfl⟩)
  exact bodyPost_ret (v := .tuple #[.agg #[.string s, .int .i64 (n : Int)], .int .i64 0]) (by simp [results, Tryz.results15, go_sem, c0, c1]) rfl
    ⟨rfl, Below.setCell (Below.setCell hg (by simp) _) (by simp) _⟩

set_option maxHeartbeats 1000000 in
theorem new_i_no (s : ByteArray) (a : Int) (w : World) (hs : s.size ≤ 1048576) (hc : codeW s a ≠ 0) :
    Calls Tryz.prog 15 #[.string s, .int .i64 a] w fun e w' => e = .returned (.tuple #[.agg #[.string ⟨#[]⟩, .int .i64 0], .int .i64 (codeW s a)]) ∧ Below w.heap.size w w' := by
  have hcc := codeW_cases s a
  generalize codeW s a = v at *
  have H := Lib.hid hcc
  clear hcc
  rcases H.out with ⟨h1, rfl⟩ | ⟨h1, h2, rfl⟩ | ⟨h1, h2, rfl⟩
  · clear H hc
    go_enter Tryz.func15, Tryz.ntmps15
    go_wp2_with fail
    refine (valid_i s _ hs).mono ?_
    rintro e w1 ⟨rfl, hb⟩
    have z1 := hb.size
    simp at z1
    obtain ⟨hc, hf⟩ := bcell hb
    have c0 : w1.cell? ⟨w.heap.size, 0, none⟩ = some (.string ⟨#[]⟩) := by rw [hc _ _ (by simp)]; go_simp
    have c1 : w1.cell? ⟨w.heap.size, 1, none⟩ = some (.int .i64 0) := by rw [hc _ _ (by simp)]; go_simp
    have f0 : w1.frozen? ⟨w.heap.size, 0, none⟩ = false := by rw [hf _ _ (by simp)]; go_simp
    have f1 : w1.frozen? ⟨w.heap.size, 1, none⟩ = false := by rw [hf _ _ (by simp)]; go_simp
    have hg : Below w.heap.size w w1 := Below.trans (by go_grown) (hb.mono (by simp <;> omega))
    clear hb hc hf
    go_wp2
    exact bodyPost_ret (v := .tuple #[.agg #[.string ⟨#[]⟩, .int .i64 0], .int .i64 1]) (by simp [results, Tryz.results15, go_sem, c0, c1]) rfl
      ⟨rfl, by first | exact Below.setCell (Below.setCell hg (by simp) _) (by simp) _ | exact hg⟩
  · clear H hc
    go_enter Tryz.func15, Tryz.ntmps15
    go_wp2_with fail
    refine (valid_i s _ hs).mono ?_
    rintro e w1 ⟨rfl, hb⟩
    have z1 := hb.size
    simp at z1
    obtain ⟨hc, hf⟩ := bcell hb
    have c0 : w1.cell? ⟨w.heap.size, 0, none⟩ = some (.string ⟨#[]⟩) := by rw [hc _ _ (by simp)]; go_simp
    have c1 : w1.cell? ⟨w.heap.size, 1, none⟩ = some (.int .i64 0) := by rw [hc _ _ (by simp)]; go_simp
    have f0 : w1.frozen? ⟨w.heap.size, 0, none⟩ = false := by rw [hf _ _ (by simp)]; go_simp
    have f1 : w1.frozen? ⟨w.heap.size, 1, none⟩ = false := by rw [hf _ _ (by simp)]; go_simp
    have hg : Below w.heap.size w w1 := Below.trans (by go_grown) (hb.mono (by simp <;> omega))
    clear hb hc hf
    go_wp2_with (go_at_call 17; refine (in_i _ _ _ _).mono ?_; rintro e w' ⟨rfl, rfl⟩)
    exact bodyPost_ret (v := .tuple #[.agg #[.string ⟨#[]⟩, .int .i64 0], .int .i64 2]) (by simp [results, Tryz.results15, go_sem, c0, c1]) rfl
      ⟨rfl, by first | exact Below.setCell (Below.setCell hg (by simp) _) (by simp) _ | exact hg⟩
  · exact absurd rfl hc

/-- the products of rounds and stakes are small -/
theorem prod_bd {r n k : Nat} (hr : r ≤ 100) (hn : n ≤ 60) : (0 : Int) ≤ (r : Int) * (n : Int) ∧ (r : Int) * (n : Int) ≤ 6000 := by
  have h := Nat.mul_le_mul hr hn
  rw [← Int.natCast_mul]
  omega
theorem place_i (s : ByteArray) (n r k : Nat) (w : World) (h0 : 0 < s.size) (hs : s.size ≤ 12) (hn : n ≤ 60) (hr : r ≤ 100) (hk : k ≤ 60) :
    Calls Tryz.prog 25 #[.agg #[.string s, .int .i64 (n : Int)], .int .i64 (r : Int), .int .i64 (k : Int)] w fun e w' => e = .returned (.int .i64 ((r * n + k) % s.size : Nat)) ∧ Below w.heap.size w w' := by
  obtain ⟨m0, m1⟩ := prod_bd (k := k) hr hn
  have e3 : ¬ (s.size : Int) = 0 := by omega
  have e1 : ((s.size : Int) == 0) = false := beq_false_of_ne e3
  have h2 : (1 : Int) ≤ (s.size : Int) := by omega
  go_enter Tryz.func25, Tryz.ntmps25
  go_wp2
  go_ret
  exact ⟨by simp, by go_grown⟩

theorem side_byte (s : ByteArray) (n r k p : Nat) (hp : (r * n + k) % s.size = p) : side (byteAt s) s.size n r k = byteAt s p := by unfold side; rw [hp]
set_option maxHeartbeats 1000000 in
theorem side_i (s : ByteArray) (n r k : Nat) (w : World) (h0 : 0 < s.size) (hs : s.size ≤ 12) (hn : n ≤ 60) (hr : r ≤ 100) (hk : k ≤ 60) :
    Calls Tryz.prog 28 #[.agg #[.string s, .int .i64 (n : Int)], .int .i64 (r : Int), .int .i64 (k : Int)] w fun e w' => e = .returned (.int .u8 (side (byteAt s) s.size n r k)) ∧ Below w.heap.size w w' := by
  obtain ⟨p, hp⟩ : ∃ p, (r * n + k) % s.size = p := ⟨_, rfl⟩
  have hlt : p < s.size := by rw [← hp]; exact Nat.mod_lt _ h0
  have hlt' : (p : Int) < (s.size : Int) := by omega
  have hp0 : (0 : Int) ≤ (p : Int) := by omega
  have HP := Lib.hid (fun W => place_i s n r k W h0 hs hn hr hk)
  rw [hp] at HP
  rw [side_byte s n r k p hp, byteAt_eq hlt]
  clear hp
  go_enter Tryz.func28, Tryz.ntmps28
  go_wp2_with fail
  go_region_held3 (fun x => x.cell? ⟨w.heap.size, 0, none⟩ = some (.string s) ∧ x.cell? ⟨w.heap.size, 1, none⟩ = some (.int .i64 (n : Int))) (first | go_keep | exact ⟨p0, p1⟩)
    (first
      | (go_at_call 25; refine (HP.out _).mono ?_; rintro e w2 ⟨rfl, hb⟩
         have hz2 := hb.size
         simp at hz2
         have p0 : w2.cell? ⟨w.heap.size, 0, none⟩ = some (.string s) := by rw [(bcell hb).1 _ _ (by simp <;> omega)]; go_simp
         have p1 : w2.cell? ⟨w.heap.size, 1, none⟩ = some (.int .i64 (n : Int)) := by rw [(bcell hb).1 _ _ (by simp <;> omega)]; go_simp
         have hg2 : Below w.heap.size w w2 := Below.trans (by go_grown) (hb.mono (by simp <;> omega))
         clear hb))
  go_wp2
  go_ret
  exact ⟨rfl, by first | exact hg2 | exact drewN_below hg2 _⟩

set_option maxHeartbeats 1000000 in
theorem rounds_i (s : ByteArray) (n : Nat) (w : World) (h0 : 0 < s.size) (hs : s.size ≤ 12) (hn : n ≤ 60) :
    Calls Tryz.prog 16 #[.agg #[.string s, .int .i64 (n : Int)]] w fun e w' => e = .returned (.int .i64 (rnd s.size n : Nat)) ∧ Below w.heap.size w w' := by
  have h1 := rnd_pos n h0
  have h2 := rnd_le s.size n
  obtain ⟨R, hR⟩ : ∃ R, R = rnd s.size n := ⟨_, rfl⟩
  have HR := Lib.hid hR
  rw [← hR] at h1 h2 ⊢
  clear hR
  go_enter Tryz.func16, Tryz.ntmps16
  go_wp2_with fail
  go_loopw [3] (fun v wr => ∃ r : Nat, 1 ≤ r ∧ r ≤ R ∧ v = .int .i64 (r : Int) ∧ Below (w.heap.size + 1) (w.alloc (.cells #[.string s, .int .i64 (n : Int)] 39)) wr) (fun v _ => R - (intOf v).toNat)
  case atStart => exact ⟨1, by omega, h1, rfl, Below.refl _ _⟩
  case round =>
    obtain ⟨r, hr1, hr2, rfl, hd⟩ := hrel
    have hzz := hd.size
    simp at hzz
    have c0 : wr.cell? ⟨w.heap.size, 0, none⟩ = some (.string s) := (hd.cell (p := ⟨w.heap.size, 0, none⟩) (by show w.heap.size < _; omega)).trans (by go_simp)
    have c1 : wr.cell? ⟨w.heap.size, 1, none⟩ = some (.int .i64 (n : Int)) := (hd.cell (p := ⟨w.heap.size, 1, none⟩) (by show w.heap.size < _; omega)).trans (by go_simp)
    have HD := Lib.hid hd
    clear hd
    obtain ⟨p, hp⟩ : ∃ p, (r * n) % s.size = p := ⟨_, rfl⟩
    have HP := Lib.hid (fun W => place_i s n r 0 W h0 hs hn (by omega) (by omega))
    rw [Nat.add_zero, hp] at HP
    by_cases hz : p = 0
    · have he := Lib.hid (rnd_end h0 hr1 (HR.out ▸ hr2) (hp.trans hz))
      subst hz
      clear hp
      go_wp2_with (go_at_call 25; refine (HP.out _).mono ?_; rintro e w2 ⟨rfl, hb⟩)
      go_ret
      exact ⟨by rw [HR.out, ← he.out]; rfl, Below.trans (((Below.refl _ _).alloc (Nat.le_refl _) _).trans (HD.out.mono (by omega))) (hb.mono (by omega))⟩
    · have he := rnd_step (r := r) h0 (HR.out ▸ hr2) (by rw [hp]; exact hz)
      rw [← HR.out] at he
      have e1 : ((p : Int) == 0) = false := by simp; omega
      have e2 : ((p : Int) != 0) = true := by rw [bne, e1]; rfl
      clear hp
      go_wp2_with (go_at_call 25; refine (HP.out _).mono ?_; rintro e w2 ⟨rfl, hb⟩)
      have HG := Lib.hid (HD.out.trans (hb.mono (by omega)))
      clear hb
      go_roundw
      case rel => exact ⟨r + 1, by omega, he, by go_num, HG.out⟩
      case measure => simp [intOf]; omega

set_option maxHeartbeats 1000000 in
theorem begins_i (s : ByteArray) (n : Nat) (w : World) (hs : strokeB s = true) (h3 : 3 ≤ n) (hn : n ≤ 60) :
    Calls Tryz.prog 8 #[.string s, .int .i64 (n : Int)] w fun e w' => e = .returned (.tuple #[.int .i64 (rnd s.size n : Nat), .int .i64 0]) ∧ Below w.heap.size w w' := by
  obtain ⟨s0, s1, _⟩ := stroke_of hs
  have HS := Lib.hid hs
  clear hs
  go_enter Tryz.func8, Tryz.ntmps8
  go_wp2_with fail
  refine (new_i s n _ HS.out h3 hn).mono ?_
  rintro e w1 ⟨rfl, b1⟩
  go_wp2_with fail
  refine (rounds_i s n _ s0 s1 hn).mono ?_
  rintro e w2 ⟨rfl, b2⟩
  have z1 := b1.size
  have g2 : Below w.heap.size w w2 := (b1.alloc z1 _).trans (b2.mono (by simp; omega))
  go_wp2
  go_ret2
  exact ⟨rfl, g2⟩
set_option maxHeartbeats 1000000 in
theorem begins_i_no (s : ByteArray) (a : Int) (w : World) (hs : s.size ≤ 1048576) (hc : codeW s a ≠ 0) :
    Calls Tryz.prog 8 #[.string s, .int .i64 a] w fun e w' => e = .returned (.tuple #[.int .i64 0, .int .i64 (codeW s a)]) ∧ Below w.heap.size w w' := by
  have HN := Lib.hid (fun W => new_i_no s a W hs hc)
  generalize codeW s a = v at *
  have e1 : (v == 0) = false := by simpa using hc
  have e2 : (v != 0) = true := by rw [bne, e1]; rfl
  clear hc
  go_enter Tryz.func8, Tryz.ntmps8
  go_wp2_with fail
  refine (HN.out _).mono ?_
  rintro e w1 ⟨rfl, b1⟩
  go_wp2
  go_ret2
  exact ⟨rfl, b1.alloc b1.size _⟩

end Go.Proofs.YtlepgkmpbhlajaaGreatDoor.wk
