/-
  OtherSide of the program.
-/
import Derived.Test.YtlepgkmpbhlajaaGreatDoorRr
import Derived.OwnWalk
namespace Go.Proofs.YtlepgkmpbhlajaaGreatDoor.rp
open Go.ChangeShapes Go.WideShapes Go.ChangeAt Go.RowKit Go.Proofs.YtlepgkmpbhlajaaGreatDoor.mem Go.Proofs.YtlepgkmpbhlajaaGreatDoor.rod Go.Proofs.YtlepgkmpbhlajaaGreatDoor.wk Go.Proofs.YtlepgkmpbhlajaaGreatDoor.wv
set_option linter.unusedVariables false

theorem info_s : (Tryz.prog.info? 9).map (fun i => (i.zero, i.size, i.bytes)) = some (some (.string ByteArray.empty), 1, 16) := by kernel_rfl
set_option maxHeartbeats 4000000 in
set_option maxRecDepth 100000 in
theorem rreplace_c (b g c : Nat) (v2 : Value) (s : ByteArray) (w : World) (h : Rep w b (.int .u32 0) (.int .i32 0) v2 .nilIface (.slice (some ⟨g, 0, none⟩) 4 c)) (hf : Four w g) (hg : g < b) (hst : strokeB s = true) :
    Calls Tryz.prog 14 #[.pointer (some ⟨b, 0, none⟩), .string s] w fun e w' => e = .returned (.string (otherB s)) ∧ Below b w w' := by
  have H := Lib.hid h
  have HF := Lib.hid hf
  have HS := Lib.hid hst
  have hb := h.lt
  clear h hf hst
  have hmf : ∀ (fn : Fn) (first cap : Array Value) (w : World), (Instr.makeFunc fn first cap).run Tryz.prog w = .ok (.func fn first cap) w := fun _ _ _ _ => rfl
  go_enter Tryz.func14, Tryz.ntmps14
  go_wp2_with (go_at_call 23; refine (do_c b g c v2 _ H.out HF.out hg).mono ?_; rintro e w1 ⟨x, rfl, r1, hx, o1, b1⟩; have p3 := r1.c3)
  refine (breplace_c x s _ o1 HS.out).mono ?_
  rintro e w2 ⟨rfl, b2⟩
  have B2 := b1.trans (b2.mono (Nat.le_trans (Nat.le_of_lt hb) b1.size))
  clear b1 b2 r1 p3 o1
  go_wp2
  go_ret
  exact ⟨rfl, B2⟩

set_option maxHeartbeats 4000000 in
set_option maxRecDepth 100000 in
theorem newr_c (a ca : Nat) (w : World) (hf : Four w a) (ha : a < w.heap.size) :
    Calls Tryz.prog 13 #[.slice (some ⟨a, 0, none⟩) 4 ca] w fun e w' => ∃ b g c, e = .returned (.pointer (some ⟨b, 0, none⟩)) ∧ Rep w' b (.int .u32 0) (.int .i32 0) (.int .u32 0) .nilIface (.slice (some ⟨g, 0, none⟩) 4 c) ∧ Four w' g ∧ g < b ∧ w.heap.size ≤ b ∧ Below w.heap.size w w' := by
  obtain ⟨i0, hi0, hz0, hz1, hz2⟩ := info_parts info_s
  obtain ⟨q0, q1, q2, q3⟩ := hf
  have hl1 : 0 + 4 ≤ maxLen := by unfold maxLen; omega
  have hl2 : (0 + 4) * 16 ≤ 140737488355328 := by omega
  go_enter Tryz.func13, Tryz.ntmps13
  go_wp2_with (at_builtin; refine wpList_append_own _ rfl _ _ 47 rfl w.heap.size 9 i0 (.string ByteArray.empty) 1 16 Tryz.underlying47 hi0 hz0 hz1 hz2 rfl (by decide) _ _ _ rfl (World.ownsRow_nil w w.heap.size 9 1) ⟨a, 0, none⟩ 4 ca [.string ⟨#[70]⟩, .string ⟨#[66]⟩, .string ⟨#[66]⟩, .string ⟨#[70]⟩] rfl rfl ?c1 ?c2 hl1 hl2 ?c5 ?_)
  case c1 =>
    intro j u hj
    rcases j with _ | _ | _ | _ | j <;> simp at hj
    all_goals (subst hj; first | exact q0 | exact q1 | exact q2 | exact q3)
  case c2 => intro u hu; simp at hu; rcases hu with rfl | rfl | rfl | rfl <;> rfl
  case c5 => simp
  intro v' w1 hown hgrow _
  have g1 : Below w.heap.size w w1 := Below.grown (Below.refl _ w) hgrow (Nat.le_refl _) (fun k hk => by cases hk)
  rcases hown.2 with ⟨_, h0⟩ | ⟨g, cap, cur, rfl, hB, hh, hc, hm, hsz, ht⟩
  · omega
  have hcell : ∀ j v, [.string ⟨#[70]⟩, .string ⟨#[66]⟩, .string ⟨#[66]⟩, .string ⟨#[70]⟩][j]? = some v → w1.cell? ⟨g, j, none⟩ = some v := fun j v hj => by
    have := World.ownsRow.cells hown (g := g) rfl j v hj
    have ha : (⟨g, 0, none⟩ : Addr).add j = ⟨g, j, none⟩ := by unfold Addr.add; split <;> simp_all
    rw [ha] at this
    exact this
  have hF : Four w1 g := ⟨hcell 0 _ rfl, hcell 1 _ rfl, hcell 2 _ rfl, hcell 3 _ rfl⟩
  have hgl : g < w1.heap.size := (hown.lt g rfl).2
  have HF := Lib.hid hF
  clear hown hgrow hh hc hm hsz ht hcell hF q0 q1 q2 q3
  go_wp2
  go_ret
  exact ⟨w1.heap.size, g, cap, rfl, Go.Deep.blk_alloc_new _ _, HF.out.below (K := w1.heap.size) ((Below.refl _ w1).alloc (Nat.le_refl _) _) hgl, hgl, g1.size, g1.alloc g1.size _⟩

set_option maxHeartbeats 4000000 in
set_option maxRecDepth 100000 in
theorem other_i (s : ByteArray) (w : World) (hst : strokeB s = true) :
    Calls Tryz.prog 7 #[.string s] w fun e w' => e = .returned (.tuple #[.string (otherB s), .int .i64 0]) ∧ Below w.heap.size w w' := by
  obtain ⟨h0, h12, _⟩ := stroke_of hst
  have HC := Lib.hid (fun W => valid_i s W (by omega))
  rw [hst] at HC
  have HS := Lib.hid hst
  clear hst
  go_enter Tryz.func7, Tryz.ntmps7
  go_wp2_with fail
  refine (HC.out _).mono ?_
  rintro e w1 ⟨rfl, b1⟩
  obtain ⟨W1, hW1⟩ : ∃ W, W = w1.alloc (.cells #[.string ⟨#[70]⟩, .string ⟨#[66]⟩, .string ⟨#[66]⟩, .string ⟨#[70]⟩] 9) := ⟨_, rfl⟩
  have F1 := Lib.hid (show Four W1 w1.heap.size from by rw [hW1]; exact ⟨by go_simp, by go_simp, by go_simp, by go_simp⟩)
  have Z1 : W1.heap.size = w1.heap.size + 1 := by rw [hW1]; simp
  have B1 := Lib.hid (show Below w.heap.size w W1 from by rw [hW1]; exact b1.alloc b1.size _)
  go_wp2_with fail
  rw [← hW1]
  clear hW1 b1
  refine (newr_c w1.heap.size _ W1 F1.out (by omega)).mono ?_
  rintro e w2 ⟨b, g, c, rfl, r2, f2, hgb, hb2, hb⟩
  have R2 := Lib.hid r2
  have F2 := Lib.hid f2
  have B2 := Lib.hid (B1.out.trans (hb.mono B1.out.size))
  have z1 := B1.out.size
  clear r2 f2 hb
  go_wp2_with fail
  refine (rreplace_c b g c _ s _ R2.out F2.out hgb HS.out).mono ?_
  rintro e w3 ⟨rfl, hb3⟩
  have B3 := Lib.hid (B2.out.trans (hb3.mono (by omega)))
  clear hb3
  go_wp2
  go_ret2
  exact ⟨rfl, B3.out⟩
set_option maxHeartbeats 4000000 in
theorem other_i_no (s : ByteArray) (w : World) (hs : s.size ≤ 1048576) (hst : strokeB s = false) :
    Calls Tryz.prog 7 #[.string s] w fun e w' => e = .returned (.tuple #[.string ⟨#[]⟩, .int .i64 1]) ∧ Below w.heap.size w w' := by
  have HC := Lib.hid (fun W => valid_i s W hs)
  rw [hst] at HC
  clear hst
  go_enter Tryz.func7, Tryz.ntmps7
  go_wp2_with fail
  refine (HC.out _).mono ?_
  rintro e w1 ⟨rfl, b1⟩
  go_wp2
  go_ret2
  exact ⟨rfl, b1⟩

end Go.Proofs.YtlepgkmpbhlajaaGreatDoor.rp
