/-
  A Replacer builds its table at its first use, once.
-/
import Derived.Test.YtlepgkmpbhlajaaGreatDoorRb
namespace Go.Proofs.YtlepgkmpbhlajaaGreatDoor.rp
open Go.ChangeShapes Go.WideShapes Go.ChangeAt Go.RowKit Go.Proofs.YtlepgkmpbhlajaaGreatDoor.mem
set_option linter.unusedVariables false

theorem own_other {w w' : World} {g b n : Nat} {E : TypeId} {V : Nat → Value} (h : OwnV w g E n V) (e : w'.heap[g]? = w.heap[g]?) : OwnV w' g E n V := h.of_block e
theorem fl_u (b j : Nat) (v : Value) (w : World) : (w.setCell ⟨b, j, none⟩ v).heap.size = w.heap.size := by simp

set_option maxHeartbeats 4000000 in
set_option maxRecDepth 100000 in
theorem buildOnce_c (b g c : Nat) (v2 : Value) (w : World) (v0 v1 : Value) (h : Rep w b v0 v1 v2 .nilIface (.slice (some ⟨g, 0, none⟩) 4 c)) (hf : Four w g) (hg : g < w.heap.size) :
    Calls Tryz.prog 24 #[.pointer (some ⟨b, 0, none⟩)] w fun e w' => ∃ x, e = .returned (.tuple #[]) ∧ Rep w' b v0 v1 v2 (.iface 99 (.pointer (some ⟨x, 0, none⟩))) (.slice none 0 0) ∧ w.heap.size ≤ x ∧ OwnV w' x 98 256 flT ∧ Below b w w' := by
  have hb := h.lt
  have H := Lib.hid h
  have HF := Lib.hid hf
  clear h hf
  go_enter Tryz.func24, Tryz.ntmps24
  go_wp2_with fail
  refine (build_c b g c v0 v1 v2 .nilIface _ H.out HF.out hg).mono ?_
  rintro e w1 ⟨x, rfl, hx, ho, hb1⟩
  have H1 := H.out.below hb1 hb
  have hxb : x ≠ b := by omega
  have R2 := Lib.hid ((H1.s3 (.iface 99 (.pointer (some ⟨x, 0, none⟩)))).s4 (.slice none 0 0))
  have p3 := H1.c3
  have f3 := H1.fr 3
  have p4 := (H1.s3 (.iface 99 (.pointer (some ⟨x, 0, none⟩)))).c4
  have f4 := (H1.s3 (.iface 99 (.pointer (some ⟨x, 0, none⟩)))).fr 4
  have O2 := Lib.hid (show OwnV ((w1.setCell ⟨b, 3, none⟩ (.iface 99 (.pointer (some ⟨x, 0, none⟩)))).setCell ⟨b, 4, none⟩ (.slice none 0 0)) x 98 256 flT from (ho.setOther (a := ⟨b, 3, none⟩) hxb _).setOther (a := ⟨b, 4, none⟩) hxb _)
  have B2 := Lib.hid (show Below b w ((w1.setCell ⟨b, 3, none⟩ (.iface 99 (.pointer (some ⟨x, 0, none⟩)))).setCell ⟨b, 4, none⟩ (.slice none 0 0)) from Below.setCell (Below.setCell (hb1.mono (Nat.le_of_lt hb)) (Nat.le_refl _) _) (Nat.le_refl _) _)
  clear H1 ho hb1
  go_wp2
  all_goals (go_end0; exact ⟨x, rfl, R2.out, hx, O2.out, B2.out⟩)

set_option maxHeartbeats 4000000 in
set_option maxRecDepth 100000 in
theorem slow_c (b g c : Nat) (v2 : Value) (w : World) (h : Rep w b (.int .u32 0) (.int .i32 0) v2 .nilIface (.slice (some ⟨g, 0, none⟩) 4 c)) (hf : Four w g) (hg : g < b) :
    Calls Tryz.prog 38 #[.pointer (some ⟨b, 0, none⟩), .func (.func 24) #[.pointer (some ⟨b, 0, none⟩)] #[]] w fun e w' => ∃ x, e = .returned (.tuple #[]) ∧ Rep w' b (.int .u32 1) (.int .i32 0) v2 (.iface 99 (.pointer (some ⟨x, 0, none⟩))) (.slice none 0 0) ∧ w.heap.size ≤ x ∧ OwnV w' x 98 256 flT ∧ Below b w w' := by
  have hb := h.lt
  have H1 := h.s1 (.int .i32 1)
  have hl := run_call_load (P := Tryz.prog) Tryz.func44 (by kernel_rfl) (by kernel_rfl) (by kernel_rfl) .u32 (by kernel_rfl) (w := w.setCell ⟨b, 1, none⟩ (.int .i32 1)) (a := ⟨b, 0, none⟩) (x := 0) H1.c0
  have c1 := h.c1
  have f1 := h.fr 1
  have hnot : ∀ (x : Bool) (w : World), (Op.unary .not (.bool x)).run Tryz.prog w = .ok (.bool (!x)) w := fun _ _ => rfl
  have HR := Lib.hid H1
  have HF := Lib.hid (show Four (w.setCell ⟨b, 1, none⟩ (.int .i32 1)) g from hf.below (Below.setCell (Below.refl b w) (Nat.le_refl _) _) hg)
  have HB := Lib.hid (show Below b w (w.setCell ⟨b, 1, none⟩ (.int .i32 1)) from Below.setCell (Below.refl b w) (Nat.le_refl _) _)
  clear h H1 hf
  go_enter_defers Tryz.func38, Tryz.ntmps38
  go_wp2_with
   (first
    | (go_at_call 45; refine (lock_c ⟨b, 1, none⟩ _ c1 f1).mono ?_; rintro e w' ⟨rfl, rfl⟩)
    | (go_at_call 37; go_in)
    | (go_at_call 24; refine (buildOnce_c b g c v2 _ (.int .u32 0) (.int .i32 1) HR.out HF.out (by simp; omega)).mono ?_; rintro e w2 ⟨x, rfl, r2, hx, o2, hb2⟩))
  have hx' : w.heap.size ≤ x := by simpa using hx
  have hxb : x ≠ b := by omega
  have B2 := HB.out.trans (hb2.mono (Nat.le_refl _))
  refine leaves_cons (f := 47) (args := #[.pointer (some ⟨b, 0, none⟩), .bool true]) (by simp) (by simp [go_sem]) ?_
  refine (store_d ⟨b, 0, none⟩ (.int .u32 0) .returning _ r2.c0 (r2.fr 0)).mono ?_
  rintro e u' w3 ⟨rfl, rfl, rfl⟩
  have r3 : Rep (w2.drew.setCell ⟨b, 0, none⟩ (.int .u32 1)) b (.int .u32 1) (.int .i32 1) v2 (.iface 99 (.pointer (some ⟨x, 0, none⟩))) (.slice none 0 0) := Rep.s0 (show Rep w2.drew b (.int .u32 0) (.int .i32 1) v2 (.iface 99 (.pointer (some ⟨x, 0, none⟩))) (.slice none 0 0) from r2) _
  refine leaves_cons (f := 46) (args := #[.pointer (some ⟨b, 1, none⟩)]) (by simp [settle]) (by simp [go_sem]) ?_
  refine (unlock_d ⟨b, 1, none⟩ _ _ r3.c1 (r3.fr 1)).mono ?_
  rintro e u' w4 ⟨rfl, rfl, rfl⟩
  have r4 := r3.s1 (.int .i32 0)
  have o4 : OwnV ((w2.drew.setCell ⟨b, 0, none⟩ (.int .u32 1)).setCell ⟨b, 1, none⟩ (.int .i32 0)) x 98 256 flT := ((show OwnV w2.drew x 98 256 flT from o2).setOther (a := ⟨b, 0, none⟩) hxb _).setOther (a := ⟨b, 1, none⟩) hxb _
  have B4 : Below b w ((w2.drew.setCell ⟨b, 0, none⟩ (.int .u32 1)).setCell ⟨b, 1, none⟩ (.int .i32 0)) := Below.setCell (Below.setCell B2.drew (Nat.le_refl _) _) (Nat.le_refl _) _
  generalize (w2.drew.setCell ⟨b, 0, none⟩ (.int .u32 1)).setCell ⟨b, 1, none⟩ (.int .i32 0) = w4 at *
  simp [Leaves, settle, results, Tryz.results38]
  exact ⟨x, r4, hx', o4, B4⟩

set_option maxHeartbeats 4000000 in
set_option maxRecDepth 100000 in
theorem do_c (b g c : Nat) (v2 : Value) (w : World) (h : Rep w b (.int .u32 0) (.int .i32 0) v2 .nilIface (.slice (some ⟨g, 0, none⟩) 4 c)) (hf : Four w g) (hg : g < b) :
    Calls Tryz.prog 23 #[.pointer (some ⟨b, 0, none⟩), .func (.func 24) #[.pointer (some ⟨b, 0, none⟩)] #[]] w fun e w' => ∃ x, e = .returned (.tuple #[]) ∧ Rep w' b (.int .u32 1) (.int .i32 0) v2 (.iface 99 (.pointer (some ⟨x, 0, none⟩))) (.slice none 0 0) ∧ w.heap.size ≤ x ∧ OwnV w' x 98 256 flT ∧ Below b w w' := by
  have hl := run_call_load (P := Tryz.prog) Tryz.func44 (by kernel_rfl) (by kernel_rfl) (by kernel_rfl) .u32 (by kernel_rfl) h.c0
  have hnot : ∀ (x : Bool) (w : World), (Op.unary .not (.bool x)).run Tryz.prog w = .ok (.bool (!x)) w := fun _ _ => rfl
  go_enter Tryz.func23, Tryz.ntmps23
  go_wp2_with
   (first
    | (go_at_call 38; refine (slow_c b g c v2 _ h hf hg).mono ?_; rintro e w1 ⟨x, rfl, r1, hx, o1, b1⟩)
    | (go_at_call 37; go_in))
  all_goals (go_end0; exact ⟨x, rfl, r1, hx, o1, b1⟩)

end Go.Proofs.YtlepgkmpbhlajaaGreatDoor.rp
