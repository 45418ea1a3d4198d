/-
  For any two lists of beds, FnExactSameBeds returns true: SameBeds of the program gives the answer of the model, and keeps both lists. No condition.
-/
import Derived.Test.YtminbbdmjglnjaaSame
import Derived.Test.YtminbbdmjglnjaaOpenBed
namespace Go.Proofs.Ytminbbdmjglnjaa.fnExactSameBeds
open Go.ChangeShapes Go.WideShapes Go.ChangeAt Go.RowKit Go.Joins
open Go.ChangeMaps (open_string shut_string)
open Go.Proofs.Ytminbbdmjglnjaa.rod Go.Proofs.Ytminbbdmjglnjaa.mem Go.Proofs.Ytminbbdmjglnjaa.nums
set_option linter.unusedVariables false

set_option maxHeartbeats 4000000 in
set_option maxRecDepth 100000 in
theorem core (A : Option Addr) (n c : Nat) (M : Nat → Nat) (Y : Nat → Nat → Int) (G : Nat → Int) (Tn : Nat) (A2 : Option Addr) (n2 c2 : Nat) (M2 : Nat → Nat) (Y2 : Nat → Nat → Int) (G2 : Nat → Int) (Tn2 : Nat) (v : Bool) (w : World) (hTn : n + sumM M n = Tn) (hnn : Tn ≤ 1048576) (hY : Beds w A n M Y G) (hTn2 : n2 + sumM M2 n2 = Tn2) (hnn2 : Tn2 ≤ 1048576) (hY2 : Beds w A2 n2 M2 Y2 G2) (hsum : Tn + Tn2 ≤ 1048576)
    (hspec : Hid (∀ (A' : Option Addr) (c' : Nat) (A2' : Option Addr) (c2' : Nat) (w : World), Beds w A' n M Y G → Beds w A2' n2 M2 Y2 G2 → Calls Try.prog 43 #[.slice A' n c', .slice A2' n2 c2'] w (fun e w' => e = .returned (.bool v) ∧ Below w.heap.size w w')))
    (himpl : Hid (∀ (A' : Option Addr) (c' : Nat) (A2' : Option Addr) (c2' : Nat) (w : World), Beds w A' n M Y G → Beds w A2' n2 M2 Y2 G2 → Calls Try.prog 44 #[.slice A' n c', .slice A2' n2 c2'] w (fun e w' => e = .returned (.bool v) ∧ Below w.heap.size w w'))) :
    Calls Try.prog 10 #[.slice A n c, .slice A2 n2 c2] w fun e w' => e = .returned (.bool true) ∧ Below w.heap.size w w' := by
  have HY := Lib.hid hY
  clear hY
  have hmn : n ≤ maxLen := by unfold maxLen; omega
  have hnnn : n ≤ 1048576 := by omega
  have hMn : ∀ j, j < n → M j ≤ 1048576 := fun j hj => by have := sumM_at (M := M) hj; omega
  have HMn := Lib.hid hMn
  clear hMn
  have HTn := Lib.hid hTn
  clear hTn
  have HY2 := Lib.hid hY2
  clear hY2
  have hmn2 : n2 ≤ maxLen := by unfold maxLen; omega
  have hnnn2 : n2 ≤ 1048576 := by omega
  have hMn2 : ∀ j, j < n2 → M2 j ≤ 1048576 := fun j hj => by have := sumM_at (M := M2) hj; omega
  have HMn2 := Lib.hid hMn2
  clear hMn2
  have HTn2 := Lib.hid hTn2
  clear hTn2
  have hrTn : ¬ (1048576 - (Tn : Int)) < 0 := by omega
  have hrTn2 : ¬ ((1048576 - Tn) - (Tn2 : Int)) < 0 := by omega
  have b0 : Below w.heap.size w w := Below.refl _ _
  go_enter Try.func10, Try.ntmps10
  go_wp2_with fail
  refine (szBeds_c A n c M Y G Tn 1048576 _ HTn.out (by omega) (by omega) (Beds.below HY.out b0)).mono ?_
  rintro e w1 ⟨rfl, hb1⟩
  have z1 := hb1.size
  try simp at z1
  have s1 : Below w.heap.size w w1 := Below.trans (by go_grown) (hb1.mono (by first | omega | (simp; done) | (simp; omega)))
  have b1 : Below w.heap.size w w1 := b0.trans (s1.mono (by omega))
  clear hb1 s1
  go_wp2_with fail
  refine (szBeds_c A2 n2 c2 M2 Y2 G2 Tn2 (1048576 - Tn) _ HTn2.out (by omega) (by omega) (Beds.below HY2.out b1)).mono ?_
  rintro e w2 ⟨rfl, hb2⟩
  have z2 := hb2.size
  try simp at z2
  have s2 : Below w1.heap.size w1 w2 := Below.trans (by go_grown) (hb2.mono (by first | omega | (simp; done) | (simp; omega)))
  have b2 : Below w.heap.size w w2 := b1.trans (s2.mono (by omega))
  clear hb2 s2
  go_wp2_with fail
  refine (toBedS_c A n c M Y G _ hnnn HMn.out (Beds.below HY.out b2)).mono ?_
  rintro e w3 ⟨Aw3, cw3, rfl, kc3, mc3, r3, hb3⟩
  have z3 := hb3.size
  try simp at z3
  have s3 : Below w2.heap.size w2 w3 := Below.trans (by go_grown) (hb3.mono (by first | omega | (simp; done) | (simp; omega)))
  have b3 : Below w.heap.size w w3 := b2.trans (s3.mono (by omega))
  have R1_3 := Lib.hid (r3.wide (lo' := w2.heap.size) (by first | omega | (simp; done) | (simp; omega)) (Nat.le_refl _))
  clear r3
  clear hb3 s3
  go_wp2_with fail
  refine (toBedS_c A2 n2 c2 M2 Y2 G2 _ hnnn2 HMn2.out (Beds.below HY2.out b3)).mono ?_
  rintro e w4 ⟨Aw4, cw4, rfl, kc4, mc4, r4, hb4⟩
  have z4 := hb4.size
  try simp at z4
  have s4 : Below w3.heap.size w3 w4 := Below.trans (by go_grown) (hb4.mono (by first | omega | (simp; done) | (simp; omega)))
  have b4 : Below w.heap.size w w4 := b3.trans (s4.mono (by omega))
  have R1_4 := Lib.hid (R1_3.out.below s4 (by omega))
  clear R1_3
  have R2_4 := Lib.hid (r4.wide (lo' := w3.heap.size) (by first | omega | (simp; done) | (simp; omega)) (Nat.le_refl _))
  clear r4
  clear hb4 s4
  go_wp2_with fail
  refine (hspec.out _ _ _ _ _ (R1_4.out.beds) (R2_4.out.beds)).mono ?_
  rintro e w5 ⟨rfl, hb5⟩
  have z5 := hb5.size
  try simp at z5
  have s5 : Below w4.heap.size w4 w5 := Below.trans (by go_grown) (hb5.mono (by first | omega | (simp; done) | (simp; omega)))
  have b5 : Below w.heap.size w w5 := b4.trans (s5.mono (by omega))
  have R1_5 := Lib.hid (R1_4.out.below s5 (by omega))
  clear R1_4
  have R2_5 := Lib.hid (R2_4.out.below s5 (by omega))
  clear R2_4
  clear hb5 s5
  clear R1_5
  clear R2_5
  go_wp2_with fail
  refine (toBedS_c A n c M Y G _ hnnn HMn.out (Beds.below HY.out b5)).mono ?_
  rintro e w6 ⟨Aw6, cw6, rfl, kc6, mc6, r6, hb6⟩
  have z6 := hb6.size
  try simp at z6
  have s6 : Below w5.heap.size w5 w6 := Below.trans (by go_grown) (hb6.mono (by first | omega | (simp; done) | (simp; omega)))
  have b6 : Below w.heap.size w w6 := b5.trans (s6.mono (by omega))
  have R3_6 := Lib.hid (r6.wide (lo' := w5.heap.size) (by first | omega | (simp; done) | (simp; omega)) (Nat.le_refl _))
  clear r6
  clear hb6 s6
  go_wp2_with fail
  refine (toBedS_c A2 n2 c2 M2 Y2 G2 _ hnnn2 HMn2.out (Beds.below HY2.out b6)).mono ?_
  rintro e w7 ⟨Aw7, cw7, rfl, kc7, mc7, r7, hb7⟩
  have z7 := hb7.size
  try simp at z7
  have s7 : Below w6.heap.size w6 w7 := Below.trans (by go_grown) (hb7.mono (by first | omega | (simp; done) | (simp; omega)))
  have b7 : Below w.heap.size w w7 := b6.trans (s7.mono (by omega))
  have R3_7 := Lib.hid (R3_6.out.below s7 (by omega))
  clear R3_6
  have R4_7 := Lib.hid (r7.wide (lo' := w6.heap.size) (by first | omega | (simp; done) | (simp; omega)) (Nat.le_refl _))
  clear r7
  clear hb7 s7
  go_wp2_with fail
  refine (himpl.out _ _ _ _ _ (R3_7.out.beds) (R4_7.out.beds)).mono ?_
  rintro e w8 ⟨rfl, hb8⟩
  have z8 := hb8.size
  try simp at z8
  have s8 : Below w7.heap.size w7 w8 := Below.trans (by go_grown) (hb8.mono (by first | omega | (simp; done) | (simp; omega)))
  have b8 : Below w.heap.size w w8 := b7.trans (s8.mono (by omega))
  have R3_8 := Lib.hid (R3_7.out.below s8 (by omega))
  clear R3_7
  have R4_8 := Lib.hid (R4_7.out.below s8 (by omega))
  clear R4_7
  clear hb8 s8
  go_wp2_with fail
  refine (toBedS_c A n c M Y G _ hnnn HMn.out (Beds.below HY.out b8)).mono ?_
  rintro e w9 ⟨Aw9, cw9, rfl, kc9, mc9, r9, hb9⟩
  have z9 := hb9.size
  try simp at z9
  have s9 : Below w8.heap.size w8 w9 := Below.trans (by go_grown) (hb9.mono (by first | omega | (simp; done) | (simp; omega)))
  have b9 : Below w.heap.size w w9 := b8.trans (s9.mono (by omega))
  have R3_9 := Lib.hid (R3_8.out.below s9 (by omega))
  clear R3_8
  have R4_9 := Lib.hid (R4_8.out.below s9 (by omega))
  clear R4_8
  have R5_9 := Lib.hid (r9.wide (lo' := w8.heap.size) (by first | omega | (simp; done) | (simp; omega)) (Nat.le_refl _))
  clear r9
  clear hb9 s9
  go_wp2_with fail
  refine (eqBedS_same Aw6 Aw9 n cw6 cw9 M Y G _ hmn (fun j hj => Nat.le_trans (HMn.out j hj) (by unfold maxLen; omega)) (R3_9.out.beds) (R5_9.out.beds)).mono ?_
  rintro e w10 ⟨rfl, hb10⟩
  have z10 := hb10.size
  try simp at z10
  have s10 : Below w9.heap.size w9 w10 := Below.trans (by go_grown) (hb10.mono (by first | omega | (simp; done) | (simp; omega)))
  have b10 : Below w.heap.size w w10 := b9.trans (s10.mono (by omega))
  have R3_10 := Lib.hid (R3_9.out.below s10 (by omega))
  clear R3_9
  have R4_10 := Lib.hid (R4_9.out.below s10 (by omega))
  clear R4_9
  have R5_10 := Lib.hid (R5_9.out.below s10 (by omega))
  clear R5_9
  clear hb10 s10
  clear R5_10
  go_wp2_with fail
  refine (toBedS_c A2 n2 c2 M2 Y2 G2 _ hnnn2 HMn2.out (Beds.below HY2.out b10)).mono ?_
  rintro e w11 ⟨Aw11, cw11, rfl, kc11, mc11, r11, hb11⟩
  have z11 := hb11.size
  try simp at z11
  have s11 : Below w10.heap.size w10 w11 := Below.trans (by go_grown) (hb11.mono (by first | omega | (simp; done) | (simp; omega)))
  have b11 : Below w.heap.size w w11 := b10.trans (s11.mono (by omega))
  have R3_11 := Lib.hid (R3_10.out.below s11 (by omega))
  clear R3_10
  have R4_11 := Lib.hid (R4_10.out.below s11 (by omega))
  clear R4_10
  have R6_11 := Lib.hid (r11.wide (lo' := w10.heap.size) (by first | omega | (simp; done) | (simp; omega)) (Nat.le_refl _))
  clear r11
  clear hb11 s11
  go_wp2_with fail
  refine (eqBedS_same Aw7 Aw11 n2 cw7 cw11 M2 Y2 G2 _ hmn2 (fun j hj => Nat.le_trans (HMn2.out j hj) (by unfold maxLen; omega)) (R4_11.out.beds) (R6_11.out.beds)).mono ?_
  rintro e w12 ⟨rfl, hb12⟩
  have z12 := hb12.size
  try simp at z12
  have s12 : Below w11.heap.size w11 w12 := Below.trans (by go_grown) (hb12.mono (by first | omega | (simp; done) | (simp; omega)))
  have b12 : Below w.heap.size w w12 := b11.trans (s12.mono (by omega))
  have R3_12 := Lib.hid (R3_11.out.below s12 (by omega))
  clear R3_11
  have R4_12 := Lib.hid (R4_11.out.below s12 (by omega))
  clear R4_11
  have R6_12 := Lib.hid (R6_11.out.below s12 (by omega))
  clear R6_11
  clear hb12 s12
  clear R6_12
  go_wp2
  go_ret
  exact ⟨rfl, b12⟩

set_option maxHeartbeats 1000000 in
theorem big (A : Option Addr) (n c : Nat) (M : Nat → Nat) (Y : Nat → Nat → Int) (G : Nat → Int) (A2 : Option Addr) (n2 c2 : Nat) (M2 : Nat → Nat) (Y2 : Nat → Nat → Int) (G2 : Nat → Int) (w : World) (hn : n ≤ maxLen) (hM : ∀ j, j < n → M j ≤ maxLen) (h : Beds w A n M Y G) (hn2 : n2 ≤ maxLen) (hM2 : ∀ j, j < n2 → M2 j ≤ maxLen) (h2 : Beds w A2 n2 M2 Y2 G2) (hT : 1048576 < n + sumM M n + (n2 + sumM M2 n2)) :
    Calls Try.prog 10 #[.slice A n c, .slice A2 n2 c2] w fun e w' => e = .returned (.bool true) ∧ Below w.heap.size w w' := by
  have H := Lib.hid h
  have HM := Lib.hid hM
  have H2 := Lib.hid h2
  have HM2 := Lib.hid hM2
  clear h hM h2 hM2
  obtain ⟨T, hT1⟩ : ∃ T, n + sumM M n = T := ⟨_, rfl⟩
  have HT := Lib.hid hT1
  rw [hT1] at hT
  clear hT1
  by_cases hb : 1048576 < T
  · go_enter Try.func10, Try.ntmps10
    go_wp2_with fail
    refine (szBeds_big A n c M Y G 1048576 _ (by omega) (by omega) (by have := HT.out; omega) hn HM.out H.out).mono ?_
    rintro e w1 ⟨rfl, hb1⟩
    go_wp2
    go_ret
    exact ⟨rfl, hb1⟩
  · have hr : ¬ (1048576 - (T : Int)) < 0 := by omega
    go_enter Try.func10, Try.ntmps10
    go_wp2_with fail
    refine (szBeds_c A n c M Y G T 1048576 _ HT.out (by omega) (by omega) H.out).mono ?_
    rintro e w1 ⟨rfl, hb1⟩
    go_wp2_with fail
    refine (szBeds_big A2 n2 c2 M2 Y2 G2 (1048576 - T) _ (by omega) (by omega) (by omega) hn2 HM2.out (H2.out.below hb1)).mono ?_
    rintro e w2 ⟨rfl, hb2⟩
    have g2 : Below w.heap.size w w2 := hb1.trans (hb2.mono hb1.size)
    clear hb1 hb2
    go_wp2
    go_ret
    exact ⟨rfl, g2⟩

theorem walk (A : Option Addr) (n c : Nat) (M : Nat → Nat) (Y : Nat → Nat → Int) (G : Nat → Int) (A2 : Option Addr) (n2 c2 : Nat) (M2 : Nat → Nat) (Y2 : Nat → Nat → Int) (G2 : Nat → Int) (w : World) (le : n ≤ c) (mx : c ≤ maxLen) (sl : Beds w A n M Y G) (hM : ∀ j, j < n → M j ≤ maxLen) (wf : ∀ j, j < n → (Lit.int .i64 (G j)).wf = true)
    (le2 : n2 ≤ c2) (mx2 : c2 ≤ maxLen) (sl2 : Beds w A2 n2 M2 Y2 G2) (hM2 : ∀ j, j < n2 → M2 j ≤ maxLen) (wf2 : ∀ j, j < n2 → (Lit.int .i64 (G2 j)).wf = true) :
    Calls Try.prog 10 #[.slice A n c, .slice A2 n2 c2] w fun e w' => e = .returned (.bool true) ∧ Below w.heap.size w w' := by
  by_cases hn : n + sumM M n + (n2 + sumM M2 n2) ≤ 1048576
  · exact core A n c M Y G _ A2 n2 c2 M2 Y2 G2 _ _ w rfl (by omega) sl rfl (by omega) sl2 (by omega) (fun A' c' B' d' w h k => sameBeds_s A' B' n n2 c' d' M M2 Y Y2 G G2 w (by omega) (by omega) hM hM2 h k) (fun A' c' B' d' w h k => sameBeds_i A' B' n n2 c' d' M M2 Y Y2 G G2 w (by omega) (by omega) hM hM2 h k)
  · exact big A n c M Y G A2 n2 c2 M2 Y2 G2 w (by omega) hM sl (by omega) hM2 sl2 (by omega)

theorem own : ownKnob Try.prog.godebug = none := by kernel_rfl
theorem laidOut : laidOutB Try.prog = true := by kernel_rfl

set_option maxRecDepth 100000 in
theorem lifted (os : Os) (started : os.Started) (H : Type) (enc : TypeId × Value → H) :
    ReturnsInHanded {} Try.checked os 10 .any (Rows.fnExactSameBedsSpec.pre6 enc Try.prog Try.f10 Rows.fnExactSameBedsRow.domain false) (Rows.fnExactSameBedsSpec.post enc Try.prog Try.f10 false true false false) := by
  refine returnsInHanded_of_change (C := Try.checked) own started (by kernel_rfl) Try.func10
    (ChangeSpec.witness6 (enc := enc) (C := Try.checked) false ⟨#[], #[.slice none 0 0, .slice none 0 0], []⟩ 8 (by kernel_rfl) (by kernel_rfl) (by kernel_rfl) (by kernel_rfl)) ?_
  intro W base args ds gs before hval0 hW hcnd hreach
  have hval : ∀ (j : Nat) t v, Try.f10.params[j]? = some t → args[j]? = some v → Value.okWide Try.prog W .any base t v := hval0
  have hW' := hW
  obtain ⟨p, q, hA0, hV, rfl, hfz, hnd⟩ := hW
  have hA : DataW.TrodAll enc Try.prog W 0 (fun _ => true) true Try.f10.params.toList args.toList ds p := hA0
  rw [Try.params10] at hA hval
  obtain ⟨v0, vs0, d0, ds0, p0, q0, hargs, rfl, rfl, h0, r0⟩ := trodAll_cons hA
  obtain ⟨v1, vs1, d1, ds1, p1, q1, hargs1, rfl, rfl, h1, r1⟩ := trodAll_cons r0
  obtain ⟨rfl, rfl, rfl⟩ := trodAll_nil r1
  obtain rfl : args = #[v0, v1] := by cases args; simp_all
  obtain ⟨rfl, rfl⟩ := trodVars_none hV
  have k0 := h0
  have lt0 : ∀ x ∈ p0, x.block < W.heap.size := by obtain ⟨m, hm⟩ := k0; exact DataW.trod_lt m _ _ _ hm
  obtain ⟨a0, len0, cap0, rfl⟩ := okWide_slice Try.underlying22 (hval 0 22 v0 rfl rfl)
  obtain ⟨le0, mx0, M0, Y0, G0, sl0, hM0, wf0⟩ : len0 ≤ cap0 ∧ cap0 ≤ maxLen ∧ ∃ (M : Nat → Nat) (Y : Nat → Nat → Int) (G : Nat → Int), Beds W a0 len0 M Y G ∧ (∀ j, j < len0 → M j ≤ maxLen) ∧ ∀ j, j < len0 → (Lit.int .i64 (G j)).wf = true := by
    obtain ⟨fuel, hf⟩ := h0
    exact open_beds Try.underlying22 Try.underlying31 (by kernel_rfl) (by kernel_rfl) Try.underlying29 Try.underlying2 (by kernel_rfl) Try.underlying2 hf
  have k1 := h1
  have lt1 : ∀ x ∈ p1, x.block < W.heap.size := by obtain ⟨m, hm⟩ := k1; exact DataW.trod_lt m _ _ _ hm
  obtain ⟨a1, len1, cap1, rfl⟩ := okWide_slice Try.underlying22 (hval 1 22 v1 rfl rfl)
  obtain ⟨le1, mx1, M1, Y1, G1, sl1, hM1, wf1⟩ : len1 ≤ cap1 ∧ cap1 ≤ maxLen ∧ ∃ (M : Nat → Nat) (Y : Nat → Nat → Int) (G : Nat → Int), Beds W a1 len1 M Y G ∧ (∀ j, j < len1 → M j ≤ maxLen) ∧ ∀ j, j < len1 → (Lit.int .i64 (G j)).wf = true := by
    obtain ⟨fuel, hf⟩ := h1
    exact open_beds Try.underlying22 Try.underlying31 (by kernel_rfl) (by kernel_rfl) Try.underlying29 Try.underlying2 (by kernel_rfl) Try.underlying2 hf
  clear hA0 hval0
  refine (walk a0 len0 cap0 M0 Y0 G0 a1 len1 cap1 M1 Y1 G1 W le0 mx0 sl0 hM0 wf0 le1 mx1 sl1 hM1 wf1).mono fun e W' ⟨he, bel⟩ => ?_
  subst he
  exact ⟨_, rfl, _, _, _, [], _, [], hW', trodAll_mk1 (shut_bool Try.underlying4 _), (trodAll_cons_mk (Below.trod laidOut (by kernel_rfl) (of_decide_eq_true (by kernel_rfl)) k0 bel lt0) (trodAll_cons_mk (Below.trod laidOut (by kernel_rfl) (of_decide_eq_true (by kernel_rfl)) k1 bel lt1) trodAll_mk0)), rfl, bel.frame _, fun h => by cases h⟩

theorem over : Rows.fnExactSameBedsRow.holds Try.pinned (OpenSpec.ofChange Rows.fnExactSameBedsSpec) :=
  OpenClaim.holds_of_wide 10 Try.f10 rfl rfl rfl rfl rfl rfl rfl ⟨rfl, rfl, rfl, rfl, rfl⟩ rfl rfl rfl rfl rfl (by kernel_rfl) Try.func10 (by kernel_rfl)
    (of_decide_eq_true (by kernel_rfl)) (by unfold Func.isWrapper; first | (rw [if_pos (by decide +kernel)]; kernel_rfl) | (rw [if_neg (by decide +kernel)]; exact ⟨rfl, rfl⟩))
    (fun os started H enc _ => lifted os started H enc)

theorem proved : Rows.FnExactSameBedsSaid := over

end Go.Proofs.Ytminbbdmjglnjaa.fnExactSameBeds
