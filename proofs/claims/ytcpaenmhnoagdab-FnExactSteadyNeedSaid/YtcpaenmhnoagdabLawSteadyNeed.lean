/-
  For every list of beds and every number of years, FnExactSteadyNeed returns true: SteadyNeed of the program gives the need and the code of the model, and keeps the list. No condition.
-/
import Derived.Test.YtcpaenmhnoagdabSteadyW
import Derived.Test.YtcpaenmhnoagdabOpenBed
namespace Go.Proofs.Ytcpaenmhnoagdab.fnExactSteadyNeed
open Go.ChangeShapes Go.WideShapes Go.ChangeAt Go.RowKit Go.Joins
open Go.ChangeMaps (open_string shut_string)
open Go.Proofs.Ytcpaenmhnoagdab.rod Go.Proofs.Ytcpaenmhnoagdab.mem Go.Proofs.Ytcpaenmhnoagdab.nums
set_option linter.unusedVariables false

set_option maxHeartbeats 4000000 in
set_option maxRecDepth 100000 in
theorem core (A : Option Addr) (n c : Nat) (M : Nat → Nat) (Y : Nat → Nat → Int) (G : Nat → Int) (Tn : Nat) (years : Int) (v : Int) (code : Int) (w : World) (hTn : n + sumM M n = Tn) (hnn : Tn ≤ 1048576) (hY : Beds w A n M Y G)
    (hspec : Hid (∀ (A' : Option Addr) (c' : Nat) (w : World), Beds w A' n M Y G → Calls Try.prog 59 #[.slice A' n c', .int .i64 years] w (fun e w' => e = .returned (.tuple #[.int .i64 v, .int .i64 code]) ∧ Below w.heap.size w w')))
    (himpl : Hid (∀ (A' : Option Addr) (c' : Nat) (w : World), Beds w A' n M Y G → Calls Try.prog 60 #[.slice A' n c', .int .i64 years] w (fun e w' => e = .returned (.tuple #[.int .i64 v, .int .i64 code]) ∧ Below w.heap.size w w'))) :
    Calls Try.prog 13 #[.slice A n c, .int .i64 years] w fun e w' => e = .returned (.bool true) ∧ Below w.heap.size w w' := by
  have HY := Lib.hid hY
  clear hY
  have hmn : n ≤ maxLen := by unfold maxLen; omega
  have hnnn : n ≤ 1048576 := by omega
  have hMn : ∀ j, j < n → M j ≤ 1048576 := fun j hj => by have := sumM_at (M := M) hj; omega
  have HMn := Lib.hid hMn
  clear hMn
  have HTn := Lib.hid hTn
  clear hTn
  have hrTn : ¬ (1048576 - (Tn : Int)) < 0 := by omega
  have b0 : Below w.heap.size w w := Below.refl _ _
  go_enter Try.func13, Try.ntmps13
  go_wp2_with fail
  refine (szBeds_c A n c M Y G Tn 1048576 _ HTn.out (by omega) (by omega) (Beds.below HY.out b0)).mono ?_
  rintro e w1 ⟨rfl, hb1⟩
  have z1 := hb1.size
  try simp at z1
  have s1 : Below w.heap.size w w1 := Below.trans (by go_grown) (hb1.mono (by first | omega | (simp; done) | (simp; omega)))
  have b1 : Below w.heap.size w w1 := b0.trans (s1.mono (by omega))
  clear hb1 s1
  go_wp2_with fail
  refine (toBedS_c A n c M Y G _ hnnn HMn.out (Beds.below HY.out b1)).mono ?_
  rintro e w2 ⟨Aw2, cw2, rfl, kc2, mc2, r2, hb2⟩
  have z2 := hb2.size
  try simp at z2
  have s2 : Below w1.heap.size w1 w2 := Below.trans (by go_grown) (hb2.mono (by first | omega | (simp; done) | (simp; omega)))
  have b2 : Below w.heap.size w w2 := b1.trans (s2.mono (by omega))
  have R1_2 := Lib.hid (r2.wide (lo' := w1.heap.size) (by first | omega | (simp; done) | (simp; omega)) (Nat.le_refl _))
  clear r2
  clear hb2 s2
  go_wp2_with fail
  refine (hspec.out _ _ _ (R1_2.out.beds)).mono ?_
  rintro e w3 ⟨rfl, hb3⟩
  have z3 := hb3.size
  try simp at z3
  have s3 : Below w2.heap.size w2 w3 := Below.trans (by go_grown) (hb3.mono (by first | omega | (simp; done) | (simp; omega)))
  have b3 : Below w.heap.size w w3 := b2.trans (s3.mono (by omega))
  have R1_3 := Lib.hid (R1_2.out.below s3 (by omega))
  clear R1_2
  clear hb3 s3
  clear R1_3
  go_wp2_with fail
  refine (toBedS_c A n c M Y G _ hnnn HMn.out (Beds.below HY.out b3)).mono ?_
  rintro e w4 ⟨Aw4, cw4, rfl, kc4, mc4, r4, hb4⟩
  have z4 := hb4.size
  try simp at z4
  have s4 : Below w3.heap.size w3 w4 := Below.trans (by go_grown) (hb4.mono (by first | omega | (simp; done) | (simp; omega)))
  have b4 : Below w.heap.size w w4 := b3.trans (s4.mono (by omega))
  have R2_4 := Lib.hid (r4.wide (lo' := w3.heap.size) (by first | omega | (simp; done) | (simp; omega)) (Nat.le_refl _))
  clear r4
  clear hb4 s4
  go_wp2_with fail
  refine (himpl.out _ _ _ (R2_4.out.beds)).mono ?_
  rintro e w5 ⟨rfl, hb5⟩
  have z5 := hb5.size
  try simp at z5
  have s5 : Below w4.heap.size w4 w5 := Below.trans (by go_grown) (hb5.mono (by first | omega | (simp; done) | (simp; omega)))
  have b5 : Below w.heap.size w w5 := b4.trans (s5.mono (by omega))
  have R2_5 := Lib.hid (R2_4.out.below s5 (by omega))
  clear R2_4
  clear hb5 s5
  go_wp2_with fail
  refine (toBedS_c A n c M Y G _ hnnn HMn.out (Beds.below HY.out b5)).mono ?_
  rintro e w6 ⟨Aw6, cw6, rfl, kc6, mc6, r6, hb6⟩
  have z6 := hb6.size
  try simp at z6
  have s6 : Below w5.heap.size w5 w6 := Below.trans (by go_grown) (hb6.mono (by first | omega | (simp; done) | (simp; omega)))
  have b6 : Below w.heap.size w w6 := b5.trans (s6.mono (by omega))
  have R2_6 := Lib.hid (R2_5.out.below s6 (by omega))
  clear R2_5
  have R3_6 := Lib.hid (r6.wide (lo' := w5.heap.size) (by first | omega | (simp; done) | (simp; omega)) (Nat.le_refl _))
  clear r6
  clear hb6 s6
  go_wp2_with fail
  refine (eqBedS_same Aw4 Aw6 n cw4 cw6 M Y G _ hmn (fun j hj => Nat.le_trans (HMn.out j hj) (by unfold maxLen; omega)) (R2_6.out.beds) (R3_6.out.beds)).mono ?_
  rintro e w7 ⟨rfl, hb7⟩
  have z7 := hb7.size
  try simp at z7
  have s7 : Below w6.heap.size w6 w7 := Below.trans (by go_grown) (hb7.mono (by first | omega | (simp; done) | (simp; omega)))
  have b7 : Below w.heap.size w w7 := b6.trans (s7.mono (by omega))
  have R2_7 := Lib.hid (R2_6.out.below s7 (by omega))
  clear R2_6
  have R3_7 := Lib.hid (R3_6.out.below s7 (by omega))
  clear R3_6
  clear hb7 s7
  clear R3_7
  go_wp2
  go_ret
  exact ⟨rfl, b7⟩

set_option maxHeartbeats 1000000 in
theorem big (A : Option Addr) (n c : Nat) (M : Nat → Nat) (Y : Nat → Nat → Int) (G : Nat → Int) (years : Int) (w : World) (hn : n ≤ maxLen) (hM : ∀ j, j < n → M j ≤ maxLen) (h : Beds w A n M Y G) (hT : 1048576 < n + sumM M n) :
    Calls Try.prog 13 #[.slice A n c, .int .i64 years] w fun e w' => e = .returned (.bool true) ∧ Below w.heap.size w w' := by
  have H := Lib.hid h
  have HM := Lib.hid hM
  have HT := Lib.hid hT
  clear h hM hT
  go_enter Try.func13, Try.ntmps13
  go_wp2_with fail
  refine (szBeds_big A n c M Y G 1048576 _ (by omega) (by omega) (by have := HT.out; omega) hn HM.out H.out).mono ?_
  rintro e w1 ⟨rfl, hb1⟩
  go_wp2
  go_ret
  exact ⟨rfl, hb1⟩

theorem walk (A : Option Addr) (n c : Nat) (M : Nat → Nat) (Y : Nat → Nat → Int) (G : Nat → Int) (years : Int) (w : World) (le : n ≤ c) (mx : c ≤ maxLen) (sl : Beds w A n M Y G) (hM : ∀ j, j < n → M j ≤ maxLen) (wf : ∀ j, j < n → (Lit.int .i64 (G j)).wf = true) (x0 : (Lit.int .i64 years).wf = true) :
    Calls Try.prog 13 #[.slice A n c, .int .i64 years] w fun e w' => e = .returned (.bool true) ∧ Below w.heap.size w w' := by
  by_cases hn : n + sumM M n ≤ 1048576
  · have no : ∀ code, SteadyNo n M Y G years code → Calls Try.prog 13 #[.slice A n c, .int .i64 years] w fun e w' => e = .returned (.bool true) ∧ Below w.heap.size w w' := fun code hno =>
      core A n c M Y G _ years 0 code w rfl hn sl (fun A' c' w h => need_s_no A' n c' M Y G years code w (by omega) hM h hno) (fun A' c' w h => need_i_no A' n c' M Y G years code w (by omega) hM h hno)
    cases hb : bedsB n M Y G
    · exact no 1 (.inl ⟨hb, rfl⟩)
    · cases hy : inB years 1 3
      · exact no 2 (.inr (.inl ⟨hb, hy, rfl⟩))
      · by_cases h4 : 4 < n
        · exact no 5 (.inr (.inr ⟨hb, hy, h4, rfl⟩))
        · obtain ⟨y1, y3⟩ := inB_of hy
          exact core A n c M Y G _ years _ 0 w rfl hn sl (fun A' c' w h => need_s A' n c' M Y G (years.toNat - 1) years w hb (by omega) (by omega) (by omega) h) (fun A' c' w h => need_i A' n c' M Y G (years.toNat - 1) years w hb (by omega) (by omega) (by omega) h)
  · exact big A n c M Y G years w (by omega) hM sl (by omega)

theorem own : ownKnob Try.prog.godebug = none := by kernel_rfl
theorem laidOut : laidOutB Try.prog = true := by kernel_rfl

set_option maxRecDepth 100000 in
theorem lifted (os : Os) (started : os.Started) (H : Type) (enc : TypeId × Value → H) :
    ReturnsInHanded {} Try.checked os 13 .any (Rows.fnExactSteadyNeedSpec.pre6 enc Try.prog Try.f13 Rows.fnExactSteadyNeedRow.domain false) (Rows.fnExactSteadyNeedSpec.post enc Try.prog Try.f13 false true false false) := by
  refine returnsInHanded_of_change (C := Try.checked) own started (by kernel_rfl) Try.func13
    (ChangeSpec.witness6 (enc := enc) (C := Try.checked) false ⟨#[], #[.slice none 0 0, .int .i64 0], []⟩ 8 (by kernel_rfl) (by kernel_rfl) (by kernel_rfl) (by kernel_rfl)) ?_
  intro W base args ds gs before hval0 hW hcnd hreach
  have hval : ∀ (j : Nat) t v, Try.f13.params[j]? = some t → args[j]? = some v → Value.okWide Try.prog W .any base t v := hval0
  have hW' := hW
  obtain ⟨p, q, hA0, hV, rfl, hfz, hnd⟩ := hW
  have hA : DataW.TrodAll enc Try.prog W 0 (fun _ => true) true Try.f13.params.toList args.toList ds p := hA0
  rw [Try.params13] at hA hval
  obtain ⟨v0, vs0, d0, ds0, p0, q0, hargs, rfl, rfl, h0, r0⟩ := trodAll_cons hA
  obtain ⟨v1, vs1, d1, ds1, p1, q1, hargs1, rfl, rfl, h1, r1⟩ := trodAll_cons r0
  obtain ⟨rfl, rfl, rfl⟩ := trodAll_nil r1
  obtain rfl : args = #[v0, v1] := by cases args; simp_all
  obtain ⟨rfl, rfl⟩ := trodVars_none hV
  have k0 := h0
  have lt0 : ∀ x ∈ p0, x.block < W.heap.size := by obtain ⟨m, hm⟩ := k0; exact DataW.trod_lt m _ _ _ hm
  obtain ⟨a0, len0, cap0, rfl⟩ := okWide_slice Try.underlying53 (hval 0 53 v0 rfl rfl)
  obtain ⟨le0, mx0, M0, Y0, G0, sl0, hM0, wf0⟩ : len0 ≤ cap0 ∧ cap0 ≤ maxLen ∧ ∃ (M : Nat → Nat) (Y : Nat → Nat → Int) (G : Nat → Int), Beds W a0 len0 M Y G ∧ (∀ j, j < len0 → M j ≤ maxLen) ∧ ∀ j, j < len0 → (Lit.int .i64 (G j)).wf = true := by
    obtain ⟨fuel, hf⟩ := h0
    exact open_beds Try.underlying53 Try.underlying61 (by kernel_rfl) (by kernel_rfl) Try.underlying29 Try.underlying2 (by kernel_rfl) Try.underlying2 hf
  have k1 := h1
  have lt1 : ∀ x ∈ p1, x.block < W.heap.size := by obtain ⟨m, hm⟩ := k1; exact DataW.trod_lt m _ _ _ hm
  obtain ⟨a1, rfl, rfl, rfl, w1⟩ := open_int Try.underlying2 (hval 1 2 v1 rfl rfl) h1
  clear hA0 hval0
  refine (walk a0 len0 cap0 M0 Y0 G0 a1 W le0 mx0 sl0 hM0 wf0 w1).mono fun e W' ⟨he, bel⟩ => ?_
  subst he
  exact ⟨_, rfl, _, _, _, [], _, [], hW', trodAll_mk1 (shut_bool Try.underlying4 _), (trodAll_cons_mk (Below.trod laidOut (by kernel_rfl) (of_decide_eq_true (by kernel_rfl)) k0 bel lt0) (trodAll_cons_mk (Below.trod laidOut (by kernel_rfl) (of_decide_eq_true (by kernel_rfl)) k1 bel lt1) trodAll_mk0)), rfl, bel.frame _, fun h => by cases h⟩

theorem over : Rows.fnExactSteadyNeedRow.holds Try.pinned (OpenSpec.ofChange Rows.fnExactSteadyNeedSpec) :=
  OpenClaim.holds_of_wide 13 Try.f13 rfl rfl rfl rfl rfl rfl rfl ⟨rfl, rfl, rfl, rfl, rfl⟩ rfl rfl rfl rfl rfl (by kernel_rfl) Try.func13 (by kernel_rfl)
    (of_decide_eq_true (by kernel_rfl)) (by unfold Func.isWrapper; first | (rw [if_pos (by decide +kernel)]; kernel_rfl) | (rw [if_neg (by decide +kernel)]; exact ⟨rfl, rfl⟩))
    (fun os started H enc _ => lifted os started H enc)

theorem proved : Rows.FnExactSteadyNeedSaid := over

end Go.Proofs.Ytcpaenmhnoagdab.fnExactSteadyNeed
