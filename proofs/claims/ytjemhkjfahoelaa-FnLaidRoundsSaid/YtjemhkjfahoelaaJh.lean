/-
  Contracts of StakesForRods, of the model and of the program. No condition of a statement lies here.
-/
import Derived.Test.YtjemhkjfahoelaaJg
import Derived.Test.YtjemhkjfahoelaaOwnV
import Derived.BigQuiet
import Derived.BigRegion
namespace Go.Proofs.Ytjemhkjfahoelaa.jns
open Go.ChangeShapes Go.WideShapes Go.ChangeAt Go.RowKit Go.Proofs.Ytjemhkjfahoelaa.mem Go.Proofs.Ytjemhkjfahoelaa.rod Go.Proofs.Ytjemhkjfahoelaa.nums
set_option linter.unusedVariables false
set_option maxRecDepth 100000

/-- the numbers of stakes from 3 on, k of them, that pass a test -/
def stk (p : Int → Bool) : Nat → List Int
  | 0 => []
  | k + 1 => stk p k ++ (if p (3 + (k : Int)) then [3 + (k : Int)] else [])
theorem stk_yes {p : Int → Bool} {k : Nat} {s : Int} (hs : s = 3 + (k : Int)) (h : p s = true) : stk p (k + 1) = stk p k ++ [s] := by subst hs; show stk p k ++ _ = _; rw [if_pos h]
theorem stk_no {p : Int → Bool} {k : Nat} {s : Int} (hs : s = 3 + (k : Int)) (h : p s = false) : stk p (k + 1) = stk p k := by subst hs; show stk p k ++ _ = _; rw [h]; simp
theorem stk_len (p : Int → Bool) : ∀ k, (stk p k).length ≤ k
  | 0 => Nat.le_refl _
  | k + 1 => by
    have := stk_len p k
    unfold stk
    rw [List.length_append]
    split <;> simp <;> omega
theorem owns_lt {w : World} {B n size : Nat} {E : TypeId} {v : Value} {xs : List Value} (h : w.ownsRow B E size v n xs) : ∀ g, v.ownBlock = some g → g < w.heap.size := by
  intro g hg
  rcases h.2 with ⟨rfl, _⟩ | ⟨g', cap, cur, rfl, hB, hh, _⟩
  · simp [Value.ownBlock] at hg
  · simp [Value.ownBlock] at hg
    subst hg
    exact (Array.getElem?_eq_some_iff.1 hh).1
theorem owns_keep {w w' : World} {B n size : Nat} {E : TypeId} {v : Value} {xs : List Value} (h : w.ownsRow B E size v n xs) (hk : ∀ g, v.ownBlock = some g → w'.heap[g]? = w.heap[g]?) : w'.ownsRow B E size v n xs := by
  refine ⟨h.1, ?_⟩
  rcases h.2 with ⟨rfl, e⟩ | ⟨g, cap, cur, rfl, hB, hh, rest⟩
  · exact .inl ⟨rfl, e⟩
  · exact .inr ⟨g, cap, cur, rfl, hB, (hk g rfl).trans hh, rest⟩
theorem owns_below {w w' : World} {B n size : Nat} {E : TypeId} {v : Value} {xs : List Value} (h : w.ownsRow B E size v n xs) (hb : Below w.heap.size w w') : w'.ownsRow B E size v n xs :=
  owns_keep h fun g hg => hb.block g (owns_lt h g hg)
theorem owns_set0 {w : World} {b n size : Nat} {E : TypeId} {v : Value} {xs : List Value} (h : w.ownsRow (b + 1) E size v n xs) (u : Value) : (w.setCell ⟨b, 0, none⟩ u).ownsRow (b + 1) E size v n xs :=
  owns_keep h fun g hg => Go.Deep.blk_setCell_other _ _ _ _ (by have := owns_block h g hg; show g ≠ b; omega)
theorem wall_set {w : World} {b n c : Nat} {A : Option Addr} {s bs : Int} {T : TypeId} (h : OwnV w b T 3 (fun j => if j = 0 then .int .i64 s else if j = 1 then .slice A n c else .int .i64 bs)) : OwnV (w.setCell ⟨b, 0, none⟩ (.int .i64 (s + 1))) b T 3 (fun j => if j = 0 then .int .i64 (s + 1) else if j = 1 then .slice A n c else .int .i64 bs) :=
  (h.set 0 _).congr fun j hj => by rcases j with _ | j <;> rfl
theorem below_low {b : Nat} {w w' : World} (h : Below (b + 1) w w') : Below b w w' := ⟨h.os, h.tape, h.output, h.size, fun k hk => h.block k (by omega)⟩
/-- no join of the rods around so many stakes lies above another one -/
def fitB (X : Nat → Int) (n : Nat) (bs s : Int) : Bool := decide ((abv X s bs n).length = 0)
/-- the code of what has no answer -/
def codeR (n : Nat) (X : Nat → Int) (bs most code : Int) : Prop := rodsB n X = false ∧ code = 1 ∨ rodsB n X = true ∧ (inB bs 0 5 && inB most 3 60) = false ∧ code = 2
/-- the cells of a wall -/
def wallV (st : Int) (A : Option Addr) (n c : Nat) (bs : Int) (j : Nat) : Value := if j = 0 then .int .i64 st else if j = 1 then .slice A n c else .int .i64 bs

set_option maxHeartbeats 2000000 in
theorem fit_s_no (A : Option Addr) (n c : Nat) (X : Nat → Int) (bs most : Int) (w : World) (hn : n ≤ maxLen) (hr : Sl w A n 1 X) (code : Int) (hv : codeR n X bs most code) :
    Calls Try.prog 24 #[.slice A n c, .int .i64 bs, .int .i64 most] w (NumsCode w 2 [] code) := by
  have HR := Lib.hid hr
  clear hr
  rcases hv with ⟨hv, rfl⟩ | ⟨hv, hb, rfl⟩
  · go_enter Try.func24, Try.ntmps24
    go_wp2_with (go_at_call 44; refine (rods_s A n c X _ hn (Sl.below HR.out (K := w.heap.size) (by go_grown) (Nat.le_refl _))).mono ?_; rintro e w' ⟨rfl, rfl⟩)
    go_ret2
    exact ⟨none, 0, rfl, Nat.le_refl _, by unfold maxLen; omega, Row.none_, by go_grown⟩
  · cases kb : inB bs 0 5
    · clear hb
      have KB := Lib.hid kb
      go_enter Try.func24, Try.ntmps24
      go_wp2_with (first | (go_at_call 44; refine (rods_s A n c X _ hn (Sl.below HR.out (K := w.heap.size) (by go_grown) (Nat.le_refl _))).mono ?_; rintro e w' ⟨rfl, rfl⟩) | (go_at_call 45; refine (in_s _ _ _ _).mono ?_; rintro e w' ⟨rfl, rfl⟩; rw [KB.out]))
      go_ret2
      exact ⟨none, 0, rfl, Nat.le_refl _, by unfold maxLen; omega, Row.none_, by go_grown⟩
    · have km : inB most 3 60 = false := by rw [kb, Bool.true_and] at hb; exact hb
      clear hb
      have KB := Lib.hid kb
      have KM := Lib.hid km
      go_enter Try.func24, Try.ntmps24
      go_wp2_with (first | (go_at_call 44; refine (rods_s A n c X _ hn (Sl.below HR.out (K := w.heap.size) (by go_grown) (Nat.le_refl _))).mono ?_; rintro e w' ⟨rfl, rfl⟩) | (go_at_call 45; refine (in_s _ _ _ _).mono ?_; rintro e w' ⟨rfl, rfl⟩; rw [KB.out]) | (go_at_call 46; refine (stakes_s _ _).mono ?_; rintro e w' ⟨rfl, rfl⟩; rw [KM.out]))
      go_ret2
      exact ⟨none, 0, rfl, Nat.le_refl _, by unfold maxLen; omega, Row.none_, by go_grown⟩

set_option maxHeartbeats 2000000 in
theorem fit_i_no (A : Option Addr) (n c : Nat) (X : Nat → Int) (bs most : Int) (w : World) (hn : n ≤ maxLen) (hr : Sl w A n 1 X) (code : Int) (hv : codeR n X bs most code) :
    Calls Try.prog 25 #[.slice A n c, .int .i64 bs, .int .i64 most] w (NumsCode w 2 [] code) := by
  have HR := Lib.hid hr
  have k3 : inB 3 3 60 = true := by decide
  have HLB := Lib.hid (show laidB 3 n X = rodsB n X by unfold laidB; rw [k3]; rfl)
  by_cases hc : codeB 3 n X bs code
  · have hc0 : code ≠ 0 := by rcases hc with ⟨_, rfl⟩ | ⟨_, _, rfl⟩ <;> decide
    have HC := Lib.hid (code_i_no 3 A n c X bs w hn hr code hc)
    clear hr hv hc
    have hd1 : (code != 0) = true := by simp [hc0]
    go_enter Try.func25, Try.ntmps25
    go_wp2_with fail
    refine HC.out.mono ?_
    rintro e w1 ⟨rfl, hb1⟩
    have HB1 := Lib.hid hb1
    have z1 := hb1.size
    clear hb1
    go_wp2
    go_ret2
    exact ⟨none, 0, rfl, Nat.le_refl _, by unfold maxLen; omega, Row.none_, HB1.out.trans (by first | (go_grown; done) | (go_grown; omega))⟩
  · have ⟨a, b, k⟩ : laidB 3 n X = true ∧ inB bs 0 5 = true ∧ inB most 3 60 = false ∧ code = 2 := by
      rcases hv with ⟨hv, e⟩ | ⟨hv, hb, e⟩
      · exact absurd (Or.inl ⟨HLB.out.trans hv, e⟩) hc
      · cases kb : inB bs 0 5
        · exact absurd (Or.inr ⟨HLB.out.trans hv, kb, e⟩) hc
        · exact ⟨HLB.out.trans hv, rfl, by rw [kb, Bool.true_and] at hb; exact hb, e⟩
    obtain ⟨km, rfl⟩ := k
    have HC := Lib.hid (code_i 3 A n c X bs w hn hr a b)
    clear hr hv hc a b
    have KM := Lib.hid km
    clear km
    go_enter Try.func25, Try.ntmps25
    go_wp2_with fail
    refine HC.out.mono ?_
    rintro e w1 ⟨rfl, hb1⟩
    have HB1 := Lib.hid hb1
    have z1 := hb1.size
    clear hb1
    go_wp2_with (go_at_call 33; refine (stakes_i _ _).mono ?_; rintro e w' ⟨rfl, rfl⟩; rw [KM.out])
    go_ret2
    exact ⟨none, 0, rfl, Nat.le_refl _, by unfold maxLen; omega, Row.none_, HB1.out.trans (by first | (go_grown; done) | (go_grown; omega))⟩

set_option maxHeartbeats 4000000 in
theorem fit_s (A : Option Addr) (n c : Nat) (X : Nat → Int) (bs most : Int) (w : World) (hn : n ≤ maxLen) (hr : Sl w A n 1 X) (hv : rodsB n X = true) (hb : inB bs 0 5 = true) (hm : inB most 3 60 = true) :
    Calls Try.prog 24 #[.slice A n c, .int .i64 bs, .int .i64 most] w (NumsCode w 2 (stk (fitB X n bs) (most - 2).toNat) 0) := by
  have HR := Lib.hid hr
  have R := rodsB_of hv
  obtain ⟨m0, m1⟩ := inB_of hm
  have KB := Lib.hid hb
  have KM := Lib.hid hm
  have KV := Lib.hid hv
  clear hr hb hm hv
  obtain ⟨i0, hi0, hz0, hz1, hz2⟩ := info_parts info_num
  go_enter Try.func24, Try.ntmps24
  go_wp2_with (first | (go_at_call 44; refine (rods_s A n c X _ hn (Sl.below HR.out (K := w.heap.size) (by go_grown) (Nat.le_refl _))).mono ?_; rintro e w' ⟨rfl, rfl⟩; rw [KV.out]) | (go_at_call 45; refine (in_s _ _ _ _).mono ?_; rintro e w' ⟨rfl, rfl⟩; rw [KB.out]) | (go_at_call 46; refine (stakes_s _ _).mono ?_; rintro e w' ⟨rfl, rfl⟩; rw [KM.out]))
  go_loopw [8, 9] (fun v t wr => ∃ (k : Nat) (s : Int), s = 3 + (k : Int) ∧ s ≤ most + 1 ∧ t = .int .i64 s ∧ Hid (wr.ownsRow w.heap.size 2 1 v (stk (fitB X n bs) k).length ((stk (fitB X n bs) k).map (Value.int .i64))) ∧ Below w.heap.size w wr) (fun _ t _ => (most + 1 - intOf t).toNat)
  case atStart => exact ⟨0, 3, by omega, by omega, rfl, owns_empty w w.heap.size 2 (Nat.le_refl _), by go_grown⟩
  case round =>
    obtain ⟨k, s, hs, hle, rfl, hown, hbl⟩ := hrel
    have HB := Lib.hid hbl
    have hzz := hbl.size
    have HS := Lib.hid hs
    have s3 : 3 ≤ s := by omega
    have hk60 : k ≤ 58 := by omega
    clear hbl hs
    by_cases hlt : s ≤ most
    · go_wp2_with fail
      refine (above_s s bs A n c X _ s3 (by omega) R (HR.out.below HB.out (Nat.le_refl _))).mono ?_
      rintro e w2 ⟨A2, c2, rfl, k1, k2, hrow, hb2⟩
      have HO2 := Lib.hid (owns_below hown.out hb2)
      have HB2 := Lib.hid (HB.out.trans (hb2.mono hzz))
      have zz2 := HB2.out.size
      clear hrow hb2 hown
      cases hf : fitB X n bs s
      · have hq2 : ((((abv X s bs n).length : Nat) : Int) == 0) = false := by
          have := of_decide_eq_false hf
          simp; intro h; exact this (by simp [h])
        have HN := Lib.hid (stk_no HS.out hf)
        clear hf
        generalize (abv X s bs n).length = L at *
        go_wp2
        go_roundw
        case rel => exact ⟨k + 1, s + 1, by have := HS.out; omega, by omega, rfl, by rw [HN.out]; exact HO2.out, HB2.out⟩
        case measure => first | (simp [intOf]; done) | (simp [intOf]; omega)
      · have hq2 : ((((abv X s bs n).length : Nat) : Int) == 0) = true := by
          have := of_decide_eq_true hf
          simp [this]
        have HN := Lib.hid (stk_yes HS.out hf)
        have hlen := stk_len (fitB X n bs) k
        have hl1 : (stk (fitB X n bs) k).length + 1 ≤ maxLen := by unfold maxLen; omega
        have hl2 : ((stk (fitB X n bs) k).length + 1) * 8 ≤ 140737488355328 := by omega
        clear hf
        generalize (abv X s bs n).length = L at *
        generalize hL : stk (fitB X n bs) k = l at *
        have HL := Lib.hid hL
        clear hL
        go_wp2_with (at_builtin; refine wpList_append_own _ rfl _ _ 22 rfl w.heap.size 2 i0 (.int .i64 0) 1 8 Try.underlying22 hi0 hz0 hz1 hz2 rfl (by decide) _ _ _ rfl (HO2.out.alloc _) ⟨w2.heap.size, 0, none⟩ 1 1 [.int .i64 s] rfl rfl ?c1 ?c2 hl1 hl2 ?c5 ?_)
        case c1 => intro j u hj; rcases j with _ | j <;> simp at hj; subst hj; go_simp
        case c2 => intro u hu; simp at hu; subst hu; rfl
        case c5 => simp <;> omega
        intro v' w3 hown3 hgrow3 _
        have g3 : Below w.heap.size w w3 := Below.grown (HB2.out.alloc zz2 _) hgrow3 (by simp; omega) (owns_block HO2.out)
        have HO := Lib.hid (owns_snoc hown3)
        clear hown3 hgrow3
        go_wp2
        go_roundw
        case rel => exact ⟨k + 1, s + 1, by have := HS.out; omega, by omega, rfl, by rw [HN.out]; exact HO.out, g3⟩
        case measure => first | (simp [intOf]; done) | (simp [intOf]; omega)
    · have hkk : (most - 2).toNat = k := by have := HS.out; omega
      obtain ⟨A', c', rfl, hc1, hc2, hrow⟩ := row_of_owns hown.out
      have HW := Lib.hid hrow
      have HKK := Lib.hid hkk
      clear hrow hkk
      go_wp2
      go_ret2
      exact ⟨A', c', by rw [HKK.out]; rfl, by rw [HKK.out]; exact hc1, hc2, by rw [HKK.out]; exact HW.out, HB.out⟩

set_option maxHeartbeats 4000000 in
theorem fit_i (A : Option Addr) (n c : Nat) (X : Nat → Int) (bs most : Int) (w : World) (hn : n ≤ maxLen) (hr : Sl w A n 1 X) (hv : rodsB n X = true) (hb : inB bs 0 5 = true) (hm : inB most 3 60 = true) :
    Calls Try.prog 25 #[.slice A n c, .int .i64 bs, .int .i64 most] w (NumsCode w 2 (stk (fitB X n bs) (most - 2).toNat) 0) := by
  have HR := Lib.hid hr
  have R := rodsB_of hv
  obtain ⟨m0, m1⟩ := inB_of hm
  have k3 : inB 3 3 60 = true := by decide
  have HC := Lib.hid (code_i 3 A n c X bs w hn hr (by unfold laidB; rw [k3, hv]; rfl) hb)
  have KM := Lib.hid hm
  clear hr hb hm hv k3
  obtain ⟨i0, hi0, hz0, hz1, hz2⟩ := info_parts info_num
  go_enter Try.func25, Try.ntmps25
  go_wp2_with fail
  refine HC.out.mono ?_
  rintro e w1 ⟨rfl, hb1⟩
  have HB1 := Lib.hid hb1
  have z1 := hb1.size
  clear hb1 HC
  go_wp2_with (go_at_call 33; refine (stakes_i _ _).mono ?_; rintro e w' ⟨rfl, rfl⟩; rw [KM.out])
  go_loopw [10] (fun v wr => ∃ (k : Nat) (s : Int), s = 3 + (k : Int) ∧ s ≤ most + 1 ∧ Hid (OwnV wr w1.heap.size 50 3 (wallV s A n c bs)) ∧ Hid (wr.ownsRow (w1.heap.size + 1) 2 1 v (stk (fitB X n bs) k).length ((stk (fitB X n bs) k).map (Value.int .i64))) ∧ Below w1.heap.size w1 wr) (fun _ wr => (most + 1 - intOf ((wr.cell? ⟨w1.heap.size, 0, none⟩).getD undef)).toNat)
  case atStart => exact ⟨0, 3, by omega, by omega, ⟨_, Go.Deep.blk_alloc_new _ _, by simp, fun i hi => by rcases i with _ | _ | _ | i <;> first | rfl | omega⟩, owns_nil _ _ _, by go_grown⟩
  case round =>
    obtain ⟨k, s, hs, hle, hV, hown, hbl⟩ := hrel
    have HB := Lib.hid hbl
    have hzz := hbl.size
    have HS := Lib.hid hs
    have s3 : 3 ≤ s := by omega
    have hk60 : k ≤ 58 := by omega
    have hblt := hV.out.lt
    have c0 := hV.out.cell (j := 0) (by omega)
    have c1 := hV.out.cell (j := 1) (by omega)
    have c2 := hV.out.cell (j := 2) (by omega)
    rw [show wallV s A n c bs 0 = .int .i64 s from rfl] at c0
    rw [show wallV s A n c bs 1 = .slice A n c from rfl] at c1
    rw [show wallV s A n c bs 2 = .int .i64 bs from rfl] at c2
    have HV := Lib.hid hV.out
    have C0 := Lib.hid c0
    clear hbl hs hV
    by_cases hlt : s ≤ most
    · go_wp2_with fail
      refine (count_i s bs A n c X _ s3 (by omega) R (HR.out.below (HB1.out.trans (HB.out.mono z1)) (Nat.le_refl _))).mono ?_
      rintro e w2 ⟨rfl, hb2⟩
      have HO2 := Lib.hid (owns_below hown.out hb2)
      have HV2 := Lib.hid (HV.out.below hb2 hblt)
      have HB2 := Lib.hid (HB.out.trans (hb2.mono hzz))
      have zz2 := hb2.size
      have c0 := HV2.out.cell (j := 0) (by omega)
      have f0 := HV2.out.frozen 0
      rw [show wallV s A n c bs 0 = .int .i64 s from rfl] at c0
      clear hb2 hown c1 c2
      cases hf : fitB X n bs s
      · have hq2 : ((((abv X s bs n).length : Nat) : Int) == 0) = false := by
          have := of_decide_eq_false hf
          simp; intro h; exact this (by simp [h])
        have HN := Lib.hid (stk_no HS.out hf)
        clear hf
        generalize (abv X s bs n).length = L at *
        go_wp2
        have HO3 := Lib.hid (owns_set0 HO2.out (.int .i64 (s + 1)))
        have HV3 := Lib.hid (wall_set HV2.out)
        have hc9 := HV3.out.cell (j := 0) (by omega)
        go_roundw
        case rel => exact ⟨k + 1, s + 1, by have := HS.out; omega, by omega, HV3.out, by rw [HN.out]; exact HO3.out, Below.setCell HB2.out (Nat.le_refl _) _⟩
        case measure => rw [hc9, C0.out]; first | (simp [intOf]; done) | (simp [intOf]; omega)
      · have hq2 : ((((abv X s bs n).length : Nat) : Int) == 0) = true := by
          have := of_decide_eq_true hf
          simp [this]
        have HN := Lib.hid (stk_yes HS.out hf)
        have hlen := stk_len (fitB X n bs) k
        have hl1 : (stk (fitB X n bs) k).length + 1 ≤ maxLen := by unfold maxLen; omega
        have hl2 : ((stk (fitB X n bs) k).length + 1) * 8 ≤ 140737488355328 := by omega
        clear hf
        generalize (abv X s bs n).length = L at *
        generalize hL : stk (fitB X n bs) k = l at *
        have HL := Lib.hid hL
        clear hL
        go_wp2_with (at_builtin; refine wpList_append_own _ rfl _ _ 22 rfl (w1.heap.size + 1) 2 i0 (.int .i64 0) 1 8 Try.underlying22 hi0 hz0 hz1 hz2 rfl (by decide) _ _ _ rfl (HO2.out.alloc _) ⟨w2.heap.size, 0, none⟩ 1 1 [.int .i64 s] rfl rfl ?c1 ?c2 hl1 hl2 ?c5 ?_)
        case c1 => intro j u hj; rcases j with _ | j <;> simp at hj; subst hj; go_simp
        case c2 => intro u hu; simp at hu; subst hu; rfl
        case c5 => simp <;> omega
        intro v' w3 hown3 hgrow3 _
        have g3 : Below (w1.heap.size + 1) w2 w3 := Below.grown (Below.alloc (Below.refl _ _) (by omega) _) hgrow3 (by simp; omega) (owns_block HO2.out)
        have HO := Lib.hid (owns_set0 (owns_snoc hown3) (.int .i64 (s + 1)))
        have HV3 := Lib.hid (wall_set (HV2.out.below g3 (by omega)))
        have HG3 := Lib.hid g3
        have c3 := (HV2.out.below g3 (by omega)).cell (j := 0) (by omega)
        have f3 := (HV2.out.below g3 (by omega)).frozen 0
        rw [show wallV s A n c bs 0 = .int .i64 s from rfl] at c3
        have hc9 := HV3.out.cell (j := 0) (by omega)
        clear hown3 hgrow3 g3
        go_wp2
        go_roundw
        case rel => exact ⟨k + 1, s + 1, by have := HS.out; omega, by omega, HV3.out, by rw [HN.out]; exact HO.out, Below.setCell (HB2.out.trans (below_low HG3.out)) (Nat.le_refl _) _⟩
        case measure => rw [hc9, C0.out]; first | (simp [intOf]; done) | (simp [intOf]; omega)
    · have hkk : (most - 2).toNat = k := by have := HS.out; omega
      obtain ⟨A', c', rfl, hc1, hc2, hrow⟩ := row_of_owns hown.out
      have HW := Lib.hid (hrow.wide (lo' := w.heap.size) (by omega) (Nat.le_refl _))
      have HKK := Lib.hid hkk
      have HG := Lib.hid (HB1.out.trans (HB.out.mono z1))
      clear hrow hkk
      go_wp2
      go_ret2
      exact ⟨A', c', by rw [HKK.out]; rfl, by rw [HKK.out]; exact hc1, hc2, by rw [HKK.out]; exact HW.out, HG.out⟩

end Go.Proofs.Ytjemhkjfahoelaa.jns
