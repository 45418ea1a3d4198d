/-
  The rods by descending lengths: contracts of the model's.
-/
import Derived.Test.YtcpaenmhnoagdabSo
import Derived.Test.YtcpaenmhnoagdabRods
import Derived.Test.YtcpaenmhnoagdabAppend
import Derived.Test.YtcpaenmhnoagdabNums
import Derived.BigQuiet
namespace Go.Proofs.Ytcpaenmhnoagdab.rod
open Go.ChangeShapes Go.WideShapes Go.ChangeAt Go.RowKit Go.Proofs.Ytcpaenmhnoagdab.mem Go.Proofs.Ytcpaenmhnoagdab.nums
set_option linter.unusedVariables false

/-- the order as whole numbers -/
def soI (L : Nat → Int) (i : Nat) : List Int := (so L i).map fun x : Nat => (x : Int)
theorem soI_len {L : Nat → Int} (i : Nat) : (soI L i).length = i := by unfold soI; rw [List.length_map, so_len]
theorem soI_at {L : Nat → Int} {i j : Nat} : (soI L i).getD j 0 = (((so L i).getD j 0 : Nat) : Int) := by
  unfold soI
  rw [List.getD, List.getD, List.getElem?_map]
  cases (so L i)[j]? <;> rfl
theorem addr_at (b o j : Nat) : (⟨b, o, none⟩ : Addr).add j = ⟨b, o + j, none⟩ := by
  unfold Addr.add
  split
  · rename_i e; rw [e]; rfl
  · rfl
theorem map_at {l : List Int} {j : Nat} {u : Value} (h : (l.map (Value.int .i64))[j]? = some u) : j < l.length ∧ u = .int .i64 (l.getD j 0) := by
  rw [List.getElem?_map] at h
  by_cases hj : j < l.length
  · rw [List.getElem?_eq_getElem hj] at h
    simp [List.getD, List.getElem?_eq_getElem hj] at h ⊢
    exact ⟨hj, h.symm⟩
  · rw [List.getElem?_eq_none (by omega)] at h
    cases h
theorem owns_none0 (w : World) (B size : Nat) (E : TypeId) (hB : B ≤ w.heap.size) : (w.alloc (Obj.cells #[] E)).ownsRow B E size (.slice (some ⟨w.heap.size, 0, none⟩) 0 0) 0 [] :=
  ⟨by simp, .inr ⟨w.heap.size, 0, #[], rfl, hB, Go.Deep.blk_alloc_new _ _, Nat.le_refl _, by unfold maxLen; omega, by simp, by simp⟩⟩

theorem soI_step {L : Nat → Int} {i K : Nat} (h : spot L (so L i) i i = K) : (soI L i).take K ++ ([(i : Int)] ++ (soI L i).drop K) = soI L (i + 1) := by
  unfold soI
  conv => rhs; unfold so
  rw [so_len, h, List.map_append, List.map_cons, List.map_take, List.map_drop]
  rfl
theorem take_at {l : List Int} {K j : Nat} (h : j < K) : (l.take K).getD j 0 = l.getD j 0 := by
  rw [List.getD, List.getD, List.getElem?_take_of_lt h]
theorem drop_at {l : List Int} {K j : Nat} : (l.drop K).getD j 0 = l.getD (K + j) 0 := by
  rw [List.getD, List.getD, List.getElem?_drop]

set_option maxHeartbeats 2000000 in
set_option maxRecDepth 100000 in
theorem own_l (b o c n : Nat) (l : List Int) (w : World) (hln : l.length = n) (hn : n ≤ 1048576) (hb : b < w.heap.size) (h : ∀ j, j < n → w.cell? ⟨b, o + j, none⟩ = some (.int .i64 (l.getD j 0))) :
    Calls Try.prog 80 #[.slice (some ⟨b, o, none⟩) n c] w fun e w' => ∃ v, e = .returned v ∧ w'.ownsRow w.heap.size 2 1 v n (l.map (Value.int .i64)) ∧ Below w.heap.size w w' := by
  subst hln
  have H := Lib.hid h
  clear h
  obtain ⟨i0, hi0, hz0, hz1, hz2⟩ := info_parts info_num
  go_enter Try.func80, Try.ntmps80
  go_wp2_with (at_builtin; refine wpList_append_own _ rfl _ _ 29 rfl w.heap.size 2 i0 (.int .i64 0) 1 8 Try.underlying29 hi0 hz0 hz1 hz2 rfl (by decide) _ _ _ rfl (owns_none0 w w.heap.size 1 2 (Nat.le_refl _)) ⟨b, o, none⟩ l.length c (l.map (Value.int .i64)) rfl (by simp) ?c1 ?c2 ?c3 ?c4 ?c5 ?_)
  case c1 =>
    intro j u hj
    obtain ⟨h1, rfl⟩ := map_at hj
    rw [addr_at]
    exact (Below.cell (B := w.heap.size) (p := ⟨b, o + j, none⟩) (by go_grown) hb).trans (H.out j h1)
  case c2 => intro u hu; obtain ⟨j, hj⟩ := List.getElem?_of_mem hu; obtain ⟨_, rfl⟩ := map_at hj; rfl
  case c3 => unfold maxLen; omega
  case c4 => omega
  case c5 => simp
  intro v' w1 hown1 hgrow1 _
  try simp only [Nat.zero_add, List.nil_append] at hown1
  have g1 : Below w.heap.size w w1 := Below.grown (by go_grown) hgrow1 (by simp) (fun g hg => by simp [Value.ownBlock] at hg; omega)
  have HO := Lib.hid hown1
  clear hown1 hgrow1
  go_wp2
  go_ret
  exact ⟨v', rfl, HO.out, g1⟩
set_option maxHeartbeats 4000000 in
set_option maxRecDepth 100000 in
theorem longest_s (A : Option Addr) (n c : Nat) (X : Nat → Int) (w : World) (hv : listB n X = true) (h : Sl w A n 3 X) :
    Calls Try.prog 27 #[.slice A n c] w (NumsCode w 2 (soI (fun x => X (x * 3)) n) 0) := by
  obtain ⟨n20, hall⟩ := listB_of hv
  have hn : n ≤ maxLen := by unfold maxLen; omega
  have HV := Lib.hid hv
  have HR := Lib.hid h
  clear h hv hall
  obtain ⟨i0, hi0, hz0, hz1, hz2⟩ := info_parts info_num
  generalize hL : (fun x : Nat => X (x * 3)) = L
  have HL := Lib.hid hL
  clear hL
  go_enter Try.func27, Try.ntmps27
  go_wp2_with (go_at_call 71; refine (ok_s A n c X _ hn HR.out).mono ?_; rintro e w' ⟨rfl, q1, rfl⟩; rw [HV.out])
  go_loopw [5, 4] (fun s v wr => ∃ (i g c3 : Nat), i ≤ n ∧ s = .int .i64 i ∧ v = .slice (some ⟨g, 0, none⟩) i c3 ∧ i ≤ c3 ∧ c3 ≤ maxLen ∧ w.heap.size ≤ g ∧ g < wr.heap.size ∧ Hid (Row wr w.heap.size wr.heap.size (some ⟨g, 0, none⟩) i 1 2 (fun j => (soI L i).getD j 0)) ∧ Below w.heap.size w wr) (fun s _ _ => n - (intOf s).toNat)
  case atStart => exact ⟨0, w.heap.size, 0, by omega, rfl, rfl, Nat.le_refl _, by unfold maxLen; omega, Nat.le_refl _, by simp, Row.none_, by go_grown; exact drewN_below (Below.refl _ _) _⟩
  case round =>
    obtain ⟨i, g, c3, hi, rfl, rfl, k3, m3, hg0, hg1, HRow, hbl⟩ := hrel
    have hzz := hbl.size
    have HBL := Lib.hid hbl
    clear hbl
    by_cases hlt : i < n
    · have hlt' : (i : Int) < (n : Int) := by omega
      have hA := HR.out.below HBL.out (Nat.le_refl _)
      obtain ⟨b, o, rfl, hb, hX⟩ := hA (by omega)
      have HX := Lib.hid hX
      clear hX hA
      have HC : Hid (∀ j, j < i → wr.cell? ⟨g, j, none⟩ = some (.int .i64 ((so L i).getD j 0 : Nat))) := fun j hj => by
        obtain ⟨g', e, _, _, ho⟩ := HRow.out (by omega)
        injection e with e
        injection e with e
        subst e
        rw [ho.cell (j := j) (by omega), soI_at]
      have hLx : ∀ x, L x = X (x * 3) := fun x => by rw [← HL.out]
      have xi := HX.out (i * 3) (by omega)
      rw [← hLx i] at xi
      have HXL : Hid (∀ x, x < n → wr.cell? ⟨b, o + x * 3, none⟩ = some (.int .i64 (L x))) := fun x hx => by rw [HX.out (x * 3) (by omega), hLx]
      clear hLx
      obtain ⟨K, hK⟩ : ∃ K, spot L (so L i) i i = K := ⟨_, rfl⟩
      have hKi : K ≤ i := by rw [← hK]; exact spot_le _ _ _
      have HK := Lib.hid hK
      clear hK
      rename World => wo
      go_wp2_with fail
      go_loopw [6] (fun s wr => ∃ k : Nat, k ≤ i ∧ s = .int .i64 k ∧ Hid (spot L (so L i) i k = K) ∧ Drew wo wr) (fun s _ => (intOf s).toNat)
      case atStart => exact ⟨i, Nat.le_refl _, rfl, HK.out, Drew.refl _⟩
      case round =>
        obtain ⟨k, hk, rfl, HS, hd⟩ := hrel
        have HD := Lib.hid hd
        rcases Nat.eq_zero_or_pos k with h0 | h0
        · subst h0
          have hK0 : K = 0 := HS.out.symm
          subst hK0
          have hg0' : decide ((0 : Int) < ((0 : Nat) : Int)) = false := by decide
          go_wp2
          go_quiet (fail)
          obtain ⟨m5, rfl⟩ := HD.out
          have hl1 : ((soI L i).take 0).length = 0 := by rw [List.length_take, soI_len]; omega
          have hl2 : ((soI L i).drop 0).length = i - 0 := by rw [List.length_drop, soI_len]
          go_wp2_with fail
          refine (own_l g 0 c3 0 ((soI L i).take 0) _ hl1 ?ca ?cb ?cc).mono ?_
          case ca => omega
          case cb => exact hg1
          case cc => intro j hj; rw [Nat.zero_add, take_at hj, soI_at]; exact HC.out j (by omega)
          rintro e w3 ⟨v1, rfl, hown1, hb1⟩
          have z3 := hb1.size
          simp at z3
          replace hown1 : w3.ownsRow wo.heap.size 2 1 v1 0 (((soI L i).take 0).map (Value.int .i64)) := hown1
          have hb2 : Below wo.heap.size _ w3 := hb1
          have g3 : Below wo.heap.size wo w3 := Below.trans (drewN_below (Below.refl _ _) _) hb2
          clear hb1 hb2
          go_wp2_with (at_builtin; refine wpList_append_own _ rfl _ _ 29 rfl wo.heap.size 2 i0 (.int .i64 0) 1 8 Try.underlying29 hi0 hz0 hz1 hz2 rfl (by decide) _ _ _ rfl (hown1.alloc _) ⟨w3.heap.size, 0, none⟩ 1 1 [.int .i64 i] rfl rfl ?c1 ?c2 ?c3 ?c4 ?c5 ?_)
          case c1 => intro j u hj; rcases j with _ | j <;> simp at hj; subst hj; go_simp
          case c2 => intro u hu; simp at hu; subst hu; rfl
          case c3 => unfold maxLen; omega
          case c4 => omega
          case c5 => simp; omega
          intro v2 w4 hown2 hgrow2 _
          have g4 : Below wo.heap.size wo w4 := Below.grown (g3.alloc z3 _) hgrow2 (by simp; omega) (owns_block hown1)
          have z4 := g4.size
          clear hgrow2 hown1
          go_wp2_with (at_builtin; refine wpList_append_own _ rfl _ _ 29 rfl wo.heap.size 2 i0 (.int .i64 0) 1 8 Try.underlying29 hi0 hz0 hz1 hz2 rfl (by decide) _ _ _ rfl hown2 ⟨g, 0, none⟩ i c3 (((soI L i).drop 0).map (Value.int .i64)) rfl (by simp [soI_len]) ?e1 ?e2 ?e3 ?e4 ?e5 ?_)
          case e1 =>
            intro j u hj
            obtain ⟨h1, rfl⟩ := map_at hj
            rw [addr_at, drop_at, soI_at]
            exact (g4.cell (p := ⟨g, 0 + j, none⟩) hg1).trans (HC.out (0 + j) (by omega))
          case e2 => intro u hu; obtain ⟨j, hj⟩ := List.getElem?_of_mem hu; obtain ⟨_, rfl⟩ := map_at hj; rfl
          case e3 => unfold maxLen; omega
          case e4 => omega
          case e5 => omega
          intro v3 w5 hown3 hgrow3 _
          have g5 : Below wo.heap.size wo w5 := Below.grown g4 hgrow3 (by omega) (owns_block hown2)
          have z5 := g5.size
          have hown4 : w5.ownsRow wo.heap.size 2 1 v3 (i + 1) ((soI L (i + 1)).map (Value.int .i64)) := by
            rw [← soI_step HK.out, show i + 1 = 0 + 1 + (i - 0) by omega]
            simpa using hown3
          obtain ⟨A', c', rfl, k5, mm5, hrow⟩ := row_of_owns hown4
          obtain ⟨g', rfl, p1, p2, ho⟩ := hrow (by omega)
          have HRW : Hid (Row w5 w.heap.size w5.heap.size (some ⟨g', 0, none⟩) (i + 1) 1 2 (fun j => (soI L (i + 1)).getD j 0)) := fun _ => ⟨g', rfl, by omega, by omega, ho⟩
          have HB5 := Lib.hid (HBL.out.trans (g5.mono hzz))
          clear hgrow3 hown3 hown4 hrow ho g5 g4 g3 hown2
          go_wp2
          go_roundw
          case rel => exact ⟨i + 1, g', c', by omega, by go_num, rfl, k5, mm5, by omega, by omega, HRW.out, HB5.out⟩
          case measure => simp [intOf]; omega
        · obtain ⟨k', hkk⟩ : ∃ k', k = k' + 1 := ⟨k - 1, by omega⟩
          have hk1 : ((k : Int) - 1) = (k' : Int) := by omega
          have hk2 : k' < i := by omega
          have cg := HD.out.cell (HC.out k' hk2)
          have hgk : decide ((0 : Int) < (k : Int)) = true := decide_eq_true (by omega)
          have hsa := so_at (L := L) hk2
          have hsp := HS.out
          rw [hkk] at hsp
          simp only [spot] at hsp
          have hk0' : (k : Int) ≠ 0 := by omega
          have HKK := Lib.hid hkk
          generalize hy : (so L i).getD k' 0 = y at *
          clear hy
          have xy := HD.out.cell (HXL.out y (by omega))
          have xi' := HD.out.cell xi
          by_cases hc : L y < L i
          · rw [if_pos hc] at hsp
            have HN := Lib.hid hsp
            have hcd : decide (L y < L i) = true := decide_eq_true hc
            have hkd : k' ≤ i ∧ k' < k := by omega
            clear hsp hkk
            go_wp2
            go_quiet (fail)
            go_wp2
            go_roundw
            case rel => exact ⟨k', hkd.1, rfl, HN.out, HD.out.drewN _⟩
            case measure => simp [intOf]; omega
          · rw [if_neg hc, ← hkk] at hsp
            have hcd : decide (L y < L i) = false := decide_eq_false hc
            subst hsp
            clear HS hkk
            go_wp2
            go_quiet (fail)
            obtain ⟨m5, rfl⟩ := HD.out
            have hl1 : ((soI L i).take k).length = k := by rw [List.length_take, soI_len]; omega
            have hl2 : ((soI L i).drop k).length = i - k := by rw [List.length_drop, soI_len]
            go_wp2_with fail
            refine (own_l g 0 c3 k ((soI L i).take k) _ hl1 ?da ?db ?dd).mono ?_
            case da => omega
            case db => exact hg1
            case dd => intro j hj; rw [Nat.zero_add, take_at hj, soI_at]; exact HC.out j (by omega)
            rintro e w3 ⟨v1, rfl, hown1, hb1⟩
            have z3 := hb1.size
            simp at z3
            replace hown1 : w3.ownsRow wo.heap.size 2 1 v1 k (((soI L i).take k).map (Value.int .i64)) := hown1
            have hb2 : Below wo.heap.size _ w3 := hb1
            have g3 : Below wo.heap.size wo w3 := Below.trans (drewN_below (Below.refl _ _) _) hb2
            clear hb1 hb2
            go_wp2_with (at_builtin; refine wpList_append_own _ rfl _ _ 29 rfl wo.heap.size 2 i0 (.int .i64 0) 1 8 Try.underlying29 hi0 hz0 hz1 hz2 rfl (by decide) _ _ _ rfl (hown1.alloc _) ⟨w3.heap.size, 0, none⟩ 1 1 [.int .i64 i] rfl rfl ?d1 ?d2 ?d3 ?d4 ?d5 ?_)
            case d1 => intro j u hj; rcases j with _ | j <;> simp at hj; subst hj; go_simp
            case d2 => intro u hu; simp at hu; subst hu; rfl
            case d3 => unfold maxLen; omega
            case d4 => omega
            case d5 => simp; omega
            intro v2 w4 hown2 hgrow2 _
            have g4 : Below wo.heap.size wo w4 := Below.grown (g3.alloc z3 _) hgrow2 (by simp; omega) (owns_block hown1)
            have z4 := g4.size
            clear hgrow2 hown1
            by_cases hck : c3 = k
            · have hik : i - k = 0 := by omega
              go_wp2_with (at_builtin; refine wpList_append_own _ rfl _ _ 29 rfl wo.heap.size 2 i0 (.int .i64 0) 1 8 Try.underlying29 hi0 hz0 hz1 hz2 rfl (by decide) _ _ _ rfl hown2 ⟨g, 0, none⟩ 0 _ (((soI L i).drop k).map (Value.int .i64)) rfl (by simp [soI_len, hik]) ?h1 ?h2 ?h3 ?h4 ?h5 ?_)
              case h1 =>
                intro j u hj
                obtain ⟨h1, rfl⟩ := map_at hj
                rw [hl2] at h1
                omega
              case h2 => intro u hu; obtain ⟨j, hj⟩ := List.getElem?_of_mem hu; obtain ⟨_, rfl⟩ := map_at hj; rfl
              case h3 => unfold maxLen; omega
              case h4 => omega
              case h5 => omega
              intro v3 w5 hown3 hgrow3 _
              have g5 : Below wo.heap.size wo w5 := Below.grown g4 hgrow3 (by omega) (owns_block hown2)
              have z5 := g5.size
              have hown4 : w5.ownsRow wo.heap.size 2 1 v3 (i + 1) ((soI L (i + 1)).map (Value.int .i64)) := by
                rw [← soI_step HK.out, show i + 1 = k + 1 by omega]
                simpa using hown3
              obtain ⟨A', c', rfl, k5, mm5, hrow⟩ := row_of_owns hown4
              obtain ⟨g', rfl, p1, p2, ho⟩ := hrow (by omega)
              have HRW : Hid (Row w5 w.heap.size w5.heap.size (some ⟨g', 0, none⟩) (i + 1) 1 2 (fun j => (soI L (i + 1)).getD j 0)) := fun _ => ⟨g', rfl, by omega, by omega, ho⟩
              have HB5 := Lib.hid (HBL.out.trans (g5.mono hzz))
              clear hgrow3 hown3 hown4 hrow ho g5 g4 g3 hown2
              go_wp2
              go_roundw
              case rel => exact ⟨i + 1, g', c', by omega, by go_num, rfl, k5, mm5, by omega, by omega, HRW.out, HB5.out⟩
              case measure => simp [intOf]; omega
            · have hck2 : k < c3 := by omega
              go_wp2_with (at_builtin; refine wpList_append_own _ rfl _ _ 29 rfl wo.heap.size 2 i0 (.int .i64 0) 1 8 Try.underlying29 hi0 hz0 hz1 hz2 rfl (by decide) _ _ _ rfl hown2 ⟨g, k, none⟩ (i - k) (c3 - k) (((soI L i).drop k).map (Value.int .i64)) rfl (by simp [soI_len]) ?f1 ?f2 ?f3 ?f4 ?f5 ?_)
              case f1 =>
                intro j u hj
                obtain ⟨h1, rfl⟩ := map_at hj
                rw [addr_at, drop_at, soI_at]
                exact (g4.cell (p := ⟨g, k + j, none⟩) hg1).trans (HC.out (k + j) (by omega))
              case f2 => intro u hu; obtain ⟨j, hj⟩ := List.getElem?_of_mem hu; obtain ⟨_, rfl⟩ := map_at hj; rfl
              case f3 => unfold maxLen; omega
              case f4 => omega
              case f5 => omega
              intro v3 w5 hown3 hgrow3 _
              have g5 : Below wo.heap.size wo w5 := Below.grown g4 hgrow3 (by omega) (owns_block hown2)
              have z5 := g5.size
              have hown4 : w5.ownsRow wo.heap.size 2 1 v3 (i + 1) ((soI L (i + 1)).map (Value.int .i64)) := by
                rw [← soI_step HK.out, show i + 1 = k + 1 + (i - k) by omega]
                simpa using hown3
              obtain ⟨A', c', rfl, k5, mm5, hrow⟩ := row_of_owns hown4
              obtain ⟨g', rfl, p1, p2, ho⟩ := hrow (by omega)
              have HRW : Hid (Row w5 w.heap.size w5.heap.size (some ⟨g', 0, none⟩) (i + 1) 1 2 (fun j => (soI L (i + 1)).getD j 0)) := fun _ => ⟨g', rfl, by omega, by omega, ho⟩
              have HB5 := Lib.hid (HBL.out.trans (g5.mono hzz))
              clear hgrow3 hown3 hown4 hrow ho g5 g4 g3 hown2
              go_wp2
              go_roundw
              case rel => exact ⟨i + 1, g', c', by omega, by go_num, rfl, k5, mm5, by omega, by omega, HRW.out, HB5.out⟩
              case measure => simp [intOf]; omega
    · obtain rfl : i = n := by omega
      go_wp2
      go_ret2
      have hl := soI_len (L := L) i
      exact ⟨some ⟨g, 0, none⟩, c3, by rw [hl]; rfl, by omega, m3, by rw [hl]; exact HRow.out, HBL.out⟩

end Go.Proofs.Ytcpaenmhnoagdab.rod
