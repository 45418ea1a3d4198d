/-
  Contracts of SortBunches, of the model and of the program.
-/
import Derived.Test.YtlepgkmpbhlajaaDoorBunch
import Derived.Test.YtlepgkmpbhlajaaDoorSrtU
import Derived.OwnWalk
import Derived.Lib.SliceRun
namespace Go.Proofs.YtlepgkmpbhlajaaDoor.rod
open Go.ChangeShapes Go.WideShapes Go.ChangeAt Go.RowKit Go.Proofs.YtlepgkmpbhlajaaDoor.mem Go.Proofs.YtlepgkmpbhlajaaDoor.stab
set_option linter.unusedVariables false

/-- cells as a list -/
def cellsU (V : Nat → Value) (n : Nat) : List Value := (List.range n).map V
theorem cellsU_len (V : Nat → Value) (n : Nat) : (cellsU V n).length = n := by simp [cellsU]
theorem cellsU_get (V : Nat → Value) (n j : Nat) : (cellsU V n)[j]? = if j < n then some (V j) else none := by
  unfold cellsU
  rw [List.getElem?_map]
  by_cases hj : j < n
  · rw [List.getElem?_range hj, if_pos hj]; rfl
  · rw [List.getElem?_eq_none (by simp; omega), if_neg hj]; rfl
theorem cellsU_at {V : Nat → Value} {n j : Nat} {u : Value} (h : (cellsU V n)[j]? = some u) : j < n ∧ u = V j := by
  rw [cellsU_get] at h
  by_cases hj : j < n
  · rw [if_pos hj] at h; exact ⟨hj, by simpa using h.symm⟩
  · rw [if_neg hj] at h; cases h
theorem addrU_at (b o j : Nat) : (⟨b, o, none⟩ : Addr).add j = ⟨b, o + j, none⟩ := by
  unfold Addr.add
  split
  · rename_i e; rw [e]; rfl
  · rfl
theorem owns_noneU (w : World) (B size : Nat) (E : TypeId) (hB : B ≤ w.heap.size) : (w.alloc (Obj.cells #[] E)).ownsRow B E size (.slice (some ⟨w.heap.size, 0, none⟩) 0 0) 0 [] :=
  ⟨by simp, .inr ⟨w.heap.size, 0, #[], rfl, hB, Go.Deep.blk_alloc_new _ _, Nat.le_refl _, by unfold maxLen; omega, by simp, by simp⟩⟩
theorem owns_blockU {w : World} {B n size : Nat} {E : TypeId} {v : Value} {xs : List Value} (h : w.ownsRow B E size v n xs) : ∀ g, v.ownBlock = some g → B ≤ g := by
  intro g hg
  rcases h.2 with ⟨rfl, _⟩ | ⟨g', cap, cur, rfl, hB, _⟩
  · simp [Value.ownBlock] at hg
  · simp [Value.ownBlock] at hg
    omega
theorem owns_eqU {w : World} {B n m size : Nat} {E : TypeId} {v : Value} {xs ys : List Value} (h : w.ownsRow B E size v n xs) (hn : n = m) (hx : xs = ys) : w.ownsRow B E size v m ys := by subst hn hx; exact h
def vU (X : Nat → Int) (Q : Nat → Nat) (j : Nat) : Value := .int .i64 (rowU X Q j)
/-- a row of the call's own that holds something, as a block -/
theorem row_ofU {w : World} {B n : Nat} {v : Value} {E : TypeId} {X : Nat → Int} (h : w.ownsRow B E 3 v n (cellsU (fun j => Value.int .i64 (X j)) (n * 3))) (hn : 0 < n) :
    ∃ g c, v = .slice (some ⟨g, 0, none⟩) n c ∧ n ≤ c ∧ c ≤ maxLen ∧ B ≤ g ∧ g < w.heap.size ∧ Own w g E (n * 3) X := by
  obtain ⟨hl, h⟩ := h
  rcases h with ⟨rfl, rfl⟩ | ⟨g, cap, cur, rfl, hB, hh, hc, hm, hs, ht⟩
  · omega
  · obtain ⟨hlt, _⟩ := Array.getElem?_eq_some_iff.1 hh
    refine ⟨g, cap, rfl, hc, hm, hB, hlt, cur, hh, by omega, fun i hi => ?_⟩
    have e1 : cur[i]? = cur.toList[i]? := by simp
    have e2 : cur.toList[i]? = (cur.toList.take (n * 3))[i]? := by rw [List.getElem?_take_of_lt hi]
    rw [e1, e2, ht, cellsU_get, if_pos hi]
theorem cells_put (X : Nat → Int) (Q : Nat → Nat) {k i : Nat} (hk : k ≤ i) :
    (cellsU (vU X Q) (k * 3) ++ [Value.int .i64 (X (i * 3)), .int .i64 (X (i * 3 + 1)), .int .i64 (X (i * 3 + 2))]) ++ cellsU (fun j => vU X Q (k * 3 + j)) ((i - k) * 3) = cellsU (vU X (put Q k i)) ((i + 1) * 3) := by
  apply List.ext_getElem?
  intro j
  have l1 : (cellsU (vU X Q) (k * 3) ++ [Value.int .i64 (X (i * 3)), .int .i64 (X (i * 3 + 1)), .int .i64 (X (i * 3 + 2))]).length = k * 3 + 3 := by rw [List.length_append, cellsU_len]; rfl
  rw [List.getElem?_append, l1, List.getElem?_append, cellsU_len, cellsU_get, cellsU_get, cellsU_get]
  have hdv : ∀ q s, s < 3 → (q * 3 + s) / 3 = q ∧ (q * 3 + s) % 3 = s := fun q s hs => ⟨by omega, by omega⟩
  by_cases c1 : j < k * 3
  · rw [if_pos (by omega), if_pos c1, if_pos (by omega), if_pos (by omega)]
    unfold vU rowU put
    rw [if_pos (show j / 3 < k by omega)]
  · by_cases c2 : j < k * 3 + 3
    · rw [if_pos c2, if_neg c1, if_pos (by omega)]
      unfold vU rowU put
      rw [if_neg (show ¬ j / 3 < k by omega), if_pos (show j / 3 = k by omega)]
      rcases (show j = k * 3 ∨ j = k * 3 + 1 ∨ j = k * 3 + 2 by omega) with rfl | rfl | rfl
      · rw [show k * 3 - k * 3 = 0 by omega, show k * 3 % 3 = 0 by omega]; rfl
      · rw [show k * 3 + 1 - k * 3 = 1 by omega, (hdv k 1 (by omega)).2]; rfl
      · rw [show k * 3 + 2 - k * 3 = 2 by omega, (hdv k 2 (by omega)).2]; rfl
    · rw [if_neg c2]
      by_cases c3 : j < (i + 1) * 3
      · rw [if_pos (by omega), if_pos c3]
        unfold vU rowU put
        rw [if_neg (show ¬ j / 3 < k by omega), if_neg (show ¬ j / 3 = k by omega)]
        rw [show (k * 3 + (j - (k * 3 + 3))) / 3 = j / 3 - 1 by omega, show (k * 3 + (j - (k * 3 + 3))) % 3 = j % 3 by omega]
      · rw [if_neg (by omega), if_neg c3]

theorem info_partsU {t : TypeId} {z : Value} {k bytes : Nat} (h : (Tryd.prog.info? t).map (fun i => (i.zero, i.size, i.bytes)) = some (some z, k, bytes)) : ∃ i, Tryd.prog.info? t = some i ∧ i.zero = some z ∧ i.size = k ∧ i.bytes = bytes := by
  obtain ⟨i, hi, hzz⟩ := Option.map_eq_some_iff.1 h
  simp only [Prod.mk.injEq] at hzz
  exact ⟨i, hi, hzz.1, hzz.2.1, hzz.2.2⟩

set_option maxHeartbeats 1000000 in
theorem before_s (b1 o1 b2 o2 : Nat) (p0 p2 q0 q2 : Int) (w : World) (h0 : w.cell? ⟨b1, o1, none⟩ = some (.int .i64 p0)) (h2 : w.cell? ⟨b1, o1 + 2, none⟩ = some (.int .i64 p2)) (k0 : w.cell? ⟨b2, o2, none⟩ = some (.int .i64 q0)) (k2 : w.cell? ⟨b2, o2 + 2, none⟩ = some (.int .i64 q2)) :
    Calls Tryd.prog 48 #[.pointer (some ⟨b1, o1, none⟩), .pointer (some ⟨b2, o2, none⟩)] w fun e w' => e = .returned (.bool (decide (p0 < q0 ∨ p0 = q0 ∧ p2 < q2))) ∧ ∃ m, w' = w.drewN m := by
  by_cases e : p0 = q0
  · have HE := Lib.hid (show decide (p0 < q0 ∨ p0 = q0 ∧ p2 < q2) = decide (p2 < q2) by congr 1; exact propext ⟨fun h => by omega, fun h => by omega⟩)
    rw [e] at h0
    have e1 : (q0 == q0) = true := by simp
    have e2 : (q0 != q0) = false := by simp
    clear e
    go_enter Tryd.func48, Tryd.ntmps48
    go_wp2_with fail
    go_quiet (fail)
    go_wp2_with fail
    go_quiet (fail)
    go_wp2
    go_ret
    exact ⟨by rw [HE.out]; rfl, by first | exact ⟨_, rfl⟩ | exact ⟨_, (World.drewN_drewN _ _ _)⟩ | exact ⟨_, by simp; rfl⟩⟩
  · have HE := Lib.hid (show decide (p0 < q0 ∨ p0 = q0 ∧ p2 < q2) = decide (p0 < q0) by congr 1; exact propext ⟨fun h => by omega, fun h => by omega⟩)
    have e1 : (p0 == q0) = false := by simpa using e
    have e2 : (p0 != q0) = true := by simpa using e
    clear e
    go_enter Tryd.func48, Tryd.ntmps48
    go_wp2_with fail
    go_quiet (fail)
    go_wp2_with fail
    go_quiet (fail)
    go_wp2
    go_ret
    exact ⟨by rw [HE.out]; rfl, by first | exact ⟨_, rfl⟩ | exact ⟨_, by simp; rfl⟩⟩

set_option maxHeartbeats 8000000 in
set_option maxRecDepth 100000 in
theorem sortU_s (A : Option Addr) (n c : Nat) (X : Nat → Int) (QQ : Nat → Nat) (w : World) (hv : listU n X = true) (hQQ : Ord (ltU X) n QQ) (h : Sl w A n 3 X) :
    Calls Tryd.prog 11 #[.slice A n c] w fun e w' => ∃ A' c', e = .returned (.tuple #[.slice A' n c', .int .i64 0]) ∧ n ≤ c' ∧ c' ≤ maxLen ∧ Row w' w.heap.size w'.heap.size A' n 3 40 (rowU X QQ) ∧ Below w.heap.size w w' := by
  obtain ⟨n30, hall⟩ := listU_of hv
  have hn : n ≤ maxLen := by unfold maxLen; omega
  have HV := Lib.hid hv
  have HR := Lib.hid h
  have HQQ := Lib.hid hQQ
  clear h hv hall hQQ
  obtain ⟨i0, hi0, hz0, hz1, hz2⟩ := info_partsU info_bunch
  go_enter Tryd.func11, Tryd.ntmps11
  go_wp2_with (go_at_call 47; refine (okU_s A n c X _ hn HR.out).mono ?_; rintro e w' ⟨rfl, q1, rfl⟩; rw [HV.out])
  go_loopw [5, 4] (fun s v wr => ∃ (i g c3 : Nat) (Q : Nat → Nat), i ≤ n ∧ s = .int .i64 i ∧ v = .slice (some ⟨g, 0, none⟩) i c3 ∧ i ≤ c3 ∧ c3 ≤ maxLen ∧ w.heap.size ≤ g ∧ g < wr.heap.size ∧ Hid (Own wr g 40 (i * 3) (rowU X Q)) ∧ Hid (Ord (ltU X) i Q) ∧ Below w.heap.size w wr) (fun s _ _ => n - (intOf s).toNat)
  case atStart => exact ⟨0, w.heap.size, 0, fun _ => 0, by omega, rfl, rfl, Nat.le_refl _, by unfold maxLen; omega, Nat.le_refl _, by simp, ⟨_, by first | exact Go.Deep.blk_alloc_new _ _ | (simp; exact Go.Deep.blk_alloc_new _ _), by simp, fun i hi => absurd hi (by omega)⟩, Ord.none _ _, by go_grown; exact drewN_below (Below.refl _ _) _⟩
  case round =>
    obtain ⟨i, g, c3, Q, hi, rfl, rfl, k3, m3, hg0, hg1, HRow, HO, hbl⟩ := hrel
    have hzz := hbl.size
    have HBL := Lib.hid hbl
    clear hbl
    by_cases hlt : i < n
    · have hlt' : (i : Int) < (n : Int) := by omega
      obtain ⟨b, o, rfl, hb, hX⟩ := (HR.out.below HBL.out (Nat.le_refl _)) (by omega)
      have HX := Lib.hid hX
      clear hX
      have HC : Hid (∀ j, j < i * 3 → wr.cell? ⟨g, j, none⟩ = some (vU X Q j)) := fun j hj => HRow.out.cell hj
      have xi0 := HX.out (i * 3) (by omega)
      have xi1 := HX.out (i * 3 + 1) (by omega)
      have xi2 := HX.out (i * 3 + 2) (by omega)
      simp only [← Nat.add_assoc] at xi1 xi2
      rename World => wo
      go_wp2_with fail
      go_loopw [6] (fun s wr => ∃ k : Nat, k ≤ i ∧ s = .int .i64 k ∧ Hid (∀ x, k ≤ x → x < i → ltU X i (Q x) = true) ∧ Drew wo wr) (fun s _ => (intOf s).toNat)
      case atStart => exact ⟨i, Nat.le_refl _, rfl, fun x h1 h2 => absurd h2 (by omega), Drew.refl _⟩
      case round =>
        obtain ⟨k, hk, rfl, HS, hd⟩ := hrel
        have HD := Lib.hid hd
        rcases Nat.eq_zero_or_pos k with h0 | h0
        · have HP := Lib.hid (HO.out.put (ltU_swo X) hk (.inl h0) HS.out)
          subst h0
          have hg0' : decide ((0 : Int) < ((0 : Nat) : Int)) = false := by decide
          go_wp2
          go_quiet (fail)
          obtain ⟨m5, rfl⟩ := HD.out
          go_wp2_with (at_builtin; refine wpList_append_own _ rfl _ _ 27 rfl wo.heap.size 40 i0 _ 3 24 Tryd.underlying27 hi0 hz0 hz1 hz2 rfl (by decide) _ _ _ rfl (owns_noneU _ wo.heap.size 3 40 (by simp)) ⟨g, 0, none⟩ 0 c3 (cellsU (vU X Q) (0 * 3)) rfl (cellsU_len _ _) ?a1x ?a2x ?a3x ?a4x ?a5x ?_)
          case a1x =>
            intro j u hj
            obtain ⟨h1, rfl⟩ := cellsU_at hj
            rw [addrU_at, Nat.zero_add]
            exact (Below.cell (B := wo.heap.size) (p := ⟨g, j, none⟩) (by go_grown; first | done | exact drewN_below (Below.refl _ _) _) hg1).trans (HC.out j (by omega))
          case a2x => intro u hu; obtain ⟨j, hj⟩ := List.getElem?_of_mem hu; obtain ⟨_, rfl⟩ := cellsU_at hj; rfl
          case a3x => unfold maxLen; omega
          case a4x => omega
          case a5x => simp
          intro v1 w3 hown1 hgrow1 _
          try simp only [Nat.zero_add, List.nil_append] at hown1
          have g3 : Below wo.heap.size wo w3 := Below.grown (by go_grown; first | done | exact drewN_below (Below.refl _ _) _) hgrow1 (by simp) (fun g hg => by simp [Value.ownBlock] at hg; omega)
          have z3 := g3.size
          have xi3 := (g3.cell (p := ⟨b, o + i * 3, none⟩) hb).trans xi0
          have yi3 := (g3.cell (p := ⟨b, o + i * 3 + 1, none⟩) hb).trans xi1
          have zi3 := (g3.cell (p := ⟨b, o + i * 3 + 2, none⟩) hb).trans xi2
          have HO1 := Lib.hid hown1
          have HG3 := Lib.hid g3
          clear hgrow1 hown1 g3
          go_wp2_with (at_builtin; refine wpList_append_own _ rfl _ _ 27 rfl wo.heap.size 40 i0 _ 3 24 Tryd.underlying27 hi0 hz0 hz1 hz2 rfl (by decide) _ _ _ rfl (HO1.out.alloc _) ⟨w3.heap.size, 0, none⟩ 1 1 ([.int .i64 (X (i * 3)), .int .i64 (X (i * 3 + 1)), .int .i64 (X (i * 3 + 2))]) rfl rfl ?b1x ?b2x ?b3x ?b4x ?b5x ?_)
          case b1x => intro j u hj; rcases j with _ | _ | _ | j <;> simp at hj <;> subst hj <;> go_simp
          case b2x => intro u hu; simp at hu; rcases hu with rfl | rfl | rfl <;> rfl
          case b3x => unfold maxLen; omega
          case b4x => omega
          case b5x => simp; omega
          intro v2 w4 hown2 hgrow2 _
          have g4 : Below wo.heap.size wo w4 := Below.grown (HG3.out.alloc z3 _) hgrow2 (by simp; omega) (owns_blockU HO1.out)
          have z4 := g4.size
          have HO2 := Lib.hid hown2
          have HG4 := Lib.hid g4
          clear hgrow2 hown2 g4 xi3 yi3 zi3
          go_wp2_with (at_builtin; refine wpList_append_own _ rfl _ _ 27 rfl wo.heap.size 40 i0 _ 3 24 Tryd.underlying27 hi0 hz0 hz1 hz2 rfl (by decide) _ _ _ rfl HO2.out ⟨g, 0, none⟩ i c3 (cellsU (fun j => vU X Q (0 * 3 + j)) ((i - 0) * 3)) rfl (cellsU_len _ _) ?d1x ?d2x ?d3x ?d4x ?d5x ?_)
          case d1x =>
            intro j u hj
            obtain ⟨h1, rfl⟩ := cellsU_at hj
            rw [addrU_at]
            exact (HG4.out.cell (p := ⟨g, 0 * 3 + j, none⟩) hg1).trans (HC.out (0 * 3 + j) (by omega))
          case d2x => intro u hu; obtain ⟨j, hj⟩ := List.getElem?_of_mem hu; obtain ⟨_, rfl⟩ := cellsU_at hj; rfl
          case d3x => unfold maxLen; omega
          case d4x => omega
          case d5x => omega
          intro v3 w5 hown3 hgrow3 _
          have g5 : Below wo.heap.size wo w5 := Below.grown HG4.out hgrow3 (by omega) (owns_blockU HO2.out)
          have z5 := g5.size
          have hown4 : w5.ownsRow wo.heap.size 40 3 v3 (i + 1) (cellsU (vU X (put Q 0 i)) ((i + 1) * 3)) := owns_eqU hown3 (by omega) (by
            have h := cells_put X Q (show 0 ≤ i by omega)
            first | exact h | simpa using h)
          obtain ⟨g', c', rfl, k5, mm5, p1, p2, ho⟩ := row_ofU hown4 (by omega)
          have HRW := Lib.hid ho
          have HB5 := Lib.hid (HBL.out.trans (g5.mono hzz))
          clear hgrow3 hown3 hown4 ho g5
          go_wp2
          go_roundw
          case rel => exact ⟨i + 1, g', c', put Q 0 i, by omega, by go_num, rfl, k5, mm5, by omega, by omega, HRW.out, HP.out, HB5.out⟩
          case measure => simp [intOf]; omega
        · obtain ⟨k', rfl⟩ : ∃ k', k = k' + 1 := ⟨k - 1, by omega⟩
          have hgk : decide ((0 : Int) < (k' : Int) + 1) = true := decide_eq_true (by omega)
          have hgk2 : (0 : Int) < (k' : Int) + 1 := by omega
          have w2 : IntKind.i64.wrap (k' : Int) = (k' : Int) := IntWalk.i64_in _ (by omega)
          have w1 : IntKind.i64.wrap ((k' : Int) + 1 - 1) = (k' : Int) := by rw [show (k' : Int) + 1 - 1 = k' by omega]; exact w2
          have bk1 : (0 : Int) ≤ (k' : Int) := by omega
          have bk2 : (k' : Int) < (i : Int) := by omega
          have bi0 : (0 : Int) ≤ (i : Int) := by omega
          have cg0 := HD.out.cell (HC.out (k' * 3) (by omega))
          have cg2 := HD.out.cell (HC.out (k' * 3 + 2) (by omega))
          unfold vU at cg0 cg2
          rw [rowU_0] at cg0
          rw [rowU_2] at cg2
          have di0 := HD.out.cell xi0
          have di2 := HD.out.cell xi2
          have hcall : ∀ W, Drew wo W → Calls Tryd.prog 48 #[.pointer (some ⟨b, o + i * 3, none⟩), .pointer (some ⟨g, k' * 3, none⟩)] W fun e w' => e = .returned (.bool (ltU X i (Q k'))) ∧ ∃ m, w' = W.drewN m := fun W hW =>
            before_s b (o + i * 3) g (k' * 3) _ _ _ _ W (hW.cell xi0) (hW.cell xi2) (hW.cell (by have h := HC.out (k' * 3) (by omega); unfold vU at h; rw [rowU_0] at h; exact h)) (hW.cell (by have h := HC.out (k' * 3 + 2) (by omega); unfold vU at h; rw [rowU_2] at h; exact h))
          have HCL := Lib.hid hcall
          clear hcall
          rw [show ((k' + 1 : Nat) : Int) = (k' : Int) + 1 from rfl]
          cases hl : ltU X i (Q k')
          · have HP := Lib.hid (HO.out.put (ltU_swo X) hk (.inr hl) HS.out)
            have HL := Lib.hid hl
            clear hl
            go_wp2
            go_quiet ((go_at_call 48; exact Calls.quiet_of ((HCL.out _ (HD.out.drewN _)).mono fun _ _ ⟨p, q⟩ => ⟨p.trans (by rw [HL.out]), q⟩)))
            obtain ⟨m5, rfl⟩ := HD.out
            go_wp2_with (at_builtin; refine wpList_append_own _ rfl _ _ 27 rfl wo.heap.size 40 i0 _ 3 24 Tryd.underlying27 hi0 hz0 hz1 hz2 rfl (by decide) _ _ _ rfl (owns_noneU _ wo.heap.size 3 40 (by simp)) ⟨g, 0, none⟩ (k' + 1) c3 (cellsU (vU X Q) ((k' + 1) * 3)) rfl (cellsU_len _ _) ?a1y ?a2y ?a3y ?a4y ?a5y ?_)
            case a1y =>
              intro j u hj
              obtain ⟨h1, rfl⟩ := cellsU_at hj
              rw [addrU_at, Nat.zero_add]
              exact (Below.cell (B := wo.heap.size) (p := ⟨g, j, none⟩) (by go_grown; first | done | exact drewN_below (Below.refl _ _) _) hg1).trans (HC.out j (by omega))
            case a2y => intro u hu; obtain ⟨j, hj⟩ := List.getElem?_of_mem hu; obtain ⟨_, rfl⟩ := cellsU_at hj; rfl
            case a3y => unfold maxLen; omega
            case a4y => omega
            case a5y => simp
            intro v1 w3 hown1 hgrow1 _
            try simp only [Nat.zero_add, List.nil_append] at hown1
            have g3 : Below wo.heap.size wo w3 := Below.grown (by go_grown; first | done | exact drewN_below (Below.refl _ _) _) hgrow1 (by simp) (fun g hg => by simp [Value.ownBlock] at hg; omega)
            have z3 := g3.size
            have xi3 := (g3.cell (p := ⟨b, o + i * 3, none⟩) hb).trans xi0
            have yi3 := (g3.cell (p := ⟨b, o + i * 3 + 1, none⟩) hb).trans xi1
            have zi3 := (g3.cell (p := ⟨b, o + i * 3 + 2, none⟩) hb).trans xi2
            have HO1 := Lib.hid hown1
            have HG3 := Lib.hid g3
            clear hgrow1 hown1 g3
            go_wp2_with (at_builtin; refine wpList_append_own _ rfl _ _ 27 rfl wo.heap.size 40 i0 _ 3 24 Tryd.underlying27 hi0 hz0 hz1 hz2 rfl (by decide) _ _ _ rfl (HO1.out.alloc _) ⟨w3.heap.size, 0, none⟩ 1 1 ([.int .i64 (X (i * 3)), .int .i64 (X (i * 3 + 1)), .int .i64 (X (i * 3 + 2))]) rfl rfl ?b1y ?b2y ?b3y ?b4y ?b5y ?_)
            case b1y => intro j u hj; rcases j with _ | _ | _ | j <;> simp at hj <;> subst hj <;> go_simp
            case b2y => intro u hu; simp at hu; rcases hu with rfl | rfl | rfl <;> rfl
            case b3y => unfold maxLen; omega
            case b4y => omega
            case b5y => simp; omega
            intro v2 w4 hown2 hgrow2 _
            have g4 : Below wo.heap.size wo w4 := Below.grown (HG3.out.alloc z3 _) hgrow2 (by simp; omega) (owns_blockU HO1.out)
            have z4 := g4.size
            have HO2 := Lib.hid hown2
            have HG4 := Lib.hid g4
            clear hgrow2 hown2 g4 xi3 yi3 zi3
            by_cases hck : c3 = (k' + 1)
            · have hik : i - (k' + 1) = 0 := by omega
              go_wp2_with (at_builtin; refine wpList_append_own _ rfl _ _ 27 rfl wo.heap.size 40 i0 _ 3 24 Tryd.underlying27 hi0 hz0 hz1 hz2 rfl (by decide) _ _ _ rfl HO2.out ⟨g, 0, none⟩ 0 _ ([]) rfl rfl ?c1y ?c2y ?c3y ?c4y ?c5y ?_)
              case c1y => intro j u hj; simp at hj
              case c2y => intro u hu; simp at hu
              case c3y => unfold maxLen; omega
              case c4y => omega
              case c5y => omega
              intro v3 w5 hown3 hgrow3 _
              have g5 : Below wo.heap.size wo w5 := Below.grown HG4.out hgrow3 (by omega) (owns_blockU HO2.out)
              have z5 := g5.size
              have hown4 : w5.ownsRow wo.heap.size 40 3 v3 (i + 1) (cellsU (vU X (put Q (k' + 1) i)) ((i + 1) * 3)) := owns_eqU hown3 (by omega) (by
                have h := cells_put X Q (show (k' + 1) ≤ i by omega)
                rw [show (i - (k' + 1)) * 3 = 0 by omega, show cellsU (fun j => vU X Q ((k' + 1) * 3 + j)) 0 = [] from rfl, List.append_nil] at h
                first | exact h | simpa using h)
              obtain ⟨g', c', rfl, k5, mm5, p1, p2, ho⟩ := row_ofU hown4 (by omega)
              have HRW := Lib.hid ho
              have HB5 := Lib.hid (HBL.out.trans (g5.mono hzz))
              clear hgrow3 hown3 hown4 ho g5
              go_wp2
              go_roundw
              case rel => exact ⟨i + 1, g', c', put Q (k' + 1) i, by omega, by go_num, rfl, k5, mm5, by omega, by omega, HRW.out, HP.out, HB5.out⟩
              case measure => simp [intOf]; omega
            · have hck2 : (k' + 1) < c3 := by omega
              go_wp2_with (at_builtin; refine wpList_append_own _ rfl _ _ 27 rfl wo.heap.size 40 i0 _ 3 24 Tryd.underlying27 hi0 hz0 hz1 hz2 rfl (by decide) _ _ _ rfl HO2.out ⟨g, (k' + 1) * 3, none⟩ (i - (k' + 1)) (c3 - (k' + 1)) (cellsU (fun j => vU X Q ((k' + 1) * 3 + j)) ((i - (k' + 1)) * 3)) rfl (cellsU_len _ _) ?d1y ?d2y ?d3y ?d4y ?d5y ?_)
              case d1y =>
                intro j u hj
                obtain ⟨h1, rfl⟩ := cellsU_at hj
                rw [addrU_at]
                exact (HG4.out.cell (p := ⟨g, (k' + 1) * 3 + j, none⟩) hg1).trans (HC.out ((k' + 1) * 3 + j) (by omega))
              case d2y => intro u hu; obtain ⟨j, hj⟩ := List.getElem?_of_mem hu; obtain ⟨_, rfl⟩ := cellsU_at hj; rfl
              case d3y => unfold maxLen; omega
              case d4y => omega
              case d5y => omega
              intro v3 w5 hown3 hgrow3 _
              have g5 : Below wo.heap.size wo w5 := Below.grown HG4.out hgrow3 (by omega) (owns_blockU HO2.out)
              have z5 := g5.size
              have hown4 : w5.ownsRow wo.heap.size 40 3 v3 (i + 1) (cellsU (vU X (put Q (k' + 1) i)) ((i + 1) * 3)) := owns_eqU hown3 (by omega) (by
                have h := cells_put X Q (show (k' + 1) ≤ i by omega)
                first | exact h | simpa using h)
              obtain ⟨g', c', rfl, k5, mm5, p1, p2, ho⟩ := row_ofU hown4 (by omega)
              have HRW := Lib.hid ho
              have HB5 := Lib.hid (HBL.out.trans (g5.mono hzz))
              clear hgrow3 hown3 hown4 ho g5
              go_wp2
              go_roundw
              case rel => exact ⟨i + 1, g', c', put Q (k' + 1) i, by omega, by go_num, rfl, k5, mm5, by omega, by omega, HRW.out, HP.out, HB5.out⟩
              case measure => simp [intOf]; omega
          · have HL := Lib.hid hl
            clear hl
            go_wp2
            go_quiet ((go_at_call 48; exact Calls.quiet_of ((HCL.out _ (HD.out.drewN _)).mono fun _ _ ⟨p, q⟩ => ⟨p.trans (by rw [HL.out]), q⟩)))
            go_wp2
            go_roundw
            case rel => exact ⟨k', by omega, rfl, fun x h1 h2 => by
              by_cases e : x = k'
              · rw [e]; exact HL.out
              · exact HS.out x (by omega) h2, HD.out.drewN _⟩
            case measure => first | (simp [intOf]; done) | (simp [intOf]; omega)
    · obtain rfl : i = n := by omega
      have HU := Lib.hid (HRow.out.congr (rowU_congr X (HO.out.uniq (ltU_swo X) HQQ.out)))
      go_wp2
      go_ret2
      exact ⟨some ⟨g, 0, none⟩, c3, rfl, k3, m3, fun _ => ⟨g, rfl, hg0, hg1, HU.out⟩, HBL.out⟩

theorem sortU_s_no (A : Option Addr) (n c : Nat) (X Z : Nat → Int) (w : World) (hn : n ≤ maxLen) (hv : listU n X = false) (h : Sl w A n 3 X) :
    Calls Tryd.prog 11 #[.slice A n c] w fun e w' => ∃ A' c', e = .returned (.tuple #[.slice A' 0 c', .int .i64 1]) ∧ 0 ≤ c' ∧ c' ≤ maxLen ∧ Row w' w.heap.size w'.heap.size A' 0 3 40 Z ∧ Below w.heap.size w w' := by
  have HR := Lib.hid h
  clear h
  go_enter Tryd.func11, Tryd.ntmps11
  go_wp2_with (go_at_call 47; refine (okU_s A n c X _ hn HR.out).mono ?_; rintro e w' ⟨rfl, q1, rfl⟩; rw [hv])
  go_ret2
  exact ⟨none, 0, rfl, Nat.le_refl _, by unfold maxLen; omega, Row.none_, drewN_below (Below.refl _ _) _⟩
theorem sortU_i_no (A : Option Addr) (n c : Nat) (X Z : Nat → Int) (w : World) (hn : n ≤ maxLen) (hv : listU n X = false) (h : Sl w A n 3 X) :
    Calls Tryd.prog 10 #[.slice A n c] w fun e w' => ∃ A' c', e = .returned (.tuple #[.slice A' 0 c', .int .i64 1]) ∧ 0 ≤ c' ∧ c' ≤ maxLen ∧ Row w' w.heap.size w'.heap.size A' 0 3 40 Z ∧ Below w.heap.size w w' := by
  have HR := Lib.hid h
  clear h
  go_enter Tryd.func10, Tryd.ntmps10
  go_wp2_with (go_at_call 25; refine (validU_i A n c X _ hn HR.out).mono ?_; rintro e w1 ⟨rfl, b1⟩; rw [hv])
  go_ret2
  exact ⟨none, 0, rfl, Nat.le_refl _, by unfold maxLen; omega, Row.none_, b1⟩

set_option maxHeartbeats 2000000 in
set_option maxRecDepth 100000 in
theorem cloneU_i (A : Option Addr) (n c : Nat) (X : Nat → Int) (w : World) (hn : n ≤ 1048576) (h : Sl w A n 3 X) :
    Calls Tryd.prog 42 #[.slice A n c] w fun e w' => ∃ A' c', e = .returned (.slice A' n c') ∧ n ≤ c' ∧ c' ≤ maxLen ∧ Row w' w.heap.size w'.heap.size A' n 3 40 X ∧ Below w.heap.size w w' := by
  obtain ⟨i0, hi0, hz0, hz1, hz2⟩ := info_partsU info_bunch
  have q22 : ∀ (w : World) (a : Option Addr) (n c n' c' : Nat), (binOp .eql 27 (.slice a n c) (.slice none n' c')).run Tryd.prog w = .ok (.bool a.isNone) w := fun w a n c n' c' => Lib.run_eql_slice_nil w _ _ a n c n' c' Tryd.underlying27
  cases A with
  | none =>
    have hz : n = 0 := by
      rcases Nat.eq_zero_or_pos n with h0 | h0
      · exact h0
      · obtain ⟨b, o, e, _⟩ := h h0; cases e
    subst hz
    clear h
    go_enter Tryd.func42, Tryd.ntmps42
    go_wp2
    go_ret
    exact ⟨none, 0, rfl, Nat.le_refl _, by unfold maxLen; omega, Row.none_, Below.refl _ _⟩
  | some a =>
    have hcell : ∀ j u, (cellsU (fun j => Value.int .i64 (X j)) (n * 3))[j]? = some u → (w.alloc (Obj.cells #[] 40)).cell? (a.add j) = some u := by
      rcases Nat.eq_zero_or_pos n with h0 | h0
      · subst h0
        exact fun j u hj => by simp [cellsU] at hj
      · obtain ⟨b, o, e, hb, hX⟩ := h h0
        injection e with e
        subst e
        intro j u hj
        obtain ⟨h1, rfl⟩ := cellsU_at hj
        rw [addrU_at]
        exact (Below.cell (B := w.heap.size) (p := ⟨b, o + j, none⟩) (by go_grown) hb).trans (hX j h1)
    have HC := Lib.hid hcell
    clear hcell h
    go_enter Tryd.func42, Tryd.ntmps42
    go_wp2_with (at_builtin; refine wpList_append_own _ rfl _ _ 27 rfl w.heap.size 40 i0 _ 3 24 Tryd.underlying27 hi0 hz0 hz1 hz2 rfl (by decide) _ _ _ rfl (owns_noneU w w.heap.size 3 40 (Nat.le_refl _)) a n c (cellsU (fun j => Value.int .i64 (X j)) (n * 3)) rfl (cellsU_len _ _) ?c1 ?c2 ?c3 ?c4 ?c5 ?_)
    case c1 => exact HC.out
    case c2 => intro u hu; obtain ⟨j, hj⟩ := List.getElem?_of_mem hu; obtain ⟨_, rfl⟩ := cellsU_at hj; rfl
    case c3 => unfold maxLen; omega
    case c4 => omega
    case c5 => simp
    intro v' w1 hown1 hgrow1 hnil
    try simp only [Nat.zero_add, List.nil_append] at hown1
    have g1 : Below w.heap.size w w1 := Below.grown (by go_grown) hgrow1 (by simp) (fun g hg => by simp [Value.ownBlock] at hg; omega)
    have HOW := Lib.hid hown1
    clear hgrow1 hown1
    go_wp2
    go_ret
    rcases Nat.eq_zero_or_pos n with h0 | h0
    · subst h0
      obtain ⟨_, hh⟩ := HOW.out
      rcases hh with ⟨rfl, _⟩ | ⟨g, cap, cur, rfl, hB, hh, hc, hm, hs, ht⟩
      · exact ⟨none, 0, rfl, Nat.le_refl _, by unfold maxLen; omega, Row.none_, g1⟩
      · exact ⟨_, cap, rfl, hc, hm, Row.none_, g1⟩
    · obtain ⟨g', c', rfl, k5, mm5, p1, p2, ho⟩ := row_ofU HOW.out h0
      exact ⟨_, c', rfl, k5, mm5, fun _ => ⟨g', rfl, p1, p2, ho⟩, g1⟩

set_option maxHeartbeats 1000000 in
theorem insertion0_c (A : Option Addr) (c : Nat) (fv : Value) (w : World) :
    Calls Tryd.prog 87 #[.slice A 0 c, .int .i64 0, .int .i64 0, fv] w fun e w' => e = .returned (.tuple #[]) ∧ w = w' := by
  go_enter Tryd.func87, Tryd.ntmps87
  go_wp2_with fail
  go_loopw [8] (fun x wr => x = .int .i64 1 ∧ wr = w) (fun x _ => 0)
  case atStart => exact ⟨rfl, rfl⟩
  case round =>
    obtain ⟨rfl, rfl⟩ := hrel
    go_wp2_with fail
    go_end0
    exact ⟨rfl, rfl⟩
set_option maxHeartbeats 1000000 in
theorem stable0_c (A : Option Addr) (c : Nat) (fv : Value) (w : World) :
    Calls Tryd.prog 73 #[.slice A 0 c, .int .i64 0, fv] w fun e w' => e = .returned (.tuple #[]) ∧ w = w' := by
  go_enter Tryd.func73, Tryd.ntmps73
  go_wp2_with fail
  go_loopw [7, 8] (fun x y wr => x = .int .i64 0 ∧ y = .int .i64 20 ∧ wr = w) (fun x y _ => 0)
  case atStart => exact ⟨rfl, rfl, rfl⟩
  case round =>
    obtain ⟨rfl, rfl, rfl⟩ := hrel
    go_wp2_with fail
    refine (insertion0_c A c fv _).mono ?_
    rintro e w1 ⟨rfl, rfl⟩
    go_wp2_with fail
    go_loopw [6] (fun x wx => x = .int .i64 20 ∧ wx = wr) (fun x _ => 0)
    case atStart => exact ⟨rfl, rfl⟩
    case round =>
      obtain ⟨rfl, rfl⟩ := hrel
      go_wp2_with fail
      go_end0
      exact ⟨rfl, rfl⟩
theorem sortStable0_c (A : Option Addr) (c : Nat) (fv : Value) (w : World) :
    Calls Tryd.prog 43 #[.slice A 0 c, fv] w fun e w' => e = .returned (.tuple #[]) ∧ w = w' := by
  go_enter Tryd.func43, Tryd.ntmps43
  go_wp2_with fail
  refine (stable0_c A c fv _).mono ?_
  rintro e w1 ⟨rfl, rfl⟩
  go_wp2
  go_end0
  exact ⟨rfl, rfl⟩

set_option maxHeartbeats 2000000 in
theorem sortU_i (A : Option Addr) (n c : Nat) (X : Nat → Int) (QQ : Nat → Nat) (w : World) (hv : listU n X = true) (hQQ : Ord (ltU X) n QQ) (h : Sl w A n 3 X) :
    Calls Tryd.prog 10 #[.slice A n c] w fun e w' => ∃ A' c', e = .returned (.tuple #[.slice A' n c', .int .i64 0]) ∧ n ≤ c' ∧ c' ≤ maxLen ∧ Row w' w.heap.size w'.heap.size A' n 3 40 (rowU X QQ) ∧ Below w.heap.size w w' := by
  obtain ⟨n30, hall⟩ := listU_of hv
  have hn : n ≤ maxLen := by unfold maxLen; omega
  have HV := Lib.hid hv
  have HR := Lib.hid h
  have HQQ := Lib.hid hQQ
  clear h hv hall hQQ
  go_enter Tryd.func10, Tryd.ntmps10
  go_wp2_with (go_at_call 25; refine (validU_i A n c X _ hn HR.out).mono ?_; rintro e w1 ⟨rfl, b1⟩; rw [HV.out])
  refine (cloneU_i A n c X _ (by omega) (HR.out.below b1 (Nat.le_refl _))).mono ?_
  rintro e w2 ⟨A2, c2, rfl, k2, m2, hr2, b2⟩
  have z1 := b1.size
  have z2 := b2.size
  have HR2 := Lib.hid hr2
  have HB2 := Lib.hid (b1.trans (b2.mono z1))
  clear hr2 b1 b2
  rcases Nat.eq_zero_or_pos n with h0 | h0
  · subst h0
    go_wp2_with fail
    refine (sortStable0_c A2 c2 _ _).mono ?_
    rintro e w3 ⟨rfl, rfl⟩
    go_wp2
    go_ret2
    exact ⟨A2, c2, rfl, k2, m2, Row.none_, HB2.out⟩
  · obtain ⟨g, rfl, g1, g2, ho⟩ := HR2.out h0
    have HG := Lib.hid (Own.congr ho (fun j _ => (rowU_id X j).symm))
    clear ho
    go_wp2_with fail
    refine (sortStableU_c X g n c2 _ (by omega) HG.out).mono ?_
    rintro e w3 ⟨rfl, Q, hq, hord, hw⟩
    have HU := Lib.hid (Own.congr hq (rowU_congr X (hord.uniq (ltU_swo X) HQQ.out)))
    have hlt := Own.lt hq
    have z3 := hw.size
    have HB3 := Lib.hid (HB2.out.trans (hw.below (B := w.heap.size) (by omega) (by omega)))
    clear hq hw
    go_wp2
    go_ret2
    exact ⟨_, c2, rfl, k2, m2, fun _ => ⟨g, rfl, by omega, hlt, HU.out⟩, HB3.out⟩

end Go.Proofs.YtlepgkmpbhlajaaDoor.rod
