/-
  Contracts: whether a stake is held on both sides; what the library's DeleteFunc leaves of the indices; the loose stakes; of the program.
-/
import Derived.Test.YtbmdggcfoohmgaaDoorWg
import Derived.Test.YtbmdggcfoohmgaaDoorIdx
import Derived.Lib.SliceRun
import Derived.Lib.Slices
import Derived.Laws.IdiomCopy
namespace Go.Proofs.YtbmdggcfoohmgaaDoor.wk
open Go.ChangeShapes Go.WideShapes Go.ChangeAt Go.RowKit
open Go.Proofs.YtbmdggcfoohmgaaDoor.mem Go.Proofs.YtbmdggcfoohmgaaDoor.rod Go.Proofs.YtbmdggcfoohmgaaDoor.wv Go.Proofs.YtbmdggcfoohmgaaDoor.gm
set_option linter.unusedVariables false

/-- the map is the one of all rounds -/
def Grips (w : World) (b : Nat) (s : ByteArray) (n : Nat) : Prop := GM Tryd.prog 169 w b (grS s n (rnd s.size n) 0)

set_option maxHeartbeats 1000000 in
theorem both_i (s : ByteArray) (n k b : Nat) (w : World) (hs : strokeB s = true) (hk : k < n) (hn : n ≤ 60) (hg : Grips w b s n) :
    Calls Tryd.prog 130 #[.map (some b), .int .i64 (k : Int)] w fun e w' => e = .returned (.bool (!looseB (byteAt s) s.size n k)) ∧ w = w' := by
  have hb := both_iff hs hk
  obtain ⟨r1, h1⟩ : ∃ r : Bool, r = true ↔ grS s n (rnd s.size n) 0 (gk (k : Int) 70) := by classical exact ⟨decide (grS s n (rnd s.size n) 0 (gk (k : Int) 70)), decide_eq_true_iff⟩
  obtain ⟨r2, h2⟩ : ∃ r : Bool, r = true ↔ grS s n (rnd s.size n) 0 (gk (k : Int) 66) := by classical exact ⟨decide (grS s n (rnd s.size n) 0 (gk (k : Int) 66)), decide_eq_true_iff⟩
  obtain ⟨l1, k1⟩ := key_of (a := (k : Int)) (c := 70) (wf_i64 (by omega) (by omega)) (by decide)
  obtain ⟨l2, k2⟩ := key_of (a := (k : Int)) (c := 66) (wf_i64 (by omega) (by omega)) (by decide)
  have q1 := GM.lookup hg keyed Tryd.underlying130 (Tryd.zeroValue4 w) k1 r1 h1
  have q2 := GM.lookup hg keyed Tryd.underlying130 (Tryd.zeroValue4 w) k2 r2 h2
  have he : (!looseB (byteAt s) s.size n k) = (r1 && r2) := by
    rw [Bool.eq_iff_iff, hb, Bool.and_eq_true, h1, h2]
  rw [he]
  unfold gk at q1 q2
  clear hb h1 h2 k1 k2 he hg hs
  cases r1
  · go_enter Tryd.func130, Tryd.ntmps130
    go_wp2
    go_ret
    exact ⟨rfl, rfl⟩
  · go_enter Tryd.func130, Tryd.ntmps130
    go_wp2
    go_ret
    exact ⟨by simp, rfl⟩

/-! ### the row -/
theorem Own.past {w : World} {g n i : Nat} {E : TypeId} {X : Nat → Int} (h : Own w g E n X) (hi : n ≤ i) (v : Value) : Own (w.setCell ⟨g, i, none⟩ v) g E n X := by
  obtain ⟨c, hb, hn, hc⟩ := h
  refine ⟨c.setIfInBounds i v, ?_, by simpa using hn, fun j hj => ?_⟩
  · simp [World.setCell, Array.getElem?_modify, hb]
  · rw [Array.getElem?_setIfInBounds, if_neg (by omega)]
    exact hc j hj
theorem Own.pasts {g n : Nat} {E : TypeId} {X : Nat → Int} : ∀ (vs : List Value) {w : World} {i : Nat}, Own w g E n X → n ≤ i → Own (w.setCells g i vs) g E n X
  | [], _, _, h, _ => h
  | v :: vs, _, _, h, hi => Own.pasts vs (Own.past h hi v) (by omega)
theorem wroteIn_cells {w : World} {lo hi g : Nat} (h1 : lo ≤ g) (h2 : g < hi) : ∀ (vs : List Value) {w' : World} {i : Nat}, WroteIn w w' lo hi → WroteIn w (w'.setCells g i vs) lo hi
  | [], _, _, h => h
  | v :: vs, _, _, h => wroteIn_cells h1 h2 vs (h.set h1 h2 v)

theorem idxs_full {p : Nat → Bool} : ∀ {n : Nat}, (∀ j, j < n → p j = true) → (idxs p n).length = n
  | 0, _ => rfl
  | n + 1, h => by rw [idxs_yes (h n (by omega)), List.length_append, idxs_full (fun j hj => h j (by omega))]; rfl
theorem idxs_all {p : Nat → Bool} : ∀ {n : Nat}, (∀ j, j < n → p j = true) → ∀ t, t < n → (idxs p n).getD t 0 = (t : Int)
  | 0, _, t, ht => by omega
  | n + 1, h, t, ht => by
    have hl := idxs_full (p := p) (n := n) (fun j hj => h j (by omega))
    rw [idxs_yes (h n (by omega))]
    by_cases e : t = n
    · subst e
      rw [List.getD_eq_getElem?_getD, List.getElem?_append_right (by omega), hl]; simp
    · rw [List.getD_eq_getElem?_getD, List.getElem?_append_left (by omega), ← List.getD_eq_getElem?_getD]
      exact idxs_all (fun j hj => h j (by omega)) t (by omega)
set_option maxHeartbeats 2000000 in
theorem indexFunc_i (s : ByteArray) (n b g : Nat) (w : World) (hs : strokeB s = true) (hn : n ≤ 60) (hg : Grips w b s n) (ho : Own w g 2 n (fun j => (j : Int))) :
    Calls Tryd.prog 161 #[.slice (some ⟨g, 0, none⟩) n n, .func (.func 130) #[.map (some b)] #[]] w fun e w' => w = w' ∧
      ((e = .returned (.int .i64 (-1)) ∧ ∀ j, j < n → looseB (byteAt s) s.size n j = true) ∨ ∃ i, i < n ∧ e = .returned (.int .i64 (i : Int)) ∧ looseB (byteAt s) s.size n i = false ∧ ∀ j, j < i → looseB (byteAt s) s.size n j = true) := by
  obtain ⟨q, hq⟩ : ∃ q, q = looseB (byteAt s) s.size n := ⟨_, rfl⟩
  have HB := Lib.hid (fun (k : Nat) (hk : k < n) => both_i s n k b w hs hk hn hg)
  rw [← hq] at HB ⊢
  have HO := Lib.hid ho
  clear hq hg ho
  go_enter Tryd.func161, Tryd.ntmps161
  go_wp2_with fail
  go_loop [8] (fun i => ∃ k : Nat, k ≤ n ∧ i = .int .i64 (k : Int) ∧ Hid (∀ j, j < k → q j = true)) (fun i => n - (intOf i).toNat)
  case atStart => exact ⟨0, by omega, rfl, Lib.hid (fun j hj => absurd hj (by omega))⟩
  case round =>
    obtain ⟨k, hk, rfl, hall⟩ := hrel
    by_cases hlt : k < n
    · have hlt' : (k : Int) < (n : Int) := by omega
      have hk0 : (0 : Int) ≤ (k : Int) := by omega
      have ck := HO.out.cell hlt
      have HC := Lib.hid (HB.out k hlt)
      cases hqk : q k
      · rw [hqk] at HC
        have HQ := Lib.hid hqk
        clear hqk
        go_wp2_with (go_at_call 130; refine (HC.out).mono ?_; rintro e w' ⟨rfl, rfl⟩)
        go_ret
        exact ⟨rfl, .inr ⟨k, hlt, rfl, HQ.out, hall.out⟩⟩
      · rw [hqk] at HC
        have HQ := Lib.hid (show ∀ j, j < k + 1 → q j = true from fun j hj => by
          by_cases e : j = k
          · rw [e]; exact hqk
          · exact hall.out j (by omega))
        clear hqk
        go_wp2_with (go_at_call 130; refine (HC.out).mono ?_; rintro e w' ⟨rfl, rfl⟩)
        go_round
        case rel => exact ⟨k + 1, by omega, by go_num, HQ⟩
        case measure => simp [intOf]; omega
    · obtain rfl : k = n := by omega
      go_wp2
      go_ret
      exact ⟨rfl, .inl ⟨rfl, hall.out⟩⟩

/-- the answer is a row of its own, and nothing else is as it was not -/
def Left (w : World) (g n : Nat) (l : List Int) (e : Ending) (w' : World) : Prop :=
  e = .returned (.slice (some ⟨g, 0, none⟩) l.length n) ∧ Own w' g 2 l.length (fun j => l.getD j 0) ∧ WroteIn w w' g (g + 1)
theorem idxs_first {q : Nat → Bool} {i : Nat} (h : ∀ j, j < i → q j = true) (hi : q i = false) : (idxs q (i + 1)).length = i ∧ ∀ t, t < i → (idxs q (i + 1)).getD t 0 = (t : Int) := by
  rw [idxs_no hi]
  exact ⟨idxs_full h, idxs_all h⟩
theorem getD_snoc {l : List Int} {x : Int} {t : Nat} (h : t ≤ l.length) : (l ++ [x]).getD t 0 = if t = l.length then x else l.getD t 0 := by
  by_cases e : t = l.length
  · rw [if_pos e, e, List.getD_eq_getElem?_getD, List.getElem?_append_right (Nat.le_refl _)]; simp
  · rw [if_neg e, List.getD_eq_getElem?_getD, List.getElem?_append_left (by omega), ← List.getD_eq_getElem?_getD]

set_option maxHeartbeats 8000000 in
set_option maxRecDepth 100000 in
theorem deleteFunc_i (s : ByteArray) (n b g : Nat) (w : World) (hs : strokeB s = true) (hn : n ≤ 60) (hg : Grips w b s n) (ho : Own w g 2 n (fun j => (j : Int))) (hne : b ≠ g) :
    Calls Tryd.prog 127 #[.slice (some ⟨g, 0, none⟩) n n, .func (.func 130) #[.map (some b)] #[]] w (Left w g n (idxs (looseB (byteAt s) s.size n) n)) := by
  have hIF := indexFunc_i s n b g w hs hn hg ho
  obtain ⟨q, hq⟩ : ∃ q, q = looseB (byteAt s) s.size n := ⟨_, rfl⟩
  have HB := Lib.hid (fun (k : Nat) (hk : k < n) (W : World) (hW : WroteIn w W g (g + 1)) => both_i s n k b W hs hk hn (GM.wrote hg hW (by omega)))
  rw [← hq] at hIF HB ⊢
  clear hq hg
  have HIF := Lib.hid hIF
  have HO := Lib.hid ho
  clear hIF ho
  go_enter Tryd.func127, Tryd.ntmps127
  go_wp2_with fail
  refine (HIF.out).mono ?_
  rintro e w' ⟨rfl, hcase⟩
  rcases hcase with ⟨rfl, hall⟩ | ⟨i, hi, rfl, hqi, hall⟩
  · have hlen := idxs_full hall
    have hval := idxs_all hall
    have HL := Lib.hid hlen
    have HW := Lib.hid hval
    have hl0 : (idxs q n).length = n := hlen
    clear hlen hval hall
    go_wp2
    go_ret
    exact ⟨by rw [hl0]; rfl, by rw [hl0]; exact HO.out.congr fun j hj => (HW.out j hj).symm, WroteIn.refl _ _ _⟩
  · have hne1 : ((i : Int) == -1) = false := beq_false_of_ne (by omega)
    obtain ⟨f1, f2⟩ := idxs_first hall hqi
    have F1 := Lib.hid f1
    have F2 := Lib.hid f2
    clear hall hqi f1 f2
    go_wp2_with fail
    go_loopw [5, 6] (fun a c wr => ∃ (j : Nat) (X : Nat → Int), j ≤ n ∧ i < j ∧ c = .int .i64 (j : Int) ∧ a = .int .i64 (((idxs q j).length : Nat) : Int) ∧ (idxs q j).length < j ∧ Hid (Own wr g 2 n X) ∧ Hid (∀ t, t < (idxs q j).length → X t = (idxs q j).getD t 0) ∧ Hid (∀ t, j ≤ t → X t = (t : Int)) ∧ WroteIn w wr g (g + 1)) (fun _ c _ => n - (intOf c).toNat)
    case atStart => exact ⟨i + 1, fun j => (j : Int), by omega, by omega, by go_num, by rw [F1.out], by rw [F1.out]; omega, HO, Lib.hid (fun t ht => by rw [F1.out] at ht; exact (F2.out t ht).symm), Lib.hid (fun t _ => rfl), WroteIn.refl _ _ _⟩
    case round =>
      obtain ⟨j, X, hj, hij, rfl, rfl, hlj, hown, hX1, hX2, hw⟩ := hrel
      have HWR := Lib.hid hw
      clear hw
      by_cases hlt : j < n
      · have hlt' : (j : Int) < (n : Int) := by omega
        have hj0 : (0 : Int) ≤ (j : Int) := by omega
        have cj := hown.out.cell hlt
        rw [hX2.out j (Nat.le_refl _)] at cj
        have HC := Lib.hid (HB.out j hlt wr HWR.out)
        cases hqj : q j
        · rw [hqj] at HC
          have HN := Lib.hid (idxs_no hqj)
          clear hqj
          go_wp2_with (go_at_call 130; refine (HC.out).mono ?_; rintro e w' ⟨rfl, rfl⟩)
          go_roundw
          case rel => exact ⟨j + 1, X, by omega, by omega, by go_num, by rw [HN.out], by rw [HN.out]; omega, hown, Lib.hid (fun t ht => by rw [HN.out] at ht ⊢; exact hX1.out t ht), Lib.hid (fun t ht => hX2.out t (by omega)), HWR.out⟩
          case measure => simp [intOf]; omega
        · rw [hqj] at HC
          have HN := Lib.hid (idxs_yes hqj)
          clear hqj
          obtain ⟨L, hL⟩ : ∃ L, L = (idxs q j).length := ⟨_, rfl⟩
          have HLL := Lib.hid hL
          rw [← hL] at hlj ⊢
          clear hL
          have hLn : L < n := by omega
          have hL' : (L : Int) < (n : Int) := by omega
          have hL0 : (0 : Int) ≤ (L : Int) := by omega
          have cL := hown.out.cell hLn
          have fL := hown.out.frozen L
          generalize X L = xl at cL
          go_wp2_with (go_at_call 130; refine (HC.out).mono ?_; rintro e w' ⟨rfl, rfl⟩)
          go_roundw
          case rel =>
            have hl2 : (idxs q (j + 1)).length = L + 1 := by rw [HN.out, List.length_append, ← HLL.out]; rfl
            refine ⟨j + 1, fun t => if t = L then (j : Int) else X t, by omega, by omega, by go_num, by rw [hl2]; go_num, by rw [hl2]; omega, Lib.hid (hown.out.set L (j : Int)), Lib.hid (fun t ht => ?_), Lib.hid (fun t ht => ?_), HWR.out.set (Nat.le_refl _) (Nat.lt_succ_self _) _⟩
            · rw [hl2] at ht
              rw [HN.out, getD_snoc (by rw [← HLL.out]; omega), ← HLL.out]
              show (if t = L then (j : Int) else X t) = _
              by_cases e0 : t = L
              · rw [if_pos e0, if_pos e0]
              · rw [if_neg e0, if_neg e0]
                exact hX1.out t (by rw [← HLL.out]; omega)
            · show (if t = L then (j : Int) else X t) = _
              rw [if_neg (by omega)]
              exact hX2.out t (by omega)
          case measure => simp [intOf]; omega
      · obtain rfl : j = n := by omega
        obtain ⟨L, hL⟩ : ∃ L, L = (idxs q j).length := ⟨_, rfl⟩
        have HLL := Lib.hid hL
        rw [← hL] at hlj ⊢
        clear hL
        have hL' : (L : Int) < (j : Int) := by omega
        have hLj : ¬ (j : Int) < (L : Int) := by omega
        have hL0 : (0 : Int) ≤ (L : Int) := by omega
        have hLe : ¬ j = L := by omega
        have hLe2 : ¬ L = j := by omega
        have hcl : ∀ ty, (Builtin.clear_ #[26] ty #[.slice (some ⟨g, L, none⟩) (j - L) (j - L)]).run Tryd.prog wr = .ok (.tuple #[]) (wr.setCells g L (List.replicate (j - L) (.int .i64 0))) := fun ty =>
          Lib.run_clear_slice wr 26 2 ty (.int .i64 0) Tryd.underlying26 Tryd.zeroValue2 rfl rfl g L (j - L) (j - L) (by omega) (fun t ht => by rw [hown.out.cell (j := L + t) (by omega)]; rfl) (fun t ht => hown.out.frozen _)
        have HOL := Lib.hid (Own.pasts (List.replicate (j - L) (.int .i64 0)) (i := L) ((hown.out.le (m := L) (by omega)).congr fun t ht => hX1.out t (by rw [← HLL.out]; exact ht)) (Nat.le_refl _))
        have HWL := Lib.hid (wroteIn_cells (i := L) (Nat.le_refl g) (Nat.lt_succ_self g) (List.replicate (j - L) (.int .i64 0)) HWR.out)
        go_wp2
        go_ret
        exact ⟨by rw [← HLL.out]; rfl, by rw [← HLL.out]; exact HOL.out, HWL.out⟩

end Go.Proofs.YtbmdggcfoohmgaaDoor.wk
