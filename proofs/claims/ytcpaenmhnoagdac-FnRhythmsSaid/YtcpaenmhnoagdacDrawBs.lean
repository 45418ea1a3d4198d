/-
  The laws' own lists of beds.
-/
import Derived.Test.YtcpaenmhnoagdacDrawL
namespace Go.Proofs.Ytcpaenmhnoagdac.src
open Go.ChangeShapes Go.WideShapes Go.ChangeAt Go.RowKit Go.Proofs.Ytcpaenmhnoagdac.mem
set_option linter.unusedVariables false

/-- some beds are drawn, and the source lies on -/
def DrawnBeds (w : World) (b : Nat) (A : Option Addr) (n c : Nat) (K : Int) (e : Ending) (w' : World) : Prop :=
  ∃ (P : Option Addr) (l d : Nat) (M : Nat → Nat) (Y : Nat → Nat → Int) (G : Nat → Int), e = .returned (.slice P l d) ∧ l ≤ 9 ∧ l ≤ d ∧ d ≤ maxLen ∧ (∀ j, j < l → M j ≤ 6) ∧ rod.RowBs w' w.heap.size w'.heap.size P l M Y G ∧ Src w' b A n c K ∧ Kept w.heap.size b w w'
theorem Listing.rowBs {w wr : World} {i : Nat} {g d : Nat} {P : Nat → Option Addr} {M C : Nat → Nat} {Y : Nat → Nat → Int} {G : Nat → Int} (h : Listing w wr i (.slice (some ⟨g, 0, none⟩) i d) P M C Y G) (hg : w.heap.size ≤ g) (ho : OwnV wr g 26 (i * 2) (rod.bedV P M C G)) : rod.RowBs wr w.heap.size wr.heap.size (some ⟨g, 0, none⟩) i M Y G := fun _ =>
  ⟨g, P, C, rfl, hg, ho.lt, ho, fun j hj _ => by
    obtain ⟨g', e, h1, h2⟩ := h.row j hj
    exact ⟨g', e, h1, h2.lt, h2.le (by omega)⟩, fun j k hjk hk _ _ => h.dis j k hjk hk⟩

set_option maxHeartbeats 8000000 in
set_option maxRecDepth 100000 in
theorem beds_c (b : Nat) (A : Option Addr) (n c : Nat) (X : Nat → Int) (K : Int) (w : World) (hn : n ≤ 4096) (hK : K ≤ 600000000) (hA : 0 < n → ∀ x o, A = some ⟨x, o, none⟩ → x < b) (hs : Src w b A n c K) (hx : Sb w A n X) :
    Calls Try.prog 58 #[.pointer (some ⟨b, 0, none⟩)] w (DrawnBeds w b A n c (K + 140)) := by
  have hlt := hs.lt
  have S0 := Lib.hid (show Src (w.alloc (.cells #[] 26)) b A n c K from hs.of_block (Go.Deep.blk_alloc_lt _ _ _ hlt) (by simp))
  have K0 := Lib.hid ((Kept.refl w.heap.size b w).alloc (Nat.le_refl _) (.cells #[] 26))
  have XK := Lib.hid (fun (wr : World) (h5 : Kept w.heap.size b w wr) => hx.kept h5 hA (by omega))
  have HA := Lib.hid hA
  obtain ⟨i0, hi0, hz0, hz1, hz2⟩ := info_parts rod.info_bed
  have L0 := Lib.hid (show Listing w (w.alloc (.cells #[] 26)) 0 (.slice (some ⟨w.heap.size, 0, none⟩) 0 0) (fun _ => none) (fun _ => 0) (fun _ => 0) (fun _ _ => 0) (fun _ => 0) from
    ⟨owns_new0 w 26 2 w.heap.size (Nat.le_refl _), fun j hj => absurd hj (by omega), fun j k _ hk => absurd hk (by omega), fun j hj => absurd hj (by omega)⟩)
  clear hs hx hA
  go_enter Try.func58, Try.ntmps58
  go_wp2_with fail
  refine (pick_c b A n c X K 5 4 _ hn (by omega) (by omega) (by omega) HA.out S0.out (XK.out _ K0.out)).mono ?_
  rintro e w1 ⟨q, rfl, q0, q1, s1, hw1⟩
  have z1 := hw1.size
  simp at z1
  have S1 := Lib.hid s1
  have K1 := Lib.hid (K0.out.wrote hw1 (Nat.le_refl _))
  have L1 := Lib.hid (L0.out.keep (wr' := w1) (fun k hk hk2 => hw1.block k hk (by omega)))
  clear s1 hw1
  go_wp2_with fail
  refine (one_c b A n c X (K + 2) 16 15 _ hn (by omega) (by omega) (by omega) HA.out S1.out (XK.out _ K1.out)).mono ?_
  rintro e w2 ⟨r, rfl, s2, hw2⟩
  have z2 := hw2.size
  have S2 := Lib.hid s2
  have K2 := Lib.hid (K1.out.wrote hw2 (Nat.le_refl _))
  have L2 := Lib.hid (L1.out.keep (wr' := w2) (fun k hk hk2 => hw2.block k hk (by omega)))
  clear s2 hw2
  -- behind the choice of the number of beds
  go_upto_if 10 with fail
  go_cut [4] from 6 (fun s wc => ∃ l : Nat, s = .int .i64 l ∧ l ≤ 9 ∧ Src wc b A n c (K + 6) ∧ Kept w.heap.size b w wc ∧ Listing w wc 0 (.slice (some ⟨w.heap.size, 0, none⟩) 0 0) (fun _ => none) (fun _ => 0) (fun _ => 0) (fun _ _ => 0) (fun _ => 0))
  case first =>
    cases r
    · go_wp2_with fail
      go_meet
      case rel => exact ⟨q.toNat, by congr 1; omega, by omega, S2.out.mono (by omega), K2.out, L2.out⟩
    · go_wp2_with fail
      refine (among_c b A n c X (K + 4) w2.heap.size 3 3 (fun j => ([5, 8, 9] : List Int).getD j 0) _ hn (by omega) HA.out (S2.out.mono (by omega) |>.of_block (Go.Deep.blk_alloc_lt _ _ _ S2.out.lt) (by simp)) ((XK.out _ K2.out).below (K := w2.heap.size) (by go_grown) (Nat.le_refl _)) (by omega) (by omega) (by omega) (by simp) (ints_lit [5, 8, 9] _ _)).mono ?_
      rintro e w3 ⟨j, hj, rfl, s3, hw3⟩
      obtain ⟨l, hl, hl9⟩ : ∃ l : Nat, (fun j => ([5, 8, 9] : List Int).getD j 0) j = (l : Int) ∧ l ≤ 9 := by
        have h3 : j = 0 ∨ j = 1 ∨ j = 2 := by omega
        rcases h3 with rfl | rfl | rfl
        · exact ⟨5, rfl, by omega⟩
        · exact ⟨8, rfl, by omega⟩
        · exact ⟨9, rfl, by omega⟩
      rw [hl]
      have S3 := Lib.hid s3
      have K3 := Lib.hid ((K2.out.alloc (Nat.le_refl _) _).wrote hw3 (Nat.le_refl _))
      have L3 := Lib.hid (L2.out.keep (wr' := w3) (fun k hk hk2 => (hw3.block k (by simp; omega) (by omega)).trans (Go.Deep.blk_alloc_lt _ _ _ hk)))
      clear s3 hw3 hl
      go_wp2_with fail
      go_meet
      case rel => exact ⟨l, rfl, hl9, S3.out.mono (by omega), K3.out, L3.out⟩
  case rest =>
    rename World => w3
    obtain ⟨l, rfl, hl9, s3, k3, l3⟩ := hcut
    have S3 := Lib.hid s3
    have K3 := Lib.hid k3
    have L3 := Lib.hid l3
    clear s3 k3 l3
    go_wp2_with fail
    go_loopw [5, 3] (fun s u wr => ∃ (k i d : Nat) (B : Option Addr) (P : Nat → Option Addr) (M C : Nat → Nat) (Y : Nat → Nat → Int) (G : Nat → Int), s = .int .i64 k ∧ u = .slice B i d ∧ i + k = l ∧ Src wr b A n c (K + 6 + 14 * i) ∧ Kept w.heap.size b w wr ∧ Listing w wr i (.slice B i d) P M C Y G) (fun s _ _ => (intOf s).toNat)
    case atStart => exact ⟨l, 0, 0, _, _, _, _, _, _, rfl, rfl, by omega, S3.out.mono (by omega), K3.out, L3.out⟩
    case round =>
      obtain ⟨k, i, d, B, P, M, C, Y, G, rfl, rfl, hik, hs, hk, hL⟩ := hrel
      have zk := hk.size
      have HSr := Lib.hid hs
      have HK := Lib.hid hk
      have HL := Lib.hid hL
      clear hs hk hL
      by_cases hk0 : 0 < k
      · have hk' : (0 : Int) < (k : Int) := by omega
        go_wp2_with fail
        refine (newBed_c b A n c X (K + 6 + 14 * i) _ hn (by omega) HA.out HSr.out (XK.out _ HK.out)).mono ?_
        rintro e w5 ⟨g, m, d5, Z, a, rfl, hm1, hm4, hmd, hdm, hg, hO, s5, hk5⟩
        have z5 := hk5.size
        have S5 := Lib.hid s5
        have K5 := Lib.hid (HK.out.trans (hk5.mono zk))
        have L5 := Lib.hid (HL.out.keep (wr' := w5) (fun j hj hj2 => hk5.block j hj (by omega)))
        have OLD := Lib.hid (fun j g' (hj : j < i) (e : P j = some ⟨g', 0, none⟩) => (show g' < g from by
          obtain ⟨g2, e1, _, h2⟩ := HL.out.row j hj
          rw [e] at e1
          cases e1
          have := h2.lt
          omega))
        have O5 := Lib.hid hO
        have hl1 : i + 1 ≤ maxLen := by unfold maxLen; omega
        have hl2 : (i + 1) * 32 ≤ 140737488355328 := by omega
        clear s5 hk5 hO
        go_wp2_with (at_builtin; refine wpList_append_own _ rfl _ _ 32 rfl w.heap.size 26 i0 _ 2 32 Try.underlying32 hi0 hz0 hz1 hz2 rfl (by decide) _ _ _ rfl (L5.out.owns.alloc _) ⟨w5.heap.size, 0, none⟩ 1 1 [.slice (some ⟨g, 0, none⟩) m d5, .int .i64 a] rfl rfl ?c1 ?c2 hl1 hl2 ?c5 ?_)
        case c1 => intro j y hj; rcases j with _ | _ | j <;> simp at hj <;> subst hj <;> go_simp
        case c2 => intro y hy; simp at hy; rcases hy with rfl | rfl <;> rfl
        case c5 => simp; omega
        intro v' w6 hown6 hgrow6 _
        have L6 := Lib.hid (L5.out.add (w6 := w6) OLD.out (by omega) O5.out hm1 hm4 hmd hdm hown6 (row := none) (fun j hj hj2 => (hgrow6.block j (by simp; omega) (fun e => hj2 e.symm)).trans (Go.Deep.blk_alloc_lt _ _ _ hj)))
        have S6 := Lib.hid ((S5.out.of_block (Go.Deep.blk_alloc_lt _ _ _ (by omega)) (by simp)).of_block (hgrow6.block b (by simp; omega) (fun e => by have := owns_ge L5.out.owns b e.symm; omega)) hgrow6.size)
        have K6 := Lib.hid ((K5.out.alloc (Nat.le_refl _) _).grown (Nat.le_refl _) hgrow6 (owns_ge L5.out.owns))
        obtain ⟨B6, d6, rfl, _, _, _⟩ := ownV_of_owns L6.out.owns
        clear hown6 hgrow6
        go_wp2
        go_roundw
        case rel => exact ⟨k - 1, i + 1, d6, B6, _, _, _, _, _, by go_num, rfl, by omega, S6.out.mono (by omega), K6.out, L6.out⟩
        case measure => simp [intOf]; omega
      · obtain rfl : k = 0 := by omega
        obtain ⟨B', d', e', hd1, hd2, hB⟩ := ownV_of_owns HL.out.owns
        cases e'
        by_cases hl0 : 0 < l
        · obtain ⟨gb, rfl, hgb, hgbl, hOV⟩ := hB (by omega)
          have hl0' : decide (0 < l) = true := decide_eq_true hl0
          have hl0i : (0 : Int) < (l : Int) := by omega
          have hi0i : (0 : Int) < (i : Int) := by omega
          have HOV := Lib.hid hOV
          clear hB hOV
          go_wp2_with fail
          refine (one_c b A n c X (K + 6 + 14 * i) 10 9 _ hn (by omega) (by omega) (by omega) HA.out HSr.out (XK.out _ HK.out)).mono ?_
          rintro e w7 ⟨r, rfl, s7, hw7⟩
          have z7 := hw7.size
          have S7 := Lib.hid s7
          have K7 := Lib.hid (HK.out.wrote hw7 (Nat.le_refl _))
          have L7 := Lib.hid (HL.out.keep (wr' := w7) (fun k hk hk2 => hw7.block k hk (by omega)))
          have V7 := Lib.hid (HOV.out.of_block (hw7.block gb hgbl (by omega)))
          clear s7 hw7
          cases r
          · have HR := Lib.hid (L7.out.rowBs hgb V7.out)
            have HM := Lib.hid (fun j (hj : j < i) => (show M j ≤ 6 from by have := L7.out.bd j hj; omega))
            go_wp2
            go_ret
            exact ⟨_, i, d, M, Y, G, rfl, by omega, hd1, hd2, HM.out, HR.out, S7.out.mono (by omega), K7.out⟩
          · obtain ⟨g0, e0, hg0, hO0⟩ := L7.out.row 0 (by omega)
            obtain ⟨m1, m4, md, dm⟩ := L7.out.bd 0 (by omega)
            have hV0 : rod.bedV P M C G 0 = .slice (some ⟨g0, 0, none⟩) (M 0) (C 0) := by rw [← e0]; rfl
            have hV1 : rod.bedV P M C G 1 = .int .i64 (G 0) := rfl
            have hgg : gb ≠ g0 := by
              obtain ⟨cs, hh, _⟩ := hO0
              obtain ⟨cs', hh', _⟩ := V7.out
              intro e
              rw [← e, hh'] at hh
              cases hh
            have HO0 := Lib.hid hO0
            have E0 := Lib.hid e0
            clear hO0
            go_wp2_with fail
            refine (spoil_c b gb A n c X (K + 6 + 14 * i + 2) g0 (M 0) (C 0) (i * 2) (Y 0) (G 0) (rod.bedV P M C G) w.heap.size w7 hn (by omega) HA.out S7.out (XK.out _ K7.out) m1 m4 md dm HO0.out V7.out (by omega) hV0 hV1 (by omega) (by omega) hgg (by omega) hg0 (by omega)).mono ?_
            rintro e w8 ⟨rfl, P8, m8, d8, Y8, a8, hV8, hm6, hmd8, hdm8, hrow8, hold8, s8, hT8⟩
            have z8 := hT8.size
            have S8 := Lib.hid s8
            have K8 := Lib.hid (K7.out.trans (hT8.kept (N := w.heap.size) (by omega) hgb hg0))
            have HR := Lib.hid (show rod.RowBs w8 w.heap.size w8.heap.size (some ⟨gb, 0, none⟩) i (fun j => if j = 0 then m8 else M j) (fun j => if j = 0 then Y8 else Y j) (fun j => if j = 0 then a8 else G j) from fun _ => by
              have row : ∀ j, 0 < j → j < i → ∃ g', P j = some ⟨g', 0, none⟩ ∧ w.heap.size ≤ g' ∧ g' < w7.heap.size ∧ mem.Own w8 g' 2 (M j) (Y j) := fun j hj0 hj => by
                obtain ⟨g', e1, h1, h2⟩ := L7.out.row j hj
                have h3 := L7.out.dis 0 j hj0 hj
                rw [E0.out, e1] at h3
                have hne : g' ≠ g0 := fun q => h3 (by rw [q])
                have hgb' : g' ≠ gb := by
                  obtain ⟨cs, hh, _⟩ := h2
                  obtain ⟨cs', hh', _⟩ := V7.out
                  intro q
                  rw [q, hh'] at hh
                  cases hh
                exact ⟨g', e1, h1, h2.lt, h2.of_block (hT8.block g' h2.lt (by omega) hgb' hne)⟩
              refine ⟨gb, fun j => if j = 0 then P8 else P j, fun j => if j = 0 then d8 else C j, rfl, hgb, by omega, hV8.congr (fun x hx => ?_), fun j hj => ?_, fun j k hjk hk hj0 hk0 => ?_⟩
              · unfold rod.bedV
                by_cases x0 : x = 0
                · subst x0; rfl
                · by_cases x1 : x = 1
                  · subst x1; rfl
                  · have e : ¬ x / 2 = 0 := by omega
                    simp only [x0, x1, e, if_false]
              · by_cases j0 : j = 0
                · subst j0
                  exact hrow8
                · intro hm
                  simp only [j0, if_false] at hm ⊢
                  obtain ⟨g', e1, h1, h2, h3⟩ := row j (by omega) hj
                  exact ⟨g', e1, h1, by omega, h3.le (by omega)⟩
              · have hk0' : ¬ k = 0 := by omega
                simp only [hk0', if_false] at hk0 ⊢
                by_cases j0 : j = 0
                · subst j0
                  simp only [if_true] at hj0 ⊢
                  obtain ⟨g', e1, h1, h2, h3⟩ := row k (by omega) hk
                  rcases hold8 hj0 with e | ⟨g2, e, he⟩
                  · rw [e, ← E0.out]
                    exact L7.out.dis 0 k (by omega) hk
                  · rw [e, e1]
                    intro q
                    injection q with q
                    injection q with q
                    omega
                · simp only [j0, if_false]
                  exact L7.out.dis j k hjk hk)
            have HM := Lib.hid (fun j (hj : j < i) => (show (if j = 0 then m8 else M j) ≤ 6 from by
              by_cases j0 : j = 0
              · rw [if_pos j0]; exact hm6
              · rw [if_neg j0]; have := L7.out.bd j hj; omega))
            clear hV8 hrow8 hold8 s8 hT8
            go_wp2
            go_ret
            exact ⟨_, i, d, _, _, _, rfl, by omega, hd1, hd2, HM.out, HR.out, S8.out.mono (by omega), K8.out⟩
        · have hi0' : i = 0 := by omega
          subst hi0'
          have hl00 : l = 0 := by omega
          subst hl00
          clear hB
          go_wp2
          go_ret
          exact ⟨_, 0, d, fun _ => 0, fun _ _ => 0, fun _ => 0, rfl, by omega, hd1, hd2, fun j hj => absurd hj (by omega), fun h => absurd h (by omega), HSr.out.mono (by omega), HK.out⟩
end Go.Proofs.Ytcpaenmhnoagdac.src
