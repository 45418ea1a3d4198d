/-
  What the laws draw for two lists of beds that are nearly equal.
-/
import Derived.Test.YtcpaenmhnoagdacOwnA
import Derived.Test.YtcpaenmhnoagdacDrawF
import Derived.Deep.RegionHeld3
import Derived.Deep.AppendLies
namespace Go.Proofs.Ytcpaenmhnoagdac.src
open Go.ChangeShapes Go.WideShapes Go.ChangeAt Go.RowKit Go.Proofs.Ytcpaenmhnoagdac.mem
set_option linter.unusedVariables false

/-- two lists of beds -/
def TwoBeds (w : World) (e : Ending) (w' : World) : Prop :=
  ∃ (P : Option Addr) (l d : Nat) (M : Nat → Nat) (Y : Nat → Nat → Int) (G : Nat → Int) (Q : Option Addr) (l2 d2 : Nat) (N : Nat → Nat) (Z : Nat → Nat → Int) (H : Nat → Int), e = .returned (.tuple #[.slice P l d, .slice Q l2 d2]) ∧ l ≤ 9 ∧ l2 ≤ 10 ∧ (∀ j, j < l → M j ≤ 6) ∧ (∀ j, j < l2 → N j ≤ 7) ∧ rod.Beds w' P l M Y G ∧ rod.Beds w' Q l2 N Z H ∧ Below w.heap.size w w'
def Hd (i : Nat) (M M' : Nat → Nat) (Y Y' : Nat → Nat → Int) (G G' : Nat → Int) : Prop := ∀ j, j < i → M j = M' j

set_option maxHeartbeats 8000000 in
set_option maxRecDepth 100000 in
theorem twoBeds_c (A : Option Addr) (n c : Nat) (X : Nat → Int) (w : World) (hn : n ≤ 4096) (hx : Sb w A n X) :
    Calls Try.prog 23 #[.slice A n c] w (TwoBeds w) := by
  have HX := Lib.hid hx
  have HA := Lib.hid (hx.low (Nat.le_refl w.heap.size))
  have HF := Lib.hid (from_c A n c w)
  clear hx
  obtain ⟨i0, hi0, hz0, hz1, hz2⟩ := info_parts rod.info_bed
  obtain ⟨k0, hk0, hy0, hy1, hy2⟩ := info_parts nums.info_num
  go_enter Try.func23, Try.ntmps23
  go_wp2_with fail
  refine HF.out.mono ?_
  rintro e w1 ⟨rfl, s1, hb1⟩
  have B1 := Lib.hid hb1
  have z1 := s1.lt
  have S1 := Lib.hid s1
  clear s1 hb1 HF
  go_wp2_with fail
  refine (beds_c w.heap.size A n c X 0 w1 hn (by omega) HA.out S1.out (HX.out.below B1.out (Nat.le_refl _))).mono ?_
  rintro e w2 ⟨P, l, d, M, Y, G, rfl, hl9, hld, hdm, hM, hrow, s2, hk2⟩
  have z2 := hk2.size
  have S2 := Lib.hid s2
  have B2 := Lib.hid (B1.out.trans ((hk2.mono (M := w.heap.size) (by omega)).below (Nat.le_refl _)))
  have R2 := Lib.hid hrow
  have HM := Lib.hid hM
  have C2 := Lib.hid (Cop.new w2 (fun _ => none) (fun _ => 0) (fun _ => 0) (fun _ _ => 0) (fun _ => 0))
  clear s2 hk2 hrow hM
  go_wp2_with fail
  go_loopw [7, 6] (fun s v wr => ∃ (i d' : Nat) (Q : Option Addr) (P' : Nat → Option Addr) (N C : Nat → Nat) (Z : Nat → Nat → Int) (H : Nat → Int), i ≤ l ∧ s = .int .i64 i ∧ v = .slice Q i d' ∧ Cop wr w2.heap.size (.slice Q i d') i P' N C Z H ∧ (∀ j, j < i → N j ≤ 6) ∧ Below w2.heap.size w2 wr) (fun s _ _ => l - (intOf s).toNat)
  case atStart => exact ⟨0, 0, _, _, _, _, _, _, by omega, rfl, rfl, C2.out, fun j hj => absurd hj (by omega), by go_grown⟩
  case round =>
    obtain ⟨i, d', Q, P', N, C, Z, H, hi, rfl, rfl, hcop, hN, hbl⟩ := hrel
    have hzz := hbl.size
    have HB := Lib.hid hbl
    have HC := Lib.hid hcop
    have HN := Lib.hid hN
    clear hcop hN
    by_cases hlt : i < l
    · have hlt' : (i : Int) < (l : Int) := by omega
      have hii0 : (0 : Int) ≤ (i : Int) := by omega
      have hm6 := HM.out i hlt
      have hbd := R2.out.beds
      obtain ⟨b, o, rfl, hb, hXc⟩ := hbd (by omega)
      obtain ⟨⟨P0, C0, p0, hp⟩, p1⟩ := hXc i hlt
      replace p0 := (hbl.cell (p := ⟨b, o + i * 2, none⟩) hb).trans p0
      replace p1 := (hbl.cell (p := ⟨b, o + i * 2 + 1, none⟩) hb).trans p1
      have hbw : b < wr.heap.size := by omega
      have HOWN := Lib.hid (fun (W : World) (hW : Below wr.heap.size wr W) => own_any P0 (M i) C0 (Y i) W (by omega) ((hp.below hbl (Nat.le_refl _)).below hW (by omega)))
      have hl1 : i + 1 ≤ maxLen := by unfold maxLen; omega
      have hl2 : (i + 1) * 32 ≤ 140737488355328 := by omega
      clear hXc hp hbl hbd
      go_wp2_with fail
      go_region_held3 (fun x => x.cell? ⟨b, o + i * 2, none⟩ = some (.slice P0 (M i) C0) ∧ x.cell? ⟨b, o + i * 2 + 1, none⟩ = some (.int .i64 (G i))) (first | exact ⟨p0, p1⟩ | go_keep)
        (first
          | (go_at_call 75; refine (HOWN.out _ (by go_grown)).mono ?_; rintro e w3 ⟨A1, c1, rfl, k1, k2, hr, hb3⟩
             have g3 : Below wr.heap.size wr w3 := Below.trans (by go_grown) (hb3.mono (by simp))
             replace p0 := (g3.cell (p := ⟨b, o + i * 2, none⟩) hbw).trans p0
             replace p1 := (g3.cell (p := ⟨b, o + i * 2 + 1, none⟩) hbw).trans p1
             have C3 := Lib.hid (HC.out.keep (w' := w3) fun k hk _ => g3.block k hk)
             have RR3 := Lib.hid hr
             have G3 := Lib.hid g3
             clear hb3 hr g3)
          | (refine step_append_lies _ (by rfl) _ _ _ (by rfl) w2.heap.size 26 i0 _ 2 32 Try.underlying32 hi0 hz0 hz1 hz2 rfl (by omega) _ i _ (by rfl) ((C3.out.owns.alloc _).drew) ⟨w3.heap.size, 0, none⟩ 1 1 [.slice A1 (M i) c1, .int .i64 (G i)] (by rfl) (by rfl) (World.news_of_block (cs := #[.slice A1 (M i) c1, .int .i64 (G i)]) (t := 26) (fr := (0, 0)) (heap_alloc_new w3 _)) (by simp [Value.oneCell'])
               (by omega) hl1 hl2 (by simp; have := G3.out.size; omega) (w3.heap.size + 1) (by simp) ?_; intro gg cap w5 hown5 hgrow5 hat5 hlt5
             have q5 : ∀ k, k < w3.heap.size → (Value.slice Q i d').ownBlock ≠ some k → w5.heap[k]? = w3.heap[k]? := fun k hk hne => (hgrow5.block k (by simp; omega) (fun e => hne e.symm)).trans (Go.Deep.blk_alloc_lt _ _ _ hk)
             have qb := q5 b (by have := G3.out.size; omega) (fun e => by have := owns_ge C3.out.owns b e; omega)
             replace p0 := (World.cell?_of_block (a := ⟨b, o + i * 2, none⟩) qb).trans p0
             replace p1 := (World.cell?_of_block (a := ⟨b, o + i * 2 + 1, none⟩) qb).trans p1
             have C5 := Lib.hid (HC.out.add (w5 := w5) hzz G3.out RR3.out hown5 q5)
             have B5 := Lib.hid (show Below w2.heap.size w2 w5 from (HB.out.trans (G3.out.mono hzz)).trans (Below.grown (B := w2.heap.size) (Below.alloc (Below.refl _ _) (by have := G3.out.size; omega) _) hgrow5 (by simp; have := G3.out.size; omega) (owns_ge C3.out.owns)))
             clear hown5 hgrow5 hat5 hlt5 q5 qb))
      go_wp2
      go_roundw
      case rel => exact ⟨i + 1, cap, some ⟨gg, 0, none⟩, _, _, _, _, _, by omega, by go_num, rfl, C5.out, fun j hj => (by
        by_cases e : j = i
        · subst e; simp only [if_true]; exact hm6
        · simp only [if_neg e]; exact HN.out j (by omega)), B5.out⟩
      case measure => simp [intOf]; omega
    · obtain rfl : i = l := by omega
      have z3 := hbl.size
      have S3 := Lib.hid (S2.out.below hbl (by omega))
      have X3 := Lib.hid ((HX.out.below B2.out (Nat.le_refl _)).below hbl (by have := B2.out.size; omega))
      have R3 := Lib.hid (R2.out.below (K := w2.heap.size) hbl (Nat.le_refl _))
      clear hbl
      go_wp2_with fail
      refine (pick_c w.heap.size A n c X (0 + 140) 4 3 wr hn (by omega) (by omega) (by omega) HA.out S3.out X3.out).mono ?_
      rintro e w4 ⟨q, rfl, q0, q1, s4, hw4⟩
      have z4 := hw4.size
      have C4 := Lib.hid (HC.out.keep (w' := w4) fun k hk hk2 => hw4.block k hk (by omega))
      have R4 := Lib.hid (R3.out.wrote hw4 (.inr (by omega)))
      have B4 := Lib.hid ((B2.out.trans (HB.out.mono (by omega))).trans (hw4.below (B := w.heap.size) (by omega) (Nat.le_refl _)))
      have R5 := Lib.hid (fun (W : World) (hW : Below w2.heap.size w4 W) => (R4.out.below (K := w2.heap.size) hW (Nat.le_refl _)).beds)
      clear s4 hw4
      have h4 : q = 0 ∨ q = 1 ∨ q = 2 ∨ q = 3 := by omega
      rcases h4 with rfl | rfl | rfl | rfl
      · have hl1 : i + 1 ≤ maxLen := by unfold maxLen; omega
        have hl2 : (i + 1) * 32 ≤ 140737488355328 := by omega
        go_wp2_with (at_builtin; refine wpList_append_own _ rfl _ _ 32 rfl w2.heap.size 26 i0 _ 2 32 Try.underlying32 hi0 hz0 hz1 hz2 rfl (by decide) _ _ _ rfl (C4.out.owns.alloc _) ⟨w4.heap.size, 0, none⟩ 1 1 [.slice none 0 0, .int .i64 0] rfl rfl ?c1 ?c2 hl1 hl2 ?c5 ?_)
        case c1 => intro j y hj; rcases j with _ | _ | j <;> simp at hj <;> subst hj <;> go_simp
        case c2 => intro y hy; simp at hy; rcases hy with rfl | rfl <;> rfl
        case c5 => simp; omega
        intro v' w6 hown6 hgrow6 _
        have q6 : ∀ k, k < w4.heap.size → (Value.slice Q i d').ownBlock ≠ some k → w6.heap[k]? = w4.heap[k]? := fun k hk hne => (hgrow6.block k (by simp; omega) (fun e => hne e.symm)).trans (Go.Deep.blk_alloc_lt _ _ _ hk)
        have C6 := Lib.hid (C4.out.add (w5 := w6) (wx := w4) (by omega) (Below.refl _ _) (show w4.ownsRow w4.heap.size 2 1 (.slice none 0 0) 0 (iC (fun _ => 0) 0) from ⟨by simp [iC], .inl ⟨rfl, rfl⟩⟩) hown6 q6)
        have B6 := Lib.hid (show Below w2.heap.size w4 w6 from (Below.grown (B := w2.heap.size) (Below.alloc (Below.refl _ _) (by omega) _) hgrow6 (by simp; omega) (owns_ge C4.out.owns)))
        obtain ⟨Q6, d6, rfl, _, _, _⟩ := ownV_of_owns C6.out.owns
        clear hown6 hgrow6 q6
        go_wp2
        go_ret2
        exact ⟨P, i, d, M, Y, G, Q6, i + 1, d6, _, _, _, rfl, hl9, by omega, HM.out, fun j hj => (by
          by_cases e : j = i
          · simp only [if_pos e]; omega
          · simp only [if_neg e]; have := HN.out j (by omega); omega), R5.out _ B6.out, C6.out.beds, B4.out.trans (B6.out.mono (by omega))⟩
      · by_cases h0 : 0 < i
        · have h0' : (0 : Int) < (i : Int) := by omega
          obtain ⟨g, rfl, hg, ho⟩ := C4.out.block h0
          have c1 := ho.cell (j := 1) (by omega)
          have f1 := ho.frozen 1
          have HO := Lib.hid ho
          rw [show rod.bedV P' N C H 1 = .int .i64 (H 0) from rfl] at c1
          clear ho
          go_wp2
          go_ret2
          exact ⟨P, i, d, M, Y, G, some ⟨g, 0, none⟩, i, d', _, _, _, rfl, hl9, by omega, HM.out, fun j hj => (by have := HN.out j hj; omega), R5.out _ (Below.setCell (Below.refl _ _) (p := ⟨g, 1, none⟩) hg _), C4.out.age HO.out _, Below.setCell B4.out (p := ⟨g, 1, none⟩) (by show w.heap.size ≤ g; omega) _⟩
        · obtain rfl : i = 0 := by omega
          go_wp2
          go_ret2
          exact ⟨P, 0, d, M, Y, G, Q, 0, d', _, _, _, rfl, hl9, by omega, HM.out, fun j hj => absurd hj (by omega), R5.out _ (Below.refl _ _), C4.out.beds, B4.out⟩
      · by_cases h0 : 0 < i
        · have h0' : (0 : Int) < (i : Int) := by omega
          obtain ⟨g, rfl, hg, ho⟩ := C4.out.block h0
          have c0 := ho.cell (j := 0) (by omega)
          have HO := Lib.hid ho
          have hglt := ho.lt
          rw [show rod.bedV P' N C H 0 = .slice (P' 0) (N 0) (C 0) from rfl] at c0
          have hm0 := HN.out 0 h0
          have hl1 : N 0 + 1 ≤ maxLen := by unfold maxLen; omega
          have hl2 : (N 0 + 1) * 8 ≤ 140737488355328 := by omega
          have c0A : ∀ X, (w4.alloc X).cell? ⟨g, 0, none⟩ = some (.slice (P' 0) (N 0) (C 0)) := fun X => ((Below.alloc (Below.refl w4.heap.size w4) (Nat.le_refl _) X).cell (p := ⟨g, 0, none⟩) hglt).trans c0
          clear ho
          go_wp2_with (at_builtin; refine wpList_append_own _ rfl _ _ 24 rfl w2.heap.size 2 k0 _ 1 8 Try.underlying24 hk0 hy0 hy1 hy2 rfl (by decide) _ _ _ rfl ((C4.out.row 0 h0).alloc _) ⟨w4.heap.size, 0, none⟩ 1 1 [.int .i64 5] rfl rfl ?d1 ?d2 hl1 hl2 ?d5 ?_)
          case d1 => intro j y hj; rcases j with _ | j <;> simp at hj <;> subst hj <;> go_simp
          case d2 => intro y hy; simp at hy; subst hy; rfl
          case d5 => simp; omega
          intro v' w6 hown6 hgrow6 _
          have h6 : w6.ownsRow w2.heap.size 2 1 v' (N 0 + 1) (iC (snoc (Z 0) (N 0) 5) (N 0 + 1)) := by rw [iC_snoc]; exact hown6
          obtain ⟨A6, d6, rfl, _, _, _⟩ := own_of_owns h6
          have hmore := C4.out.more h0 HO.out hown6 hgrow6
          have f0 := hmore.1.frozen 0
          have MB := Lib.hid hmore.2
          have B6 := Lib.hid (show Below w2.heap.size w4 w6 from (Below.grown (B := w2.heap.size) (Below.alloc (Below.refl _ _) (by omega) _) hgrow6 (by simp; omega) (owns_ge (C4.out.row 0 h0))))
          have c6 := hmore.1.cell (j := 0) (by omega)
          clear hown6 hgrow6 h6 hmore c0 c0A
          go_wp2
          go_ret2
          exact ⟨P, i, d, M, Y, G, some ⟨g, 0, none⟩, i, d', _, _, _, rfl, hl9, by omega, HM.out, fun j hj => (by
            by_cases e : j = 0
            · simp only [if_pos e]; omega
            · simp only [if_neg e]; have := HN.out j hj; omega), R5.out _ (Below.setCell B6.out (p := ⟨g, 0, none⟩) hg _), MB.out, Below.setCell (B4.out.trans (B6.out.mono (by omega))) (p := ⟨g, 0, none⟩) (by show w.heap.size ≤ g; omega) _⟩
        · obtain rfl : i = 0 := by omega
          go_wp2
          go_ret2
          exact ⟨P, 0, d, M, Y, G, Q, 0, d', _, _, _, rfl, hl9, by omega, HM.out, fun j hj => absurd hj (by omega), R5.out _ (Below.refl _ _), C4.out.beds, B4.out⟩
      · go_wp2
        go_ret2
        exact ⟨P, i, d, M, Y, G, Q, i, d', _, _, _, rfl, hl9, by omega, HM.out, fun j hj => (by have := HN.out j hj; omega), R5.out _ (Below.refl _ _), C4.out.beds, B4.out⟩
end Go.Proofs.Ytcpaenmhnoagdac.src
