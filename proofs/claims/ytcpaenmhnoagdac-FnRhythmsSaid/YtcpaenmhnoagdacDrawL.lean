/-
  The laws' own lists: some numbers, some beds.
-/
import Derived.Test.YtcpaenmhnoagdacAnyB
namespace Go.Proofs.Ytcpaenmhnoagdac.src
open Go.ChangeShapes Go.WideShapes Go.ChangeAt Go.RowKit Go.Proofs.Ytcpaenmhnoagdac.mem
set_option linter.unusedVariables false

set_option maxHeartbeats 8000000 in
set_option maxRecDepth 100000 in
theorem some_c (b : Nat) (A : Option Addr) (n c : Nat) (X : Nat → Int) (K N : Int) (w : World) (hn : n ≤ 4096) (hK : K ≤ 700000000) (N0 : -1 ≤ N) (N1 : N ≤ 14) (hA : 0 < n → ∀ x o, A = some ⟨x, o, none⟩ → x < b) (hs : Src w b A n c K) (hx : Sb w A n X) :
    Calls Try.prog 59 #[.pointer (some ⟨b, 0, none⟩), .int .i64 N] w fun e w' => ∃ (P : Option Addr) (l d : Nat) (C : Nat → Int), e = .returned (.slice P l d) ∧ l ≤ 15 ∧ l ≤ d ∧ d ≤ maxLen ∧ Row w' w.heap.size w'.heap.size P l 1 2 C ∧ Src w' b A n c (K + 34) ∧ Kept w.heap.size b w w' := by
  have hlt := hs.lt
  have S0 := Lib.hid (show Src (w.alloc (.cells #[] 2)) b A n c K from hs.of_block (Go.Deep.blk_alloc_lt _ _ _ hlt) (by simp))
  have KEY := Lib.hid (fun (J m h : Int) (wr : World) (h1 : J ≤ 900000000) (h2 : m - 1 ≤ h) (h3 : 0 ≤ h) (h4 : Src wr b A n c J) (h5 : Kept w.heap.size b w wr) => one_c b A n c X J m h wr hn h1 h2 h3 hA h4 (hx.kept h5 hA (by omega)))
  have HX := Lib.hid hx
  have HA := Lib.hid hA
  obtain ⟨i0, hi0, hz0, hz1, hz2⟩ := info_parts nums.info_num
  clear hs hx hA
  go_enter Try.func59, Try.ntmps59
  go_wp2_with fail
  go_loopw [6, 5] (fun s u wr => ∃ (k i : Nat) (P : Option Addr) (d : Nat) (C : Nat → Int), s = .int .i64 k ∧ u = .slice P i d ∧ i ≤ k ∧ ((k : Int) ≤ N ∨ k = 0) ∧ wr.ownsRow w.heap.size 2 1 (.slice P i d) i (iC C i) ∧ Src wr b A n c (K + 2 * k) ∧ Kept w.heap.size b w wr) (fun s _ _ => 14 - (intOf s).toNat)
  case atStart => exact ⟨0, 0, _, _, fun _ => 0, rfl, rfl, by omega, .inr rfl, owns_new0 w 2 1 w.heap.size (Nat.le_refl _), S0.out.mono (by omega), (Kept.refl _ _ _).alloc (Nat.le_refl _) _⟩
  case round =>
    obtain ⟨k, i, P, d, C, rfl, rfl, hik, hkN, ho, hs, hk⟩ := hrel
    have zk := hk.size
    have HO := Lib.hid ho
    have HSr := Lib.hid hs
    have HK := Lib.hid hk
    clear ho hs hk
    have hk14 : k ≤ 14 := by omega
    by_cases hlk : (k : Int) < N
    · go_wp2_with fail
      refine (KEY.out (K + 2 * k) 2 1 _ (by omega) (by omega) (by omega) HSr.out HK.out).mono ?_
      rintro e w2 ⟨r, rfl, s2, hw2⟩
      have S2 := Lib.hid s2
      have O2 := Lib.hid (owns_wrote1 HO.out hw2 hlt)
      have K2 := Lib.hid (HK.out.wrote hw2 (Nat.le_refl _))
      have z2 := hw2.size
      clear s2 hw2
      cases r
      · go_wp2
        go_roundw
        case rel => exact ⟨k + 1, i, P, d, C, by go_num, rfl, by omega, .inl (by omega), O2.out, S2.out.mono (by omega), K2.out⟩
        case measure => simp [intOf]; omega
      · have hl1 : i + 1 ≤ maxLen := by unfold maxLen; omega
        have hl2 : (i + 1) * 8 ≤ 140737488355328 := by omega
        go_wp2_with (at_builtin; refine wpList_append_own _ rfl _ _ 24 rfl w.heap.size 2 i0 _ 1 8 Try.underlying24 hi0 hz0 hz1 hz2 rfl (by decide) _ _ _ rfl (O2.out.alloc _) ⟨w2.heap.size, 0, none⟩ 1 1 [.int .i64 k] rfl rfl ?c1 ?c2 hl1 hl2 ?c5 ?_)
        case c1 => intro j y hj; rcases j with _ | j <;> simp at hj <;> subst hj <;> go_simp
        case c2 => intro y hy; simp at hy; subst hy; rfl
        case c5 => simp; omega
        intro v' w6 hown6 hgrow6 _
        have h6 : w6.ownsRow w.heap.size 2 1 v' (i + 1) (iC (snoc C i k) (i + 1)) := by rw [iC_snoc]; exact hown6
        obtain ⟨P6, d6, rfl, _, _, _⟩ := own_of_owns h6
        have S6 := Lib.hid ((S2.out.of_block (Go.Deep.blk_alloc_lt _ _ _ (by omega)) (by simp)).of_block (hgrow6.block b (by simp; omega) (fun e => by have := owns_ge O2.out b e.symm; omega)) hgrow6.size)
        have K6 := Lib.hid ((K2.out.alloc (Nat.le_refl _) _).grown (Nat.le_refl _) hgrow6 (owns_ge O2.out))
        have O6 := Lib.hid h6
        clear hown6 hgrow6 h6
        go_wp2
        go_roundw
        case rel => exact ⟨k + 1, i + 1, P6, d6, _, by go_num, rfl, by omega, .inl (by omega), O6.out, S6.out.mono (by omega), K6.out⟩
        case measure => simp [intOf]; omega
    · go_wp2_with fail
      refine (KEY.out (K + 2 * k) 12 11 _ (by omega) (by omega) (by omega) HSr.out HK.out).mono ?_
      rintro e w2 ⟨r, rfl, s2, hw2⟩
      have S2 := Lib.hid s2
      have O2 := Lib.hid (owns_wrote1 HO.out hw2 hlt)
      have K2 := Lib.hid (HK.out.wrote hw2 (Nat.le_refl _))
      have z2 := hw2.size
      clear s2 hw2
      cases r
      · obtain ⟨P', d', e', hd1, hd2, hrow⟩ := own_of_owns O2.out
        cases e'
        have HR := Lib.hid hrow
        clear hrow
        go_wp2
        go_ret
        exact ⟨P, i, d, C, rfl, by omega, hd1, hd2, HR.out, S2.out.mono (by omega), K2.out⟩
      · go_wp2_with fail
        refine (among_c b A n c X (K + 2 * k + 2) w2.heap.size 3 3 (fun j => ([-1, 0, N] : List Int).getD j 0) _ hn (by omega) HA.out (S2.out.of_block (Go.Deep.blk_alloc_lt _ _ _ S2.out.lt) (by simp)) ((HX.out.kept K2.out HA.out (by omega)).below (K := w2.heap.size) (by go_grown) (Nat.le_refl _)) (by omega) (by omega) (by omega) (by simp) (ints_lit [-1, 0, N] _ _)).mono ?_
        rintro e w3 ⟨j, hj, rfl, s3, hw3⟩
        obtain ⟨y, hy⟩ : ∃ y, (fun j => ([-1, 0, N] : List Int).getD j 0) j = y := ⟨_, rfl⟩
        rw [hy]
        have S3 := Lib.hid s3
        have O3 := Lib.hid (owns_wrote1 (O2.out.alloc _) hw3 hlt)
        have K3 := Lib.hid ((K2.out.alloc (Nat.le_refl _) _).wrote hw3 (Nat.le_refl _))
        have z3 := hw3.size
        simp at z3
        have hl1 : i + 1 ≤ maxLen := by unfold maxLen; omega
        have hl2 : (i + 1) * 8 ≤ 140737488355328 := by omega
        clear s3 hw3 hy
        go_wp2_with (at_builtin; refine wpList_append_own _ rfl _ _ 24 rfl w.heap.size 2 i0 _ 1 8 Try.underlying24 hi0 hz0 hz1 hz2 rfl (by decide) _ _ _ rfl (O3.out.alloc _) ⟨w3.heap.size, 0, none⟩ 1 1 [.int .i64 y] rfl rfl ?c1 ?c2 hl1 hl2 ?c5 ?_)
        case c1 => intro j y hj; rcases j with _ | j <;> simp at hj <;> subst hj <;> go_simp
        case c2 => intro y hy; simp at hy; subst hy; rfl
        case c5 => simp; omega
        intro v' w6 hown6 hgrow6 _
        have h6 : w6.ownsRow w.heap.size 2 1 v' (i + 1) (iC (snoc C i y) (i + 1)) := by rw [iC_snoc]; exact hown6
        obtain ⟨P6, d6, rfl, hd1, hd2, hrow⟩ := own_of_owns h6
        have S6 := Lib.hid ((S3.out.of_block (Go.Deep.blk_alloc_lt _ _ _ (by omega)) (by simp)).of_block (hgrow6.block b (by simp; omega) (fun e => by have := owns_ge O3.out b e.symm; omega)) hgrow6.size)
        have K6 := Lib.hid ((K3.out.alloc (Nat.le_refl _) _).grown (Nat.le_refl _) hgrow6 (owns_ge O3.out))
        have HR := Lib.hid hrow
        clear hown6 hgrow6 h6 hrow
        go_wp2
        go_ret
        exact ⟨P6, i + 1, d6, _, rfl, by omega, hd1, hd2, HR.out, S6.out.mono (by omega), K6.out⟩

/-- a list of beds grows -/
structure Listing (w wr : World) (i : Nat) (v : Value) (P : Nat → Option Addr) (M C : Nat → Nat) (Y : Nat → Nat → Int) (G : Nat → Int) : Prop where
  owns : wr.ownsRow w.heap.size 26 2 v i ((List.range (i * 2)).map (rod.bedV P M C G))
  row : ∀ j, j < i → ∃ g, P j = some ⟨g, 0, none⟩ ∧ w.heap.size ≤ g ∧ mem.Own wr g 2 (M j) (Y j)
  dis : ∀ j k, j < k → k < i → P j ≠ P k
  bd : ∀ j, j < i → 1 ≤ M j ∧ M j ≤ 4 ∧ M j ≤ C j ∧ C j ≤ maxLen
theorem Listing.keep {w wr wr' : World} {i : Nat} {v : Value} {P : Nat → Option Addr} {M C : Nat → Nat} {Y : Nat → Nat → Int} {G : Nat → Int} (h : Listing w wr i v P M C Y G) (hk : ∀ k, k < wr.heap.size → w.heap.size ≤ k → wr'.heap[k]? = wr.heap[k]?) : Listing w wr' i v P M C Y G :=
  ⟨owns_of_block h.owns fun g e hg => hk g hg (owns_ge h.owns g e), fun j hj => by
    obtain ⟨g, e, h1, h2⟩ := h.row j hj
    exact ⟨g, e, h1, h2.of_block (hk g h2.lt h1)⟩, h.dis, h.bd⟩
theorem bedV_new {P : Nat → Option Addr} {M C : Nat → Nat} {G : Nat → Int} {i x : Nat} {A : Option Addr} {m d : Nat} {a : Int} (h : x < i * 2) : rod.bedV (fun j => if j = i then A else P j) (fun j => if j = i then m else M j) (fun j => if j = i then d else C j) (fun j => if j = i then a else G j) x = rod.bedV P M C G x := by
  unfold rod.bedV
  have e : ¬ x / 2 = i := by omega
  simp only [e, if_false]
theorem list_new {P : Nat → Option Addr} {M C : Nat → Nat} {G : Nat → Int} {i : Nat} {A : Option Addr} {m d : Nat} {a : Int} : (List.range ((i + 1) * 2)).map (rod.bedV (fun j => if j = i then A else P j) (fun j => if j = i then m else M j) (fun j => if j = i then d else C j) (fun j => if j = i then a else G j)) = (List.range (i * 2)).map (rod.bedV P M C G) ++ [.slice A m d, .int .i64 a] := by
  rw [show (i + 1) * 2 = i * 2 + 1 + 1 by omega, range_snoc, range_snoc, List.append_assoc]
  congr 1
  · exact List.map_congr_left fun x hx => bedV_new (List.mem_range.1 hx)
  · rw [rod.bedV_0, rod.bedV_1]
    simp
theorem Listing.add {w wr w6 : World} {i g m d : Nat} {v v' : Value} {P : Nat → Option Addr} {M C : Nat → Nat} {Y : Nat → Nat → Int} {G : Nat → Int} {Z : Nat → Int} {a : Int} {row : Option Nat} (h : Listing w wr i v P M C Y G) (hg : ∀ j g', j < i → P j = some ⟨g', 0, none⟩ → g' < g) (hgw : w.heap.size ≤ g) (hO : mem.Own wr g 2 m Z) (m1 : 1 ≤ m) (m4 : m ≤ 4) (md : m ≤ d) (dm : d ≤ maxLen)
    (hown : w6.ownsRow w.heap.size 26 2 v' (i + 1) ((List.range (i * 2)).map (rod.bedV P M C G) ++ [.slice (some ⟨g, 0, none⟩) m d, .int .i64 a])) (hk : ∀ k, k < wr.heap.size → v.ownBlock ≠ some k → w6.heap[k]? = wr.heap[k]?) :
    Listing w w6 (i + 1) v' (fun j => if j = i then some ⟨g, 0, none⟩ else P j) (fun j => if j = i then m else M j) (fun j => if j = i then d else C j) (fun j => if j = i then Z else Y j) (fun j => if j = i then a else G j) := by
  have keep : ∀ g' m' Z', mem.Own wr g' 2 m' Z' → mem.Own w6 g' 2 m' Z' := fun g' m' Z' ho => by
    have ho' := ho
    obtain ⟨cs, hh, _, _⟩ := ho
    exact ho'.of_block (hk g' ho'.lt (owns_ne h.owns hh (by decide)))
  refine ⟨by rw [list_new]; exact hown, fun j hj => ?_, fun j k hjk hk1 => ?_, fun j hj => ?_⟩
  · by_cases e : j = i
    · subst e; simp only [if_true]; exact ⟨g, rfl, hgw, keep _ _ _ hO⟩
    · simp only [if_neg e]
      obtain ⟨g', e1, e2, e3⟩ := h.row j (by omega)
      exact ⟨g', e1, e2, keep _ _ _ e3⟩
  · show (if j = i then _ else _) ≠ (if k = i then _ else _)
    rw [if_neg (by omega)]
    by_cases e : k = i
    · rw [if_pos e]
      obtain ⟨g', e1, e2, e3⟩ := h.row j (by omega)
      have := hg j g' (by omega) e1
      rw [e1]
      intro q
      injection q with q
      injection q with q
      omega
    · rw [if_neg e]
      exact h.dis j k hjk (by omega)
  · show 1 ≤ (if j = i then m else M j) ∧ (if j = i then m else M j) ≤ 4 ∧ (if j = i then m else M j) ≤ (if j = i then d else C j) ∧ (if j = i then d else C j) ≤ maxLen
    by_cases e : j = i
    · simp only [if_pos e]; exact ⟨m1, m4, md, dm⟩
    · simp only [if_neg e]; exact h.bd j (by omega)
end Go.Proofs.Ytcpaenmhnoagdac.src
