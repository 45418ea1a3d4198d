/-
  Lists of beds in memory: two cells a bed, a slice of numbers and an age. Contracts of the laws' helpers on them.
-/
import Derived.Test.YtcpaenmhnoagdabYieldNow
import Derived.Test.YtcpaenmhnoagdabOwnV
namespace Go.Proofs.Ytcpaenmhnoagdab.rod
open Go.ChangeShapes Go.WideShapes Go.ChangeAt Go.RowKit Go.Proofs.Ytcpaenmhnoagdab.mem Go.Proofs.Ytcpaenmhnoagdab.nums
set_option linter.unusedVariables false

/-- a slice value of n beds, nil or not: the j-th has M j numbers, told by Y j, and the age G j -/
def Beds (w : World) (A : Option Addr) (n : Nat) (M : Nat → Nat) (Y : Nat → Nat → Int) (G : Nat → Int) : Prop :=
  0 < n → ∃ b o, A = some ⟨b, o, none⟩ ∧ b < w.heap.size ∧ ∀ j, j < n → BedAt w b (o + j * 2) (M j) (Y j) (G j)
section
variable {w w' : World} {A : Option Addr} {n lo hi : Nat} {M : Nat → Nat} {Y : Nat → Nat → Int} {G : Nat → Int}
theorem Beds.below (h : Beds w A n M Y G) (hb : Below w.heap.size w w') : Beds w' A n M Y G := fun hn => by
  obtain ⟨b, o, e, h1, h2⟩ := h hn
  have := hb.size
  exact ⟨b, o, e, by omega, fun j hj => (h2 j hj).below hb h1⟩
theorem Beds.drew (d : Drew w w') (h : Beds w A n M Y G) : Beds w' A n M Y G := by obtain ⟨k, rfl⟩ := d; exact h
theorem Beds.none_ : Beds w A 0 M Y G := fun h => absurd h (by omega)

/-- the cells of a row of beds -/
def bedV (P : Nat → Option Addr) (M C : Nat → Nat) (G : Nat → Int) (i : Nat) : Value := if i % 2 = 0 then .slice (P (i / 2)) (M (i / 2)) (C (i / 2)) else .int .i64 (G (i / 2))
theorem bedV_0 {P : Nat → Option Addr} {C : Nat → Nat} (k : Nat) : bedV P M C G (k * 2) = .slice (P k) (M k) (C k) := by
  unfold bedV; rw [if_pos (by omega), show k * 2 / 2 = k by omega]
theorem bedV_1 {P : Nat → Option Addr} {C : Nat → Nat} (k : Nat) : bedV P M C G (k * 2 + 1) = .int .i64 (G k) := by
  unfold bedV; rw [if_neg (by omega), show (k * 2 + 1) / 2 = k by omega]

theorem bedV_upd {P : Nat → Option Addr} {C : Nat → Nat} {i k c : Nat} {A : Option Addr} (h : i < k * 2) : bedV P M C G i = bedV (fun j => if j = k then A else P j) M (fun j => if j = k then c else C j) G i := by
  unfold bedV
  have : i / 2 ≠ k := by omega
  simp only [if_neg this]

/-- no two of the rows of numbers are one -/
def Dis (n : Nat) (M : Nat → Nat) (P : Nat → Option Addr) : Prop := ∀ i j, i < j → j < n → 0 < M i → 0 < M j → P i ≠ P j
theorem Dis.of_old {k : Nat} {P : Nat → Option Addr} {A : Option Addr} {w w' : World} {lo mi hi : Nat} {Z : Nat → Int} (h : Dis k M P) (hr : ∀ j, j < k → Row w lo mi (P j) (M j) 1 2 (Y j)) (hn : Row w' mi hi A (M k) 1 2 Z) : Dis (k + 1) M (fun j => if j = k then A else P j) := by
  intro i j hij hj hi0 hj0
  have e1 : ¬ i = k := by omega
  show (if i = k then A else P i) ≠ (if j = k then A else P j)
  rw [if_neg e1]
  by_cases e : j = k
  · subst e
    rw [if_pos rfl]
    obtain ⟨g, e2, _, h3, _⟩ := hr i (by omega) hi0
    obtain ⟨g', e4, h5, _, _⟩ := hn hj0
    rw [e2, e4]
    intro e
    injection e with e
    injection e with e
    omega
  · rw [if_neg e]
    exact h i j hij (by omega) hi0 hj0

/-- a slice value of the call's own: n beds in a block of its own from lo to less than hi, each with numbers of its own there -/
def RowBs (w : World) (lo hi : Nat) (A : Option Addr) (n : Nat) (M : Nat → Nat) (Y : Nat → Nat → Int) (G : Nat → Int) : Prop :=
  0 < n → ∃ g P C, A = some ⟨g, 0, none⟩ ∧ lo ≤ g ∧ g < hi ∧ OwnV w g 65 (n * 2) (bedV P M C G) ∧ (∀ j, j < n → Row w lo hi (P j) (M j) 1 2 (Y j)) ∧ Dis n M P
theorem RowBs.beds (h : RowBs w lo hi A n M Y G) : Beds w A n M Y G := fun hn => by
  obtain ⟨g, P, C, e, h1, h2, ho, hr, hd⟩ := h hn
  refine ⟨g, 0, e, ho.lt, fun j hj => ⟨⟨P j, C j, ?_, (hr j hj).sl⟩, ?_⟩⟩
  · have := ho.cell (j := j * 2) (by omega)
    rw [bedV_0] at this
    simpa using this
  · have := ho.cell (j := j * 2 + 1) (by omega)
    rw [bedV_1] at this
    simpa using this
theorem RowBs.below {K : Nat} (h : RowBs w lo hi A n M Y G) (hb : Below K w w') (hK : hi ≤ K) : RowBs w' lo hi A n M Y G := fun hn => by
  obtain ⟨g, P, C, e, h1, h2, ho, hr, hd⟩ := h hn
  exact ⟨g, P, C, e, h1, h2, ho.below hb (by omega), fun j hj => (hr j hj).below hb hK, hd⟩
theorem RowBs.wrote {lo' hi' : Nat} (h : RowBs w lo hi A n M Y G) (hw : WroteIn w w' lo' hi') (hd : hi ≤ lo' ∨ hi' ≤ lo) : RowBs w' lo hi A n M Y G := fun hn => by
  obtain ⟨g, P, C, e, h1, h2, ho, hr, hdis⟩ := h hn
  exact ⟨g, P, C, e, h1, h2, ho.of_block (hw.block g ho.lt (by omega)), fun j hj => (hr j hj).wrote hw hd, hdis⟩
theorem RowBs.wide {lo' hi' : Nat} (h : RowBs w lo hi A n M Y G) (h1 : lo' ≤ lo) (h2 : hi ≤ hi') : RowBs w lo' hi' A n M Y G := fun hn => by
  obtain ⟨g, P, C, e, a, b, ho, hr, hd⟩ := h hn
  exact ⟨g, P, C, e, by omega, by omega, ho, fun j hj => (hr j hj).wide h1 h2, hd⟩
end
theorem row_setBed {w : World} {g lo hi n m i : Nat} {A : Option Addr} {X : Nat → Int} {V : Nat → Value} {v : Value} (h : Row w lo hi A n 1 2 X) (ho : OwnV w g 65 m V) : Row (w.setCell ⟨g, i, none⟩ v) lo hi A n 1 2 X := fun hn => by
  obtain ⟨g', e, h1, h2, ho'⟩ := h hn
  exact ⟨g', e, h1, h2, ho'.setOther (by rintro rfl; exact absurd (ownV_type ho ho') (by decide)) _⟩
/-- the answer is a new slice of n beds -/
def NewBeds (w : World) (n : Nat) (M : Nat → Nat) (Y : Nat → Nat → Int) (G : Nat → Int) (e : Ending) (w' : World) : Prop :=
  ∃ A c, e = .returned (.slice A n c) ∧ n ≤ c ∧ c ≤ maxLen ∧ RowBs w' w.heap.size w'.heap.size A n M Y G ∧ Below w.heap.size w w'

theorem info_bed : (Try.prog.info? 65).map (fun i => (i.zero, i.size, i.bytes)) = some (some (.agg #[.slice none 0 0, .int .i64 0]), 2, 32) := by kernel_rfl

set_option maxHeartbeats 2000000 in
theorem toBedS_c (A : Option Addr) (n c : Nat) (M : Nat → Nat) (Y : Nat → Nat → Int) (G : Nat → Int) (w : World) (hn : n ≤ 1048576) (hM : ∀ j, j < n → M j ≤ 1048576) (hs : Beds w A n M Y G) :
    Calls Try.prog 44 #[.slice A n c] w (NewBeds w n M Y G) := by
  have hmk := run_make_rows (P := Try.prog) 56 65 _ 2 32 Try.underlying56 info_bed .i64 .i64 n (by omega) (by omega)
  have HS := Lib.hid hs
  have HM := Lib.hid hM
  clear hs hM
  go_enter Try.func44, Try.ntmps44
  go_wp2_with fail
  have hO : OwnV (w.alloc (Obj.cells (madeCells #[Value.slice none 0 0, Value.int IntKind.i64 0] (n * 2)) 65)) w.heap.size 65 (n * 2) (bedV (fun _ => none) (fun _ => 0) (fun _ => 0) (fun _ => 0)) :=
    ownV_made w _ _ _ _ _ (fun i hi => by
      unfold bedV
      rcases Nat.mod_two_eq_zero_or_one i with h | h
      · rw [if_pos h]; simp [h]
      · rw [if_neg (by omega)]; simp [h]) (by simp) rfl
  have HO := Lib.hid hO
  clear hO hmk
  go_loopw [4] (fun s wr => ∃ (k : Nat) (P : Nat → Option Addr) (C : Nat → Nat), k ≤ n ∧ s = .int .i64 k ∧ OwnV wr w.heap.size 65 (n * 2) (fun i => if i < k * 2 then bedV P M C G i else bedV (fun _ => none) (fun _ => 0) (fun _ => 0) (fun _ => 0) i) ∧ (∀ j, j < k → Row wr w.heap.size wr.heap.size (P j) (M j) 1 2 (Y j)) ∧ Dis k M P ∧ Below w.heap.size w wr) (fun s _ => n - (intOf s).toNat)
  case atStart => exact ⟨0, fun _ => none, fun _ => 0, by omega, rfl, HO.out.congr (fun j _ => by simp), fun j hj => absurd hj (by omega), fun i j _ hj => absurd hj (by omega), by go_grown⟩
  case round =>
    obtain ⟨k, P, C, hk, rfl, hown, hrows, hdis, hbl⟩ := hrel
    have hzz := hown.lt
    have HR := Lib.hid hrows
    have HW := Lib.hid hown
    have HD := Lib.hid hdis
    clear hrows hown hdis
    by_cases hlt : k < n
    · have hlt' : (k : Int) < (n : Int) := by omega
      obtain ⟨b, o, rfl, hb, hX⟩ := HS.out (by omega)
      obtain ⟨⟨A0, c0, h0, hs0⟩, h1⟩ := (hX k hlt).below (w' := w) (Below.refl _ _) hb
      have g0 := (hbl.cell (p := ⟨b, o + k * 2, none⟩) hb).trans h0
      have g1 := (hbl.cell (p := ⟨b, o + k * 2 + 1, none⟩) hb).trans h1
      have HS0 := Lib.hid (hs0.below hbl (Nat.le_refl _))
      clear hX h0 h1 hs0
      go_wp2_with fail
      refine (toBed_c A0 (M k) c0 (Y k) (G k) _ (HM.out k hlt) HS0.out).mono ?_
      rintro e w' ⟨A1, c1, rfl, k1, k2, hr, hb2⟩
      have hz2 := hb2.size
      have g2 : Below w.heap.size w w' := Below.trans hbl (hb2.mono (by omega))
      have o2 := HW.out.below hb2 (by omega)
      have d0 := o2.cell (j := k * 2) (by omega)
      have d1 := o2.cell (j := k * 2 + 1) (by omega)
      have f0 := o2.frozen (k * 2)
      have f1 := o2.frozen (k * 2 + 1)
      rw [if_neg (by omega)] at d0 d1
      rw [bedV_0] at d0
      rw [bedV_1] at d1
      have HO2 := Lib.hid o2
      have HR1 := Lib.hid hr
      have HB2 := Lib.hid hb2
      clear hb2 g0 g1 o2 hr
      go_wp2
      go_roundw
      case rel =>
        refine ⟨k + 1, fun j => if j = k then A1 else P j, fun j => if j = k then c1 else C j, by omega, by go_num, ((HO2.out.set (k * 2) (.slice A1 (M k) c1)).set (k * 2 + 1) (.int .i64 (G k))).congr ?_, ?_, HD.out.of_old HR.out HR1.out, ?_⟩
        · intro j hj
          by_cases e1 : j = k * 2 + 1
          · subst e1; rw [if_pos rfl, if_pos (by omega), bedV_1]
          by_cases e0 : j = k * 2
          · subst e0; rw [if_neg (by omega), if_pos rfl, if_pos (by omega), bedV_0]; simp
          simp only [e0, e1, if_false]
          by_cases e3 : j < k * 2
          · rw [if_pos e3, if_pos (by omega)]
            exact bedV_upd e3
          · rw [if_neg e3, if_neg (by omega)]
        · intro j hj
          refine Row.wide (hi := w'.heap.size) ?_ (Nat.le_refl _) (by simp)
          show Row _ _ _ (if j = k then A1 else P j) _ _ _ _
          by_cases e : j = k
          · subst e
            rw [if_pos rfl]
            exact row_setBed (row_setBed (HR1.out.wide (by have := hbl.size; omega) (Nat.le_refl _)) HO2.out) (HO2.out.set _ _)
          · rw [if_neg e]
            exact row_setBed (row_setBed (((HR.out j (by omega)).below HB2.out (Nat.le_refl _)).wide (Nat.le_refl _) (by omega)) HO2.out) (HO2.out.set _ _)
        · exact Below.setCell (Below.setCell g2 (Nat.le_refl _) _) (Nat.le_refl _) _
      case measure => simp [intOf]; omega
    · obtain rfl : k = n := by omega
      go_wp2
      go_ret
      exact ⟨_, _, rfl, Nat.le_refl _, by unfold maxLen; omega, fun _ => ⟨_, P, C, rfl, Nat.le_refl _, hzz, HW.out.congr (fun j hj => by rw [if_pos hj]), HR.out, HD.out⟩, hbl⟩

/-- the numbers of the first k beds, counted -/
def sumM (M : Nat → Nat) : Nat → Nat
  | 0 => 0
  | k + 1 => sumM M k + M k
theorem sumM_le {M : Nat → Nat} {j n : Nat} (h : j ≤ n) : sumM M j ≤ sumM M n := by
  induction n with
  | zero => obtain rfl : j = 0 := by omega
            exact Nat.le_refl _
  | succ n ih =>
    by_cases e : j = n + 1
    · subst e; exact Nat.le_refl _
    · have := ih (by omega)
      simp only [sumM]; omega
theorem sumM_at {M : Nat → Nat} {j n : Nat} (h : j < n) : M j ≤ sumM M n := by
  have := sumM_le (M := M) (j := j + 1) (n := n) h
  simp only [sumM] at this
  omega

set_option maxHeartbeats 2000000 in
theorem szBeds_any (A : Option Addr) (n c : Nat) (M : Nat → Nat) (Y : Nat → Nat → Int) (G : Nat → Int) (left : Int) (w : World) (l0 : 0 ≤ left) (l1 : left ≤ 1048576) (hn : n ≤ maxLen) (hM : ∀ j, j < n → M j ≤ maxLen) (hs : Beds w A n M Y G) :
    Calls Try.prog 42 #[.slice A n c, .int .i64 left] w fun e w' => e = .returned (.int .i64 (if ((n + sumM M n : Nat) : Int) ≤ left then left - ((n + sumM M n : Nat) : Int) else -1)) ∧ Below w.heap.size w w' := by
  have hn' := hn
  unfold maxLen at hn'
  have HS := Lib.hid hs
  have HM := Lib.hid hM
  clear hs hM
  by_cases h : left < n
  · have h' : (left - (n : Int)) < 0 := by omega
    rw [if_neg (by omega)]
    go_enter Try.func42, Try.ntmps42
    go_wp2
    go_ret
    exact ⟨rfl, by go_grown⟩
  · have h' : ¬ (left - (n : Int)) < 0 := by omega
    obtain ⟨x, hx⟩ : ∃ x : Int, x = (if ((n + sumM M n : Nat) : Int) ≤ left then left - ((n + sumM M n : Nat) : Int) else -1) := ⟨_, rfl⟩
    rw [← hx]
    have HX := Lib.hid hx
    clear hx
    go_enter Try.func42, Try.ntmps42
    go_wp2_with fail
    go_loopw [1, 5] (fun t s wr => ∃ (k : Nat) (l : Int), k ≤ n ∧ s = .int .i64 k ∧ t = .int .i64 l ∧ Hid (l = left - n - (sumM M k : Nat)) ∧ 0 ≤ l ∧ l ≤ 1048576 ∧ Below w.heap.size w wr) (fun _ s _ => n - (intOf s).toNat)
    case atStart => exact ⟨0, left - n, by omega, rfl, rfl, by simp [Hid, sumM], by omega, by omega, Below.refl _ _⟩
    case round =>
      obtain ⟨k, l, hk, rfl, rfl, HL, q0, q1, hbl⟩ := hrel
      have hzz := hbl.size
      by_cases hlt : k < n
      · have hlt' : (k : Int) < (n : Int) := by omega
        obtain ⟨b, o, rfl, hb, hX⟩ := HS.out (by omega)
        obtain ⟨⟨A0, c0, h0, hs0⟩, h1⟩ := hX k hlt
        have g0 := (hbl.cell (p := ⟨b, o + k * 2, none⟩) hb).trans h0
        have g1 := (hbl.cell (p := ⟨b, o + k * 2 + 1, none⟩) hb).trans h1
        clear hX h0 h1 hs0
        by_cases hm : (M k : Int) ≤ l
        · have hd : ¬ (l - (M k : Int)) < 0 := by omega
          go_wp2_with fail
          refine (szBed_c A0 (M k) c0 (G k) l _ hm q1).mono ?_
          rintro e w2 ⟨rfl, hb2⟩
          have g2 : Below w.heap.size w w2 := Below.trans hbl (hb2.mono (by omega))
          clear hb2 g0 g1
          go_wp2
          go_roundw
          case rel => exact ⟨k + 1, l - (M k : Int), by omega, by go_num, rfl, by simp only [Hid, sumM]; have := HL.out; omega, by omega, by omega, g2⟩
          case measure => simp [intOf]; omega
        · have hf : ¬ ((n + sumM M n : Nat) : Int) ≤ left := by have h1 := HL.out; have h2 := sumM_le (M := M) (j := k + 1) (n := n) hlt; simp only [sumM] at h2; omega
          have hxx : x = -1 := by rw [HX.out, if_neg hf]
          have HXX := Lib.hid hxx
          clear hf hxx
          go_wp2_with fail
          refine (szBed_big A0 (M k) c0 (G k) l _ (by omega) q0 q1 (HM.out k hlt)).mono ?_
          rintro e w2 ⟨rfl, hb2⟩
          have g2 : Below w.heap.size w w2 := Below.trans hbl (hb2.mono (by omega))
          clear hb2 g0 g1
          go_wp2
          go_ret
          exact ⟨by rw [HXX.out]; rfl, g2⟩
      · obtain rfl : k = n := by omega
        have hxx : x = l := by have h1 := HL.out; rw [HX.out, if_pos (by omega)]; omega
        have HXX := Lib.hid hxx
        clear hxx
        go_wp2
        go_ret
        exact ⟨by rw [HXX.out]; rfl, hbl⟩

theorem szBeds_c (A : Option Addr) (n c : Nat) (M : Nat → Nat) (Y : Nat → Nat → Int) (G : Nat → Int) (T : Nat) (left : Int) (w : World) (hT : n + sumM M n = T) (l0 : (T : Int) ≤ left) (l1 : left ≤ 1048576) (hs : Beds w A n M Y G) :
    Calls Try.prog 42 #[.slice A n c, .int .i64 left] w fun e w' => e = .returned (.int .i64 (left - T)) ∧ Below w.heap.size w w' := by
  subst hT
  have h := szBeds_any A n c M Y G left w (by omega) l1 (by unfold maxLen; omega) (fun j hj => by have := sumM_at (M := M) hj; unfold maxLen; omega) hs
  rw [if_pos l0] at h
  exact h
theorem szBeds_big (A : Option Addr) (n c : Nat) (M : Nat → Nat) (Y : Nat → Nat → Int) (G : Nat → Int) (left : Int) (w : World) (l0 : 0 ≤ left) (l1 : left ≤ 1048576) (h : left < ((n + sumM M n : Nat) : Int)) (hn : n ≤ maxLen) (hM : ∀ j, j < n → M j ≤ maxLen) (hs : Beds w A n M Y G) :
    Calls Try.prog 42 #[.slice A n c, .int .i64 left] w fun e w' => e = .returned (.int .i64 (-1)) ∧ Below w.heap.size w w' := by
  have h2 := szBeds_any A n c M Y G left w l0 l1 hn hM hs
  rw [if_neg (by omega)] at h2
  exact h2

set_option maxHeartbeats 2000000 in
theorem eqBedS_same (A1 A2 : Option Addr) (n c1 c2 : Nat) (M : Nat → Nat) (Y : Nat → Nat → Int) (G : Nat → Int) (w : World) (hn : n ≤ maxLen) (hM : ∀ j, j < n → M j ≤ maxLen) (h1 : Beds w A1 n M Y G) (h2 : Beds w A2 n M Y G) :
    Calls Try.prog 46 #[.slice A1 n c1, .slice A2 n c2] w fun e w' => e = .returned (.bool true) ∧ Below w.heap.size w w' := by
  unfold maxLen at hn
  have HM := Lib.hid hM
  have H1 := Lib.hid h1
  have H2 := Lib.hid h2
  clear h1 h2 hM
  go_enter Try.func46, Try.ntmps46
  go_wp2_with fail
  go_loopw [5] (fun s wr => ∃ k : Nat, k ≤ n ∧ s = .int .i64 k ∧ Below w.heap.size w wr) (fun s _ => n - (intOf s).toNat)
  case atStart => exact ⟨0, by omega, rfl, Below.refl _ _⟩
  case round =>
    obtain ⟨k, hk, rfl, hbl⟩ := hrel
    have hzz := hbl.size
    by_cases hlt : k < n
    · have hlt' : (k : Int) < (n : Int) := by omega
      have hk0 : (0 : Int) ≤ (k : Int) := by omega
      obtain ⟨b1, o1, rfl, hb1, hX1⟩ := H1.out (by omega)
      obtain ⟨b2, o2, rfl, hb2, hX2⟩ := H2.out (by omega)
      obtain ⟨⟨P1, d1, p0, hp⟩, p1⟩ := hX1 k hlt
      obtain ⟨⟨P2, d2, q0, hq⟩, q1⟩ := hX2 k hlt
      replace p0 := (hbl.cell (p := ⟨b1, o1 + k * 2, none⟩) hb1).trans p0
      replace p1 := (hbl.cell (p := ⟨b1, o1 + k * 2 + 1, none⟩) hb1).trans p1
      replace q0 := (hbl.cell (p := ⟨b2, o2 + k * 2, none⟩) hb2).trans q0
      replace q1 := (hbl.cell (p := ⟨b2, o2 + k * 2 + 1, none⟩) hb2).trans q1
      have HP := Lib.hid (hp.below hbl (Nat.le_refl _))
      have HQ := Lib.hid (hq.below hbl (Nat.le_refl _))
      clear hX1 hX2 hp hq
      go_wp2_with fail
      go_region_held3 (fun x => (x.cell? ⟨b1, o1 + k * 2, none⟩ = some (.slice P1 (M k) d1) ∧ x.cell? ⟨b1, o1 + k * 2 + 1, none⟩ = some (.int .i64 (G k))) ∧ (x.cell? ⟨b2, o2 + k * 2, none⟩ = some (.slice P2 (M k) d2) ∧ x.cell? ⟨b2, o2 + k * 2 + 1, none⟩ = some (.int .i64 (G k)))) (first | exact ⟨⟨p0, p1⟩, q0, q1⟩ | go_keep)
        (first
          | (go_at_call 51; refine (eqBed_same P1 P2 (M k) d1 d2 (Y k) (G k) _ (HM.out k hlt) (HP.out.below (w := wr) (Below.refl _ _).drew (Nat.le_refl _)) (HQ.out.below (w := wr) (Below.refl _ _).drew (Nat.le_refl _))).mono ?_; rintro e w2 ⟨rfl, hb⟩
             have hz2 := hb.size
             simp at hz2
             have g2 : Below w.heap.size w w2 := Below.trans hbl.drew (hb.mono (by simp <;> omega))
             replace p0 := (hb.cell (p := ⟨b1, o1 + k * 2, none⟩) (by simp; omega)).trans p0
             replace p1 := (hb.cell (p := ⟨b1, o1 + k * 2 + 1, none⟩) (by simp; omega)).trans p1
             replace q0 := (hb.cell (p := ⟨b2, o2 + k * 2, none⟩) (by simp; omega)).trans q0
             replace q1 := (hb.cell (p := ⟨b2, o2 + k * 2 + 1, none⟩) (by simp; omega)).trans q1
             clear hb))
      go_wp2
      go_roundw
      case rel => exact ⟨k + 1, by omega, by go_num, g2⟩
      case measure => simp [intOf]; omega
    · obtain rfl : k = n := by omega
      go_wp2
      go_ret
      exact ⟨rfl, hbl⟩

end Go.Proofs.Ytcpaenmhnoagdab.rod
