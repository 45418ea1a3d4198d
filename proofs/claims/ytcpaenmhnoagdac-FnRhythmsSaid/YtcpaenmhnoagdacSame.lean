/-
  Contracts: are two lists of numbers equal? Are two lists of beds? Of the model and of the program.
-/
import Derived.Test.YtcpaenmhnoagdacBeds
namespace Go.Proofs.Ytcpaenmhnoagdac.rod
open Go.ChangeShapes Go.WideShapes Go.ChangeAt Go.RowKit Go.Proofs.Ytcpaenmhnoagdac.mem Go.Proofs.Ytcpaenmhnoagdac.nums
set_option linter.unusedVariables false

/-- the first n numbers are the same -/
def eqL (Y Z : Nat → Int) : Nat → Bool
  | 0 => true
  | n + 1 => eqL Y Z n && decide (Y n = Z n)
theorem eqL_le {Y Z : Nat → Int} {n : Nat} : ∀ {m : Nat}, m ≤ n → eqL Y Z n = true → eqL Y Z m = true := by
  induction n with
  | zero => intro m h k; obtain rfl : m = 0 := by omega
            exact k
  | succ n ih =>
    intro m h k
    by_cases e : m = n + 1
    · subst e; exact k
    · simp only [eqL, Bool.and_eq_true] at k
      exact ih (by omega) k.1
theorem eqL_no {Y Z : Nat → Int} {n i : Nat} (hi : i < n) (h : ¬ Y i = Z i) : eqL Y Z n = false := by
  cases e : eqL Y Z n
  · rfl
  · have := eqL_le (m := i + 1) hi e
    simp only [eqL, decide_eq_false h, Bool.and_false] at this
    cases this
def sameL (m n : Nat) (Y Z : Nat → Int) : Bool := decide (m = n) && eqL Y Z m
theorem sameL_ne {m n : Nat} {Y Z : Nat → Int} (h : m ≠ n) : sameL m n Y Z = false := by unfold sameL; rw [decide_eq_false h]; rfl
theorem sameL_eq {m : Nat} {Y Z : Nat → Int} : sameL m m Y Z = eqL Y Z m := by unfold sameL; simp

set_option maxHeartbeats 2000000 in
theorem same_s (A1 A2 : Option Addr) (m n c1 c2 : Nat) (Y Z : Nat → Int) (w : World) (hm : m ≤ maxLen) (hn : n ≤ maxLen) (h1 : Sl w A1 m 1 Y) (h2 : Sl w A2 n 1 Z) :
    Calls Try.prog 76 #[.slice A1 m c1, .slice A2 n c2] w fun e w' => e = .returned (.bool (sameL m n Y Z)) ∧ ∃ k, w' = w.drewN k := by
  unfold maxLen at hm hn
  have H1 := Lib.hid h1
  have H2 := Lib.hid h2
  clear h1 h2
  by_cases hmn : m = n
  · subst hmn
    rw [sameL_eq]
    go_enter Try.func76, Try.ntmps76
    go_wp2_with fail
    go_loopw [5] (fun s wr => ∃ k : Nat, k ≤ m ∧ s = .int .i64 k ∧ Hid (eqL Y Z k = true) ∧ Drew w wr) (fun s _ => m - (intOf s).toNat)
    case atStart => exact ⟨0, by omega, rfl, rfl, Drew.refl _⟩
    case round =>
      obtain ⟨k, hk, rfl, HA, hd⟩ := hrel
      have HD := Lib.hid hd
      clear hd
      by_cases hlt : k < m
      · have hlt' : (k : Int) < (m : Int) := by omega
        have hk0 : (0 : Int) ≤ (k : Int) := by omega
        obtain ⟨b1, o1, rfl, hb1, hX1⟩ := (HD.out.sl H1.out) (by omega)
        obtain ⟨b2, o2, rfl, hb2, hX2⟩ := (HD.out.sl H2.out) (by omega)
        have p0 := hX1 k (by omega)
        have q0 := hX2 k (by omega)
        clear hX1 hX2
        by_cases hyz : Y k = Z k
        · have HY := Lib.hid (show eqL Y Z (k + 1) = true by simp only [eqL, HA.out, hyz, decide_true, Bool.and_self])
          rw [hyz] at p0
          clear hyz
          go_wp2_with fail
          go_quiet (fail)
          go_wp2
          go_roundw
          case rel => exact ⟨k + 1, by omega, by go_num, HY.out, HD.out.drewN _⟩
          case measure => simp [intOf]; omega
        · have HF := Lib.hid (eqL_no hlt hyz)
          have e1 : (Y k == Z k) = false := by simpa using hyz
          have e2 : (Y k != Z k) = true := by simpa using hyz
          clear hyz
          go_wp2_with fail
          go_quiet (fail)
          go_wp2
          go_ret
          exact ⟨by rw [HF.out]; rfl, HD.out.drewN _⟩
      · obtain rfl : k = m := by omega
        go_wp2
        go_ret
        exact ⟨by rw [HA.out]; rfl, HD.out⟩
  · rw [sameL_ne hmn]
    have e1 : ((m : Int) == (n : Int)) = false := by simp; omega
    have e2 : ((m : Int) != (n : Int)) = true := by simp; omega
    go_enter Try.func76, Try.ntmps76
    go_wp2_with fail
    go_ret
    exact ⟨rfl, 0, rfl⟩

set_option maxHeartbeats 2000000 in
theorem same_i (A1 A2 : Option Addr) (m n c1 c2 : Nat) (Y Z : Nat → Int) (w : World) (hm : m ≤ maxLen) (hn : n ≤ maxLen) (h1 : Sl w A1 m 1 Y) (h2 : Sl w A2 n 1 Z) :
    Calls Try.prog 113 #[.slice A1 m c1, .slice A2 n c2] w fun e w' => e = .returned (.bool (sameL m n Y Z)) ∧ ∃ k, w' = w.drewN k := by
  unfold maxLen at hm hn
  have H1 := Lib.hid h1
  have H2 := Lib.hid h2
  clear h1 h2
  by_cases hmn : m = n
  · subst hmn
    rw [sameL_eq]
    go_enter Try.func113, Try.ntmps113
    go_wp2_with fail
    go_loopw [13] (fun s wr => ∃ k : Nat, k ≤ m ∧ s = .int .i64 k ∧ Hid (eqL Y Z k = true) ∧ Drew w wr) (fun s _ => m - (intOf s).toNat)
    case atStart => exact ⟨0, by omega, rfl, rfl, Drew.refl _⟩
    case round =>
      obtain ⟨k, hk, rfl, HA, hd⟩ := hrel
      have HD := Lib.hid hd
      clear hd
      by_cases hlt : k < m
      · have hlt' : (k : Int) < (m : Int) := by omega
        have hk0 : (0 : Int) ≤ (k : Int) := by omega
        obtain ⟨b1, o1, rfl, hb1, hX1⟩ := (HD.out.sl H1.out) (by omega)
        obtain ⟨b2, o2, rfl, hb2, hX2⟩ := (HD.out.sl H2.out) (by omega)
        have p0 := hX1 k (by omega)
        have q0 := hX2 k (by omega)
        clear hX1 hX2
        by_cases hyz : Y k = Z k
        · have HY := Lib.hid (show eqL Y Z (k + 1) = true by simp only [eqL, HA.out, hyz, decide_true, Bool.and_self])
          rw [hyz] at p0
          clear hyz
          go_wp2_with fail
          go_quiet (fail)
          go_wp2
          go_roundw
          case rel => exact ⟨k + 1, by omega, by go_num, HY.out, HD.out.drewN _⟩
          case measure => simp [intOf]; omega
        · have HF := Lib.hid (eqL_no hlt hyz)
          have e1 : (Y k == Z k) = false := by simpa using hyz
          have e2 : (Y k != Z k) = true := by simpa using hyz
          clear hyz
          go_wp2_with fail
          go_quiet (fail)
          go_wp2
          go_ret
          exact ⟨by rw [HF.out]; rfl, HD.out.drewN _⟩
      · obtain rfl : k = m := by omega
        go_wp2
        go_ret
        exact ⟨by rw [HA.out]; rfl, HD.out⟩
  · rw [sameL_ne hmn]
    have e1 : ((m : Int) == (n : Int)) = false := by simp; omega
    have e2 : ((m : Int) != (n : Int)) = true := by simp; omega
    go_enter Try.func113, Try.ntmps113
    go_wp2_with fail
    go_ret
    exact ⟨rfl, 0, rfl⟩

/-- two beds are the same; the first n beds are; two lists are -/
def bedSame (m n : Nat) (Y Z : Nat → Int) (g h : Int) : Bool := decide (g = h) && sameL m n Y Z
theorem bedSame_no {m n : Nat} {Y Z : Nat → Int} {g h : Int} (e : ¬ g = h) : bedSame m n Y Z g h = false := by unfold bedSame; rw [decide_eq_false e]; rfl
theorem bedSame_yes {m n : Nat} {Y Z : Nat → Int} {g : Int} : bedSame m n Y Z g g = sameL m n Y Z := by unfold bedSame; simp
def sameU (M N : Nat → Nat) (Y Z : Nat → Nat → Int) (G H : Nat → Int) : Nat → Bool
  | 0 => true
  | k + 1 => sameU M N Y Z G H k && bedSame (M k) (N k) (Y k) (Z k) (G k) (H k)
theorem sameU_le {M N : Nat → Nat} {Y Z : Nat → Nat → Int} {G H : Nat → Int} {n : Nat} : ∀ {m : Nat}, m ≤ n → sameU M N Y Z G H n = true → sameU M N Y Z G H m = true := by
  induction n with
  | zero => intro m h k; obtain rfl : m = 0 := by omega
            exact k
  | succ n ih =>
    intro m h k
    by_cases e : m = n + 1
    · subst e; exact k
    · simp only [sameU, Bool.and_eq_true] at k
      exact ih (by omega) k.1
theorem sameU_no {M N : Nat → Nat} {Y Z : Nat → Nat → Int} {G H : Nat → Int} {n i : Nat} (hi : i < n) (h : bedSame (M i) (N i) (Y i) (Z i) (G i) (H i) = false) : sameU M N Y Z G H n = false := by
  cases e : sameU M N Y Z G H n
  · rfl
  · have := sameU_le (m := i + 1) hi e
    simp only [sameU, h, Bool.and_false] at this
    cases this
def bedsSame (n n2 : Nat) (M N : Nat → Nat) (Y Z : Nat → Nat → Int) (G H : Nat → Int) : Bool := decide (n = n2) && sameU M N Y Z G H n
theorem bedsSame_ne {n n2 : Nat} {M N : Nat → Nat} {Y Z : Nat → Nat → Int} {G H : Nat → Int} (h : n ≠ n2) : bedsSame n n2 M N Y Z G H = false := by unfold bedsSame; rw [decide_eq_false h]; rfl
theorem bedsSame_eq {n : Nat} {M N : Nat → Nat} {Y Z : Nat → Nat → Int} {G H : Nat → Int} : bedsSame n n M N Y Z G H = sameU M N Y Z G H n := by unfold bedsSame; simp

set_option maxHeartbeats 2000000 in
theorem isSame_i (A1 A2 : Option Addr) (m n c1 c2 : Nat) (Y Z : Nat → Int) (g h : Int) (w : World) (hm : m ≤ maxLen) (hn : n ≤ maxLen) (h1 : Sl w A1 m 1 Y) (h2 : Sl w A2 n 1 Z) :
    Calls Try.prog 78 #[.agg #[.slice A1 m c1, .int .i64 g], .agg #[.slice A2 n c2, .int .i64 h]] w fun e w' => e = .returned (.bool (bedSame m n Y Z g h)) ∧ Below w.heap.size w w' := by
  have H1 := Lib.hid h1
  have H2 := Lib.hid h2
  clear h1 h2
  by_cases e : g = h
  · subst e
    rw [bedSame_yes]
    go_enter Try.func78, Try.ntmps78
    go_wp2_with fail
    refine (same_i A1 A2 m n c1 c2 Y Z _ hm hn (Sl.below H1.out (K := w.heap.size) (by go_grown) (Nat.le_refl _)) (Sl.below H2.out (K := w.heap.size) (by go_grown) (Nat.le_refl _))).mono ?_
    rintro e w' ⟨rfl, k, rfl⟩
    go_wp2
    go_ret
    exact ⟨rfl, drewN_below (by go_grown) _⟩
  · rw [bedSame_no e]
    have e1 : (g == h) = false := by simpa using e
    have e2 : (g != h) = true := by simpa using e
    clear e
    go_enter Try.func78, Try.ntmps78
    go_wp2_with fail
    go_ret
    exact ⟨rfl, by go_grown⟩

set_option maxHeartbeats 2000000 in
theorem sameBeds_s (A1 A2 : Option Addr) (n n2 c1 c2 : Nat) (M N : Nat → Nat) (Y Z : Nat → Nat → Int) (G H : Nat → Int) (w : World) (hn : n ≤ maxLen) (hn2 : n2 ≤ maxLen) (hM : ∀ j, j < n → M j ≤ maxLen) (hN : ∀ j, j < n2 → N j ≤ maxLen) (h1 : Beds w A1 n M Y G) (h2 : Beds w A2 n2 N Z H) :
    Calls Try.prog 24 #[.slice A1 n c1, .slice A2 n2 c2] w fun e w' => e = .returned (.bool (bedsSame n n2 M N Y Z G H)) ∧ Below w.heap.size w w' := by
  unfold maxLen at hn hn2
  have H1 := Lib.hid h1
  have H2 := Lib.hid h2
  have HM := Lib.hid hM
  have HN := Lib.hid hN
  clear h1 h2 hM hN
  by_cases hnn : n = n2
  · subst hnn
    rw [bedsSame_eq]
    go_enter Try.func24, Try.ntmps24
    go_wp2_with fail
    go_loopw [5] (fun s wr => ∃ k : Nat, k ≤ n ∧ s = .int .i64 k ∧ Hid (sameU M N Y Z G H k = true) ∧ Drew w wr) (fun s _ => n - (intOf s).toNat)
    case atStart => exact ⟨0, by omega, rfl, rfl, Drew.refl _⟩
    case round =>
      obtain ⟨k, hk, rfl, HA, hd⟩ := hrel
      have HD := Lib.hid hd
      by_cases hlt : k < n
      · have hlt' : (k : Int) < (n : Int) := by omega
        have hk0 : (0 : Int) ≤ (k : Int) := by omega
        obtain ⟨b1, o1, rfl, hb1, hX1⟩ := (H1.out.drew hd) (by omega)
        obtain ⟨b2, o2, rfl, hb2, hX2⟩ := (H2.out.drew hd) (by omega)
        obtain ⟨⟨P1, d1, p0, hp⟩, p1⟩ := hX1 k hlt
        obtain ⟨⟨P2, d2, q0, hq⟩, q1⟩ := hX2 k hlt
        have HP := Lib.hid hp
        have HQ := Lib.hid hq
        clear hX1 hX2 hp hq hd
        by_cases e : G k = H k
        · have E := Lib.hid e
          have HE := Lib.hid (show bedSame (M k) (N k) (Y k) (Z k) (G k) (H k) = sameL (M k) (N k) (Y k) (Z k) by rw [e]; exact bedSame_yes)
          rw [e] at p1
          clear e
          cases hv : sameL (M k) (N k) (Y k) (Z k)
          · have HF := Lib.hid (sameU_no hlt (HE.out.trans hv))
            go_wp2_with fail
            go_quiet ((go_at_call 76; exact Calls.quiet_of ((same_s _ _ _ _ _ _ (Y k) (Z k) _ (HM.out k hlt) (HN.out k hlt) (Drew.sl ⟨_, rfl⟩ HP.out) (Drew.sl ⟨_, rfl⟩ HQ.out)).mono fun _ _ ⟨p, q⟩ => ⟨p.trans (by rw [hv]), q⟩)))
            go_wp2
            go_ret
            exact ⟨by rw [HF.out]; rfl, by obtain ⟨m, e⟩ := HD.out; rw [e]; exact drewN_below (drewN_below (Below.refl _ _) _) _⟩
          · have HS := Lib.hid (show sameU M N Y Z G H (k + 1) = true by simp only [sameU, HA.out, HE.out, hv, Bool.and_self])
            go_wp2_with fail
            go_quiet ((go_at_call 76; exact Calls.quiet_of ((same_s _ _ _ _ _ _ (Y k) (Z k) _ (HM.out k hlt) (HN.out k hlt) (Drew.sl ⟨_, rfl⟩ HP.out) (Drew.sl ⟨_, rfl⟩ HQ.out)).mono fun _ _ ⟨p, q⟩ => ⟨p.trans (by rw [hv]), q⟩)))
            go_wp2
            go_roundw
            case rel => exact ⟨k + 1, by omega, by go_num, HS.out, HD.out.drewN _⟩
            case measure => simp [intOf]; omega
        · have HF := Lib.hid (sameU_no hlt (bedSame_no (m := M k) (n := N k) (Y := Y k) (Z := Z k) e))
          have e1 : (G k == H k) = false := by simpa using e
          have e2 : (G k != H k) = true := by simpa using e
          clear e
          go_wp2_with fail
          go_quiet (fail)
          go_wp2
          go_ret
          exact ⟨by rw [HF.out]; rfl, by obtain ⟨m, e⟩ := HD.out; rw [e]; exact drewN_below (drewN_below (Below.refl _ _) _) _⟩
      · obtain rfl : k = n := by omega
        clear hd
        go_wp2
        go_ret
        exact ⟨by rw [HA.out]; rfl, by obtain ⟨m, e⟩ := HD.out; rw [e]; exact drewN_below (Below.refl _ _) _⟩
  · rw [bedsSame_ne hnn]
    have e1 : ((n : Int) == (n2 : Int)) = false := by simp; omega
    have e2 : ((n : Int) != (n2 : Int)) = true := by simp; omega
    go_enter Try.func24, Try.ntmps24
    go_wp2_with fail
    go_ret
    exact ⟨rfl, Below.refl _ _⟩

set_option maxHeartbeats 2000000 in
theorem equalFunc_i (A1 A2 : Option Addr) (n n2 c1 c2 : Nat) (M N : Nat → Nat) (Y Z : Nat → Nat → Int) (G H : Nat → Int) (w : World) (hn : n ≤ maxLen) (hn2 : n2 ≤ maxLen) (hM : ∀ j, j < n → M j ≤ maxLen) (hN : ∀ j, j < n2 → N j ≤ maxLen) (h1 : Beds w A1 n M Y G) (h2 : Beds w A2 n2 N Z H) :
    Calls Try.prog 77 #[.slice A1 n c1, .slice A2 n2 c2, Value.func (Fn.func 78) #[] #[]] w fun e w' => e = .returned (.bool (bedsSame n n2 M N Y Z G H)) ∧ Below w.heap.size w w' := by
  unfold maxLen at hn hn2
  have H1 := Lib.hid h1
  have H2 := Lib.hid h2
  have HM := Lib.hid hM
  have HN := Lib.hid hN
  clear h1 h2 hM hN
  by_cases hnn : n = n2
  · subst hnn
    rw [bedsSame_eq]
    go_enter Try.func77, Try.ntmps77
    go_wp2_with fail
    go_loopw [17] (fun s wr => ∃ k : Nat, k ≤ n ∧ s = .int .i64 k ∧ Hid (sameU M N Y Z G H k = true) ∧ Below w.heap.size w wr) (fun s _ => n - (intOf s).toNat)
    case atStart => exact ⟨0, by omega, rfl, rfl, Below.refl _ _⟩
    case round =>
      obtain ⟨k, hk, rfl, HA, hbl⟩ := hrel
      have hzz := hbl.size
      by_cases hlt : k < n
      · have hlt' : (k : Int) < (n : Int) := by omega
        have hk0 : (0 : Int) ≤ (k : Int) := by omega
        obtain ⟨b1, o1, rfl, hb1, hX1⟩ := (H1.out.below hbl) (by omega)
        obtain ⟨b2, o2, rfl, hb2, hX2⟩ := (H2.out.below hbl) (by omega)
        obtain ⟨⟨P1, d1, p0, hp⟩, p1⟩ := hX1 k hlt
        obtain ⟨⟨P2, d2, q0, hq⟩, q1⟩ := hX2 k hlt
        have HP := Lib.hid hp
        have HQ := Lib.hid hq
        clear hX1 hX2 hp hq
        cases hv : bedSame (M k) (N k) (Y k) (Z k) (G k) (H k)
        · have HF := Lib.hid (sameU_no hlt hv)
          have HV := Lib.hid hv
          clear hv
          go_wp2_with fail
          refine (isSame_i P1 P2 (M k) (N k) d1 d2 (Y k) (Z k) (G k) (H k) _ (HM.out k hlt) (HN.out k hlt) (Sl.below HP.out (K := wr.heap.size) (by go_grown) (Nat.le_refl _)) (Sl.below HQ.out (K := wr.heap.size) (by go_grown) (Nat.le_refl _))).mono ?_
          rintro e w' ⟨rfl, hb⟩
          rw [HV.out]
          have g2 : Below w.heap.size w w' := Below.trans (by go_grown) (hb.mono (by simp <;> omega))
          clear hb p0 p1 q0 q1
          go_wp2
          go_ret
          exact ⟨by rw [HF.out]; rfl, g2⟩
        · have HS := Lib.hid (show sameU M N Y Z G H (k + 1) = true by simp only [sameU, HA.out, hv, Bool.and_self])
          have HV := Lib.hid hv
          clear hv
          go_wp2_with fail
          refine (isSame_i P1 P2 (M k) (N k) d1 d2 (Y k) (Z k) (G k) (H k) _ (HM.out k hlt) (HN.out k hlt) (Sl.below HP.out (K := wr.heap.size) (by go_grown) (Nat.le_refl _)) (Sl.below HQ.out (K := wr.heap.size) (by go_grown) (Nat.le_refl _))).mono ?_
          rintro e w' ⟨rfl, hb⟩
          rw [HV.out]
          have g2 : Below w.heap.size w w' := Below.trans (by go_grown) (hb.mono (by simp <;> omega))
          clear hb p0 p1 q0 q1
          go_wp2
          go_roundw
          case rel => exact ⟨k + 1, by omega, by go_num, HS.out, g2⟩
          case measure => simp [intOf]; omega
      · obtain rfl : k = n := by omega
        go_wp2
        go_ret
        exact ⟨by rw [HA.out]; rfl, hbl⟩
  · rw [bedsSame_ne hnn]
    have e1 : ((n : Int) == (n2 : Int)) = false := by simp; omega
    have e2 : ((n : Int) != (n2 : Int)) = true := by simp; omega
    go_enter Try.func77, Try.ntmps77
    go_wp2_with fail
    go_ret
    exact ⟨rfl, Below.refl _ _⟩

theorem sameBeds_i (A1 A2 : Option Addr) (n n2 c1 c2 : Nat) (M N : Nat → Nat) (Y Z : Nat → Nat → Int) (G H : Nat → Int) (w : World) (hn : n ≤ maxLen) (hn2 : n2 ≤ maxLen) (hM : ∀ j, j < n → M j ≤ maxLen) (hN : ∀ j, j < n2 → N j ≤ maxLen) (h1 : Beds w A1 n M Y G) (h2 : Beds w A2 n2 N Z H) :
    Calls Try.prog 25 #[.slice A1 n c1, .slice A2 n2 c2] w fun e w' => e = .returned (.bool (bedsSame n n2 M N Y Z G H)) ∧ Below w.heap.size w w' := by
  have H1 := Lib.hid h1
  have H2 := Lib.hid h2
  have HM := Lib.hid hM
  have HN := Lib.hid hN
  clear h1 h2 hM hN
  go_enter Try.func25, Try.ntmps25
  go_wp2_with fail
  refine (equalFunc_i A1 A2 n n2 c1 c2 M N Y Z G H _ hn hn2 HM.out HN.out H1.out H2.out).mono ?_
  rintro e w' ⟨rfl, hb⟩
  go_wp2
  go_ret
  exact ⟨rfl, hb⟩

end Go.Proofs.Ytcpaenmhnoagdac.rod
