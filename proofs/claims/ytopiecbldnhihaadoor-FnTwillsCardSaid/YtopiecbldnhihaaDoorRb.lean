/-
  The mathematics of the law on faces: they repeat as told, and have no longer runs than told; a back's back. No function of the program lies here.
-/
import Derived.Test.YtopiecbldnhihaaDoorQh
import Derived.Test.YtopiecbldnhihaaDoorQm
import Derived.Test.YtopiecbldnhihaaDoorQn
import Derived.Test.YtopiecbldnhihaaDoorQq
namespace Go.Proofs.YtopiecbldnhihaaDoor.twl
open Go.ChangeShapes Go.WideShapes Go.ChangeAt Go.RowKit Go.Deep Go.Proofs.YtopiecbldnhihaaDoor.mem Go.Proofs.YtopiecbldnhihaaDoor.rod Go.Proofs.YtopiecbldnhihaaDoor.nums Go.Proofs.YtopiecbldnhihaaDoor.shp Go.Proofs.YtopiecbldnhihaaDoor.wv Go.Proofs.YtopiecbldnhihaaDoor.wk
set_option linter.unusedVariables false
set_option maxRecDepth 100000

/-- the stroke at stake k in round r, as a number -/
def fa (s : ByteArray) (t r k : Nat) : Int := byteAt s (plc s.size t k r)
theorem fa_cyc (s : ByteArray) (t r k : Nat) : fa s t r k = cyc (byteAt s) s.size (k + r * (s.size - t)) := rfl
theorem fa_along {s : ByteArray} {P : Nat} (hp : Per s P) (t r : Nat) {k : Nat} (hk : P ≤ k) : fa s t r k = fa s t r (k - P) := by
  rw [fa_cyc, fa_cyc]
  have h := hp.fix (k - P + r * (s.size - t))
  rw [← h]
  congr 1
  omega
/-- after how many rounds a twill repeats -/
def around (P t : Nat) : Nat := P / Nat.gcd P t
theorem around_gcd {P t : Nat} (h : 1 ≤ t) : (P : Int) / gcdI (P : Int) (t : Int) = (around P t : Nat) := by
  have e : gcdI (P : Int) (t : Int) = (Nat.gcd P t : Nat) := rfl
  rw [e]
  unfold around
  rw [Int.natCast_ediv]
theorem around_pos {P t : Nat} (h0 : 1 ≤ P) : 1 ≤ around P t := Nat.div_pos (Nat.le_of_dvd h0 (Nat.gcd_dvd_left _ _)) (Nat.gcd_pos_of_pos_left _ h0)
theorem around_le (P t : Nat) : around P t ≤ P := Nat.div_le_self _ _
theorem fa_around {s : ByteArray} {P t : Nat} (hp : Per s P) (ht : t ≤ s.size) (k : Nat) {r : Nat} (hr : around P t ≤ r) : fa s t r k = fa s t (r - around P t) k := by
  rw [fa_cyc, fa_cyc]
  have hm : (around P t * (s.size - t)) % P = 0 := by
    have h1 : (around P t * t) % P = 0 := rnd_zero t hp.pos
    obtain ⟨a, ha⟩ := Nat.dvd_of_mod_eq_zero h1
    obtain ⟨b, hb⟩ := Nat.dvd_of_mod_eq_zero hp.dvd
    have e : around P t * (s.size - t) = P * (around P t * b - a) := by
      rw [Nat.mul_sub, Nat.mul_sub, ha]
      congr 1
      conv => lhs; rw [hb]
      rw [Nat.mul_left_comm]
    rw [e, Nat.mul_mod_right]
  have h := (Fix.of_mod hp.fix hm) (k + (r - around P t) * (s.size - t))
  rw [← h]
  congr 1
  rw [Nat.add_assoc, ← Nat.add_mul]
  congr 2
  omega
/-- the run of equal strokes in round r that ends at stake k; 0 ahead of all -/
def runK (s : ByteArray) (t r : Nat) : Nat → Nat
  | 0 => 0
  | k + 1 => if 0 < k ∧ fa s t r k = fa s t r (k - 1) then runK s t r k + 1 else 1
theorem runK_le_re (s : ByteArray) (t r : Nat) : ∀ k, runK s t r (k + 1) ≤ re (cyc (byteAt s) s.size) (k + r * (s.size - t))
  | 0 => by
    have h := re_pos (cyc (byteAt s) s.size) (0 + r * (s.size - t))
    unfold runK
    rw [if_neg (fun q => Nat.lt_irrefl 0 q.1)]
    exact h
  | k + 1 => by
    have ih := runK_le_re s t r k
    unfold runK
    by_cases h : 0 < k + 1 ∧ fa s t r (k + 1) = fa s t r (k + 1 - 1)
    · rw [if_pos h]
      have h2 := h.2
      rw [show k + 1 - 1 = k from rfl, fa_cyc, fa_cyc, show k + 1 + r * (s.size - t) = (k + r * (s.size - t)) + 1 by omega] at h2
      rw [show k + 1 + r * (s.size - t) = (k + r * (s.size - t)) + 1 by omega, re_up h2]
      omega
    · rw [if_neg h]
      exact re_pos _ _
/-- a run of a text that is repeated is no longer than the longest one of it -/
theorem re_lrun {f : Nat → Int} {m : Nat} (hm : 0 < m) (h : ¬ oneK f m) (i : Nat) : re (cyc f m) i ≤ lrun f m := by
  obtain ⟨b, hb⟩ := one_break hm h
  have hle := re_le_m (cyc_per f m) hm hb i
  have hs := re_same (cyc f m) i
  have hi := re_le (cyc f m) i
  have hp := re_pos (cyc f m) i
  generalize re (cyc f m) i = q at *
  -- the same run, in the second copy
  obtain ⟨e, he⟩ : ∃ e, e = i % m + m := ⟨_, rfl⟩
  have hmod := Nat.mod_lt i hm
  have hlong := re_long (f := cyc f m) (a := e + 1 - q) (e := e) (by omega) fun j h1 h2 => by
    have hsh : ∀ x, x ≤ e → e + 1 - q ≤ x → cyc f m x = cyc f m i := fun x hx1 hx2 => by
      have hdm := Nat.div_add_mod i m
      by_cases hbig : m ≤ i
      · have hy := hs (x + i - e) (by omega) (by omega)
        rw [← hy]
        unfold cyc
        congr 1
        have hq1 : 1 ≤ i / m := Nat.div_pos hbig hm
        have : x + i - e = x + m * (i / m - 1) := by
          rw [Nat.mul_sub, Nat.mul_one]
          have := Nat.le_mul_of_pos_right m hq1
          omega
        rw [this, Nat.add_mul_mod_self_left]
      · have hi2 : i % m = i := Nat.mod_eq_of_lt (by omega)
        have hy := hs (x - m) (by omega) (by omega)
        rw [← hy]
        have := cyc_per f m (x - m)
        rw [show x - m + m = x by omega] at this
        exact this
    rw [hsh (j + 1) (by omega) (by omega), hsh j (by omega) (by omega)]
  have hmx := mx_at (f := cyc f m) (k := 2 * m) (i := e) (by omega)
  unfold lrun
  omega
theorem row_two {X : Nat → Int} {n : Nat} {st : Int} (T : Tw n X st) : ¬ oneK (byteAt (rowB X n)) (rowB X n).size := by
  intro h
  have h2 := T.n2
  have p0 := T.part 0 (by omega)
  have p1 := T.part 1 (by omega)
  have hz := row_size T
  have hw := T.wide2
  -- the first letter is F, the one behind the first part is B
  have key : ∀ m, 2 ≤ m → ∃ a b r, rowL X m = 70 :: (List.replicate a 70 ++ 66 :: (List.replicate b 66 ++ r)) ∧ a + 1 = (X 0).toNat := by
    intro m hm
    induction m with
    | zero => omega
    | succ m ih =>
      by_cases e : m = 1
      · subst e
        refine ⟨(X 0).toNat - 1, (X 1).toNat - 1, [], ?_, by omega⟩
        obtain ⟨a, ha⟩ : ∃ a, (X 0).toNat = a + 1 := ⟨(X 0).toNat - 1, by omega⟩
        obtain ⟨b, hb⟩ : ∃ b, (X 1).toNat = b + 1 := ⟨(X 1).toNat - 1, by omega⟩
        simp only [rowL, lt_even (show 0 % 2 = 0 from rfl), lt_odd (show ¬ 1 % 2 = 0 by decide), ha, hb, List.nil_append, List.replicate_succ, Nat.add_sub_cancel, List.append_nil, List.cons_append]
      · obtain ⟨a, b, r, h1, h3⟩ := ih (by omega)
        refine ⟨a, b, r ++ List.replicate (X m).toNat (lt m), ?_, h3⟩
        show rowL X m ++ _ = _
        rw [h1]
        simp
  obtain ⟨a, b, r, h1, h3⟩ := key n h2
  have hl := rowB_size X n
  rw [h1] at hl
  simp at hl
  have e0 : byteAt (rowB X n) 0 = 70 := by
    rw [byteAt_eq (by omega)]
    have : (rowB X n)[0]'(by omega) = (rowL X n)[0]'(by rw [h1]; simp) := rfl
    rw [this]
    simp [h1]
  have e1 : byteAt (rowB X n) (a + 1) = 66 := by
    rw [byteAt_eq (by omega)]
    have : (rowB X n)[a + 1]'(by omega) = (rowL X n)[a + 1]'(by rw [h1]; simp) := rfl
    rw [this]
    simp [h1]
  have := h (a + 1) (by omega)
  rw [e0, e1] at this
  omega
theorem run_wide {X : Nat → Int} {n : Nat} {st : Int} (T : Tw n X st) (t r k : Nat) : runK (rowB X n) t r (k + 1) ≤ lrun (byteAt (rowB X n)) (rowB X n).size :=
  Nat.le_trans (runK_le_re _ _ _ _) (re_lrun (by have := row_size T; have := T.wide2; omega) (row_two T) _)
/-- a draft has its own face -/
theorem face_self {x : ByteArray} {p : Nat} {st : Int} (h0 : 1 ≤ p) (hp : p ≤ x.size) : faceB x x p p st st = true := by
  rw [faceB_yes rfl rfl, oneTurn_iff]
  refine ⟨0, ?_, ?_⟩
  · rw [extract_size _ (by omega) hp]; omega
  · apply ext_byte
    · rw [tB_size _ (by omega)]
    · intro i hi
      rw [tB_size _ (by omega)] at hi
      rw [tB_byte _ (by omega) hi, Nat.add_zero, cyc_lt hi]
theorem sum_over {X : Nat → Int} : ∀ n, sumN (fun j => X (n - 1 - j)) n = sumN X n := by
  intro n
  have key : ∀ m, m ≤ n → sumN (fun j => X (n - 1 - j)) m + sumN X (n - m) = sumN X n := by
    intro m
    induction m with
    | zero => intro _; simp [sumN]
    | succ m ih =>
      intro hm
      have h := ih (by omega)
      obtain ⟨q, hq⟩ : ∃ q, n - m = q + 1 := ⟨n - m - 1, by omega⟩
      have e1 : n - (m + 1) = q := by omega
      have e2 : n - 1 - m = q := by omega
      rw [hq] at h
      have h4 : sumN X (q + 1) = sumN X q + X q := rfl
      have h5 : sumN (fun j => X (n - 1 - j)) (m + 1) = sumN (fun j => X (n - 1 - j)) m + X (n - 1 - m) := rfl
      rw [e1, h5, e2]
      omega
  have h := key n (Nat.le_refl _)
  rw [Nat.sub_self] at h
  have h0 : sumN X 0 = 0 := rfl
  omega

end Go.Proofs.YtopiecbldnhihaaDoor.twl
