/-
  The mathematics of floats: the longest run of a text that is repeated is 1 just if neighbours differ; along stakes. No function of the program lies here.
-/
import Derived.Test.YtopiecbldnhihaaDoorFold8
import Derived.Test.YtopiecbldnhihaaDoorFold9
namespace Go.Proofs.YtopiecbldnhihaaDoor.twl
open Go.ChangeShapes Go.WideShapes Go.ChangeAt Go.RowKit Go.Deep Go.Proofs.YtopiecbldnhihaaDoor.mem Go.Proofs.YtopiecbldnhihaaDoor.rod Go.Proofs.YtopiecbldnhihaaDoor.nums Go.Proofs.YtopiecbldnhihaaDoor.shp Go.Proofs.YtopiecbldnhihaaDoor.wv Go.Proofs.YtopiecbldnhihaaDoor.wk
set_option linter.unusedVariables false
set_option maxRecDepth 100000

theorem re_up {f : Nat → Int} {k : Nat} (h : f (k + 1) = f k) : re f (k + 1) = re f k + 1 := if_pos h
theorem re_one {f : Nat → Int} {k : Nat} (h : ¬ f (k + 1) = f k) : re f (k + 1) = 1 := if_neg h
theorem cyc_next (f : Nat → Int) {m : Nat} (hm : 0 < m) (i : Nat) : cyc f m (i + 1) = cyc f m (i % m + 1) := by
  unfold cyc; rw [Nat.mod_add_mod]
/-- neighbours differ everywhere -/
def diff (f : Nat → Int) (m : Nat) : Prop := ∀ i, i < m → cyc f m (i + 1) ≠ cyc f m i
instance (f : Nat → Int) (m : Nat) : Decidable (diff f m) := by unfold diff; exact inferInstance
theorem lrun_diff {f : Nat → Int} {m : Nat} (hm : 2 ≤ m) : lrun f m = 1 ↔ diff f m := by
  constructor
  · intro h i hi he
    have h1 : re (cyc f m) (i + 1) = re (cyc f m) i + 1 := re_up he
    have h2 := re_pos (cyc f m) i
    have h3 := mx_at (f := cyc f m) (k := 2 * m) (i := i + 1) (by omega)
    unfold lrun at h
    omega
  · intro h
    have hall : ∀ i, ¬ cyc f m (i + 1) = cyc f m i := fun i he => by
      have h1 := h (i % m) (Nat.mod_lt _ (by omega))
      apply h1
      rw [← cyc_next f (by omega), he]
      unfold cyc; rw [Nat.mod_mod]
    have h1 : mx (cyc f m) (2 * m) ≤ 1 := mx_get _ _ _ fun i _ => by
      cases i with
      | zero => exact Nat.le_refl _
      | succ j => rw [re_one (hall j)]; exact Nat.le_refl _
    have h2 := mx_at (f := cyc f m) (k := 2 * m) (i := 0) (by omega)
    have h3 := re_pos (cyc f m) 0
    unfold lrun
    omega
theorem lrun_pos {f : Nat → Int} {m : Nat} (hm : 0 < m) : 1 ≤ lrun f m := by
  have h2 := mx_at (f := cyc f m) (k := 2 * m) (i := 0) (by omega)
  have h3 := re_pos (cyc f m) 0
  unfold lrun
  omega

/-- the greatest of the first k numbers -/
def hiTo (f : Nat → Nat) : Nat → Nat
  | 0 => 0
  | k + 1 => max (hiTo f k) (f k)
theorem hiTo_le {f : Nat → Nat} {c : Nat} : ∀ {k : Nat}, (∀ i, i < k → f i ≤ c) → hiTo f k ≤ c
  | 0, _ => Nat.zero_le _
  | k + 1, h => by
    have h1 := hiTo_le (k := k) fun i hi => h i (by omega)
    have h2 := h k (by omega)
    show max (hiTo f k) (f k) ≤ c
    omega
theorem hiTo_at {f : Nat → Nat} : ∀ {k i : Nat}, i < k → f i ≤ hiTo f k
  | k + 1, i, h => by
    show f i ≤ max (hiTo f k) (f k)
    by_cases e : i = k
    · subst e; omega
    · have := hiTo_at (f := f) (k := k) (i := i) (by omega)
      omega
/-- what a stake sees, round by round -/
def lineU (s : ByteArray) (t k : Nat) : Nat → UInt8 := fun r => byteU s (plc s.size t k r)
def lineB (s : ByteArray) (t k : Nat) : ByteArray := mkB (lineU s t k) (rnd s.size t)
/-- the longest float along stakes -/
def alongN (s : ByteArray) (t : Nat) : Nat := hiTo (fun k => lrun (byteAt (lineB s t k)) (lineB s t k).size) s.size
theorem lineB_size (s : ByteArray) (t k : Nat) : (lineB s t k).size = rnd s.size t := mkB_size _ _
theorem plc_add {n t k r : Nat} : plc n t k (r + 1) = plc n t (plc n t k r) 1 := by
  unfold plc
  rw [Nat.one_mul, Nat.mod_add_mod, Nat.add_mul, Nat.one_mul, Nat.add_assoc]
theorem rnd_two {n t : Nat} (h1 : 1 ≤ t) (h2 : t < n) : 2 ≤ rnd n t := by
  unfold rnd
  have hg1 : Nat.gcd n t ≤ t := Nat.le_of_dvd h1 (Nat.gcd_dvd_right _ _)
  have hg0 : 0 < Nat.gcd n t := Nat.gcd_pos_of_pos_right _ h1
  obtain ⟨q, hq⟩ := Nat.gcd_dvd_left n t
  have e : n / Nat.gcd n t = q := by
    conv => lhs; lhs; rw [hq]
    exact Nat.mul_div_cancel_left _ hg0
  rw [e]
  rcases Nat.lt_or_ge q 2 with h | h
  · exfalso
    have h3 : q = 0 ∨ q = 1 := by omega
    rcases h3 with rfl | rfl
    · omega
    · omega
  · exact h
theorem plc_end {n t k : Nat} (hn : 0 < n) (ht : t ≤ n) : plc n t k (rnd n t) = plc n t k 0 := by
  unfold plc
  have h0 := rnd_zero (n := n) t hn
  obtain ⟨q, hq⟩ := Nat.dvd_of_mod_eq_zero h0
  have e : rnd n t * (n - t) = n * (rnd n t - q) := by
    rw [Nat.mul_sub, hq, Nat.mul_comm (rnd n t) n, ← Nat.mul_sub]
  rw [e, Nat.add_mul_mod_self_left, Nat.zero_mul, Nat.add_zero]
theorem plc_per {n t k r : Nat} (hn : 0 < n) (ht : t ≤ n) (hr : r < rnd n t) : plc n t k ((r + 1) % rnd n t) = plc n t k (r + 1) := by
  by_cases e : r + 1 = rnd n t
  · rw [e, Nat.mod_self, plc_end hn ht]
  · rw [Nat.mod_eq_of_lt (by omega)]
/-- neighbouring strokes differ everywhere -/
def plainB (s : ByteArray) (t : Nat) : Bool := decide (∀ k, k < s.size → byteAt s k ≠ byteAt s ((k + 1) % s.size) ∧ byteAt s k ≠ byteAt s (plc s.size t k 1))
theorem line_cyc {s : ByteArray} {t k r : Nat} (h0 : 0 < s.size) (ht : t ≤ s.size) (hr : r < rnd s.size t) :
    cyc (byteAt (lineB s t k)) (rnd s.size t) r = byteAt s (plc s.size t k r) ∧ cyc (byteAt (lineB s t k)) (rnd s.size t) (r + 1) = byteAt s (plc s.size t (plc s.size t k r) 1) := by
  constructor
  · rw [cyc_lt hr, byteU_at s]
    exact mkB_byte _ hr
  · unfold cyc
    rw [← plc_add, ← plc_per h0 ht hr, byteU_at s]
    exact mkB_byte _ (Nat.mod_lt _ (by omega))
theorem plain_iff {s : ByteArray} {t : Nat} (h0 : 2 ≤ s.size) (h1 : 1 ≤ t) (h2 : t < s.size) : (decide (lrun (byteAt s) s.size = 1) && decide (alongN s t = 1)) = plainB s t := by
  have hR := rnd_two h1 h2
  have hA : alongN s t = 1 ↔ ∀ k, k < s.size → diff (byteAt (lineB s t k)) (rnd s.size t) := by
    constructor
    · intro h k hk
      have h3 := hiTo_at (f := fun k => lrun (byteAt (lineB s t k)) (lineB s t k).size) hk
      have h4 : hiTo (fun k => lrun (byteAt (lineB s t k)) (lineB s t k).size) s.size = 1 := h
      rw [h4] at h3
      have h5 : lrun (byteAt (lineB s t k)) (lineB s t k).size ≤ 1 := h3
      rw [lineB_size] at h5
      have h6 := lrun_pos (f := byteAt (lineB s t k)) (m := rnd s.size t) (by omega)
      exact (lrun_diff hR).1 (by omega)
    · intro h
      have h3 : hiTo (fun k => lrun (byteAt (lineB s t k)) (lineB s t k).size) s.size ≤ 1 := hiTo_le fun i hi => by
        show lrun (byteAt (lineB s t i)) (lineB s t i).size ≤ 1
        rw [lineB_size, (lrun_diff hR).2 (h i hi)]
        exact Nat.le_refl _
      have h4 := hiTo_at (f := fun k => lrun (byteAt (lineB s t k)) (lineB s t k).size) (k := s.size) (i := 0) (by omega)
      have h5 : 1 ≤ lrun (byteAt (lineB s t 0)) (lineB s t 0).size := by rw [lineB_size]; exact lrun_pos (by omega)
      have h6 : lrun (byteAt (lineB s t 0)) (lineB s t 0).size ≤ hiTo (fun k => lrun (byteAt (lineB s t k)) (lineB s t k).size) s.size := h4
      show hiTo (fun k => lrun (byteAt (lineB s t k)) (lineB s t k).size) s.size = 1
      omega
  have key : (lrun (byteAt s) s.size = 1 ∧ alongN s t = 1) ↔ (∀ k, k < s.size → byteAt s k ≠ byteAt s ((k + 1) % s.size) ∧ byteAt s k ≠ byteAt s (plc s.size t k 1)) := by
    rw [lrun_diff h0, hA]
    constructor
    · rintro ⟨ha, hb⟩ k hk
      constructor
      · have := ha k hk
        rw [cyc_lt hk] at this
        exact fun e => this e.symm
      · have := hb k hk 0 (by omega)
        obtain ⟨e1, e2⟩ := line_cyc (s := s) (t := t) (k := k) (r := 0) (by omega) (by omega) (by omega)
        rw [e1, e2] at this
        have e3 : plc s.size t k 0 = k := by unfold plc; rw [Nat.zero_mul, Nat.add_zero, Nat.mod_eq_of_lt hk]
        rw [e3] at this
        exact fun e => this e.symm
    · intro h
      constructor
      · intro k hk
        rw [cyc_lt hk]
        exact fun e => (h k hk).1 e.symm
      · intro k hk r hr
        obtain ⟨e1, e2⟩ := line_cyc (s := s) (t := t) (k := k) (r := r) (by omega) (by omega) hr
        rw [e1, e2]
        exact fun e => (h _ (plc_lt (by omega))).2 e.symm
  unfold plainB
  by_cases h : lrun (byteAt s) s.size = 1 ∧ alongN s t = 1
  · rw [decide_eq_true (key.1 h), decide_eq_true h.1, decide_eq_true h.2]; rfl
  · rw [decide_eq_false (fun q => h (key.2 q))]
    by_cases h3 : lrun (byteAt s) s.size = 1
    · rw [decide_eq_false (fun q => h ⟨h3, q⟩)]; simp
    · rw [decide_eq_false h3]; rfl

end Go.Proofs.YtopiecbldnhihaaDoor.twl
