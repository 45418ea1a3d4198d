/-
  Texts that are turned, and their periods: mathematics, and the contract of the model's period. No condition of a statement lies here.
-/
import Derived.Test.YtopiecbldnhihaaDoorFold8
namespace Go.Proofs.YtopiecbldnhihaaDoor.twl
open Go.ChangeShapes Go.WideShapes Go.ChangeAt Go.RowKit Go.Deep Go.Proofs.YtopiecbldnhihaaDoor.mem Go.Proofs.YtopiecbldnhihaaDoor.rod Go.Proofs.YtopiecbldnhihaaDoor.nums Go.Proofs.YtopiecbldnhihaaDoor.shp Go.Proofs.YtopiecbldnhihaaDoor.wv Go.Proofs.YtopiecbldnhihaaDoor.wk
set_option linter.unusedVariables false
set_option maxRecDepth 100000

theorem ext_byte {a b : ByteArray} (h : a.size = b.size) (hb : ∀ i, i < a.size → byteAt a i = byteAt b i) : a = b := by
  apply ByteArray.ext_getElem h
  intro i h1 h2
  have := hb i h1
  rw [byteAt_eq h1, byteAt_eq h2] at this
  exact UInt8.toNat_inj.1 (by omega)
theorem extract_size (s : ByteArray) {i j : Nat} (hi : i ≤ j) (hj : j ≤ s.size) : (s.extract i j).size = j - i := by
  rw [ByteArray.size_extract]; omega
theorem extract_byte (s : ByteArray) {i j k : Nat} (hj : j ≤ s.size) (hk : i + k < j) : byteAt (s.extract i j) k = byteAt s (i + k) := by
  have h1 : k < (s.extract i j).size := by rw [ByteArray.size_extract]; omega
  rw [byteAt_eq h1, byteAt_eq (show i + k < s.size by omega), ByteArray.getElem_extract]
theorem append_byte (a b : ByteArray) {k : Nat} (hk : k < a.size + b.size) : byteAt (a ++ b) k = if k < a.size then byteAt a k else byteAt b (k - a.size) := by
  have h1 : k < (a ++ b).size := by rw [ByteArray.size_append]; exact hk
  rw [byteAt_eq h1]
  split
  · rename_i h
    rw [byteAt_eq h, ByteArray.getElem_append_left h]
  · rename_i h
    rw [byteAt_eq (show k - a.size < b.size by omega), ByteArray.getElem_append_right (by omega)]
/-- the text with its first k letters at its end -/
def tB (s : ByteArray) (k : Nat) : ByteArray := s.extract k s.size ++ s.extract 0 k
theorem tB_size (s : ByteArray) {k : Nat} (hk : k ≤ s.size) : (tB s k).size = s.size := by
  unfold tB
  rw [ByteArray.size_append, extract_size s hk (Nat.le_refl _), extract_size s (Nat.zero_le _) hk]; omega
theorem tB_byte (s : ByteArray) {k i : Nat} (hk : k ≤ s.size) (hi : i < s.size) : byteAt (tB s k) i = cyc (byteAt s) s.size (i + k) := by
  have e1 := extract_size s hk (Nat.le_refl _)
  have e2 := extract_size s (Nat.zero_le _) hk
  unfold tB
  rw [append_byte _ _ (by omega), e1]
  split
  · rename_i h
    rw [extract_byte s (Nat.le_refl _) (by omega), cyc_lt (by omega), Nat.add_comm]
  · rename_i h
    rw [extract_byte s hk (by omega), cyc_two (by omega) (by omega)]
    congr 1
    omega

/-- turned by p the text is itself -/
def Fix (s : ByteArray) (p : Nat) : Prop := ∀ i, cyc (byteAt s) s.size (i + p) = cyc (byteAt s) s.size i
theorem Fix.mul {s : ByteArray} {p : Nat} (h : Fix s p) (q i : Nat) : cyc (byteAt s) s.size (i + p * q) = cyc (byteAt s) s.size i := by
  induction q with
  | zero => rfl
  | succ q ih => rw [Nat.mul_succ, ← Nat.add_assoc, h, ih]
theorem fix_size (s : ByteArray) : Fix s s.size := fun i => cyc_per _ _ _
theorem Fix.rest {s : ByteArray} {p k : Nat} (h : Fix s p) (hk : Fix s k) : Fix s (k % p) := fun i => by
  have h1 := h.mul (k / p) (i + k % p)
  have h2 := Nat.div_add_mod k p
  rw [Nat.add_assoc, show k % p + p * (k / p) = k by omega, hk] at h1
  exact h1.symm
structure Per (s : ByteArray) (p : Nat) : Prop where
  pos : 1 ≤ p
  le : p ≤ s.size
  fix : Fix s p
  least : ∀ q, 1 ≤ q → q < p → ¬ Fix s q
theorem Per.ex {s : ByteArray} (h : 0 < s.size) : ∃ p, Per s p := by
  have key : ∀ n p, p ≤ n → 1 ≤ p → p ≤ s.size → Fix s p → ∃ p, Per s p := by
    intro n
    induction n with
    | zero => intro p a b; omega
    | succ n ih =>
      intro p a b c d
      by_cases hq : ∃ q, 1 ≤ q ∧ q < p ∧ Fix s q
      · obtain ⟨q, q1, q2, q3⟩ := hq
        exact ih q (by omega) q1 (by omega) q3
      · exact ⟨p, b, c, d, fun q q1 q2 q3 => hq ⟨q, q1, q2, q3⟩⟩
  exact key s.size s.size (Nat.le_refl _) h (Nat.le_refl _) (fix_size s)
theorem Per.uniq {s : ByteArray} {p q : Nat} (hp : Per s p) (hq : Per s q) : p = q := by
  rcases Nat.lt_trichotomy p q with h | h | h
  · exact absurd hp.fix (hq.least p hp.pos h)
  · exact h
  · exact absurd hq.fix (hp.least q hq.pos h)
theorem Per.mod {s : ByteArray} {p k : Nat} (hp : Per s p) (hk : Fix s k) : k % p = 0 := by
  by_cases h : k % p = 0
  · exact h
  · exact absurd (hp.fix.rest hk) (hp.least _ (by omega) (Nat.mod_lt _ hp.pos))
theorem Per.dvd {s : ByteArray} {p : Nat} (hp : Per s p) : s.size % p = 0 := hp.mod (fix_size s)
theorem Fix.of_mod {s : ByteArray} {p k : Nat} (hp : Fix s p) (h : k % p = 0) : Fix s k := fun i => by
  have := hp.mul (k / p) i
  have h2 := Nat.div_add_mod k p
  rwa [show p * (k / p) = k by omega] at this
theorem fix_iff {s : ByteArray} {p : Nat} (h0 : 0 < s.size) : Fix s p ↔ ∀ i, i < s.size → cyc (byteAt s) s.size (i + p) = cyc (byteAt s) s.size i := by
  constructor
  · exact fun h i _ => h i
  · intro h i
    have h1 := h (i % s.size) (Nat.mod_lt _ h0)
    unfold cyc at h1 ⊢
    rw [Nat.mod_add_mod, Nat.mod_mod] at h1
    exact h1
/-- two turns are one just if they are equally far but for periods -/
theorem turn_eq {s : ByteArray} {p j k : Nat} (h0 : 0 < s.size) (hp : Per s p) (hj : j ≤ s.size) (hk : k ≤ s.size) : tB s j = tB s k ↔ j % p = k % p := by
  have key : ∀ j k, j ≤ k → j ≤ s.size → k ≤ s.size → (tB s j = tB s k ↔ j % p = k % p) := by
    intro j k hjk hj hk
    have e : tB s j = tB s k ↔ Fix s (k - j) := by
      constructor
      · intro h
        refine (fix_iff h0).2 fun i hi => ?_
        have hb : ∀ a, cyc (byteAt s) s.size (a + j) = cyc (byteAt s) s.size (a + k) := fun a => by
          have h1 : byteAt (tB s j) (a % s.size) = byteAt (tB s k) (a % s.size) := by rw [h]
          rw [tB_byte s hj (Nat.mod_lt _ h0), tB_byte s hk (Nat.mod_lt _ h0)] at h1
          unfold cyc at h1 ⊢
          rw [Nat.mod_add_mod, Nat.mod_add_mod] at h1
          exact h1
        have h1 := hb (i + (s.size - j))
        rw [show i + (s.size - j) + j = i + s.size by omega, show i + (s.size - j) + k = i + (k - j) + s.size by omega, cyc_per, cyc_per] at h1
        exact h1.symm
      · intro h
        refine ext_byte (by rw [tB_size s hj, tB_size s hk]) fun i hi => ?_
        rw [tB_size s hj] at hi
        rw [tB_byte s hj hi, tB_byte s hk hi]
        have h1 := h (i + j)
        rw [show i + j + (k - j) = i + k by omega] at h1
        exact h1.symm
    rw [e]
    constructor
    · intro h
      have h1 := hp.mod h
      have h2 := Nat.div_add_mod (k - j) p
      rw [h1, Nat.add_zero] at h2
      rw [show k = j + p * ((k - j) / p) by omega, Nat.add_mul_mod_self_left]
    · intro h
      refine hp.fix.of_mod ?_
      exact Nat.sub_mod_eq_zero_of_mod_eq h.symm
  rcases Nat.le_total j k with h | h
  · exact key j k h hj hk
  · rw [eq_comm, key k j h hk hj, eq_comm]

theorem beq_list {a b : ByteArray} : (a.toList == b.toList) = decide (a = b) := by
  rw [Bool.eq_iff_iff, beq_iff_eq, decide_eq_true_eq, ByteArray.toList_eq, ByteArray.toList_eq]
  constructor
  · intro h; exact ByteArray.ext (Array.toList_inj.1 h)
  · intro h; rw [h]

set_option maxHeartbeats 400000 in
theorem turnT_i (s : ByteArray) (k : Nat) (w : World) (hs : s.size ≤ 12) (hk : k ≤ s.size) :
    Calls Tryd.prog 71 #[.string s, .int .i64 (k : Int)] w fun e w' => e = .returned (.string (tB s k)) ∧ Drew w w' := by
  have hk' : (k : Int) ≤ (s.size : Int) := by omega
  have hk0 : (0 : Int) ≤ (k : Int) := by omega
  go_enter Tryd.func71, Tryd.ntmps71
  go_wp2_with fail
  go_quiet (fail)
  go_wp2
  go_ret
  exact ⟨rfl, (Drew.refl _).drewN _⟩

theorem fix_parts {s : ByteArray} {k : Nat} (h1 : 1 ≤ k) (h2 : k < s.size) : (s.extract 0 k = s.extract (s.size - k) s.size ∧ s.extract k s.size = s.extract 0 (s.size - k)) ↔ Fix s k := by
  have z1 := extract_size s (Nat.zero_le k) (by omega)
  have z2 := extract_size s (show s.size - k ≤ s.size by omega) (Nat.le_refl _)
  have z3 := extract_size s (show k ≤ s.size by omega) (Nat.le_refl _)
  have z4 := extract_size s (Nat.zero_le (s.size - k)) (by omega)
  rw [fix_iff (by omega)]
  constructor
  · rintro ⟨e1, e2⟩ i hi
    by_cases h : i < s.size - k
    · have := congrArg (fun b => byteAt b i) e2
      rw [extract_byte s (Nat.le_refl _) (by omega), extract_byte s (by omega) (by omega)] at this
      rw [cyc_lt (by omega), cyc_lt hi, Nat.add_comm, this, Nat.zero_add]
    · have := congrArg (fun b => byteAt b (i - (s.size - k))) e1
      rw [extract_byte s (by omega) (by omega), extract_byte s (Nat.le_refl _) (by omega)] at this
      rw [cyc_two (by omega) (by omega), cyc_lt hi, show i + k - s.size = 0 + (i - (s.size - k)) by omega, this]
      congr 1
      omega
  · intro h
    constructor
    · refine ext_byte (by omega) fun i hi => ?_
      rw [z1] at hi
      rw [extract_byte s (by omega) (by omega), extract_byte s (Nat.le_refl _) (by omega)]
      have h3 := h (s.size - k + i) (by omega)
      rw [cyc_two (by omega) (by omega), cyc_lt (by omega)] at h3
      rw [← h3]
      congr 1
      omega
    · refine ext_byte (by omega) fun i hi => ?_
      rw [z3] at hi
      rw [extract_byte s (Nat.le_refl _) (by omega), extract_byte s (by omega) (by omega)]
      have h3 := h i (by omega)
      rw [cyc_lt (by omega), cyc_lt (by omega)] at h3
      rw [Nat.add_comm, h3, Nat.zero_add]
/-- the three ways a number is no period, and the one way it is -/
theorem per_test {s : ByteArray} {P k : Nat} (hp : Per s P) (h1 : 1 ≤ k) (h2 : k < s.size) (hk : k ≤ P) :
    (k ≠ P ∧ ¬ s.size % k = 0) ∨ (k ≠ P ∧ s.size % k = 0 ∧ ¬ s.extract 0 k = s.extract (s.size - k) s.size) ∨ (k ≠ P ∧ s.size % k = 0 ∧ s.extract 0 k = s.extract (s.size - k) s.size ∧ ¬ s.extract k s.size = s.extract 0 (s.size - k))
      ∨ (k = P ∧ s.size % k = 0 ∧ s.extract 0 k = s.extract (s.size - k) s.size ∧ s.extract k s.size = s.extract 0 (s.size - k)) := by
  by_cases e : k = P
  · subst e
    obtain ⟨a, b⟩ := (fix_parts h1 h2).2 hp.fix
    exact .inr (.inr (.inr ⟨rfl, hp.dvd, a, b⟩))
  · by_cases d : s.size % k = 0
    · by_cases a : s.extract 0 k = s.extract (s.size - k) s.size
      · refine .inr (.inr (.inl ⟨e, d, a, fun b => hp.least k h1 (by omega) ((fix_parts h1 h2).1 ⟨a, b⟩)⟩))
      · exact .inr (.inl ⟨e, d, a⟩)
    · exact .inl ⟨e, d⟩

set_option maxHeartbeats 1000000 in
theorem period_s (s : ByteArray) (P : Nat) (w : World) (hs : s.size ≤ 12) (hp : Per s P) :
    Calls Tryd.prog 38 #[.string s] w fun e w' => e = .returned (.int .i64 (P : Int)) ∧ Drew w w' := by
  have hP1 := hp.pos
  have hP2 := hp.le
  have HT := Lib.hid (fun k h1 h2 hk => per_test (k := k) hp h1 h2 hk)
  clear hp
  go_enter Tryd.func38, Tryd.ntmps38
  go_wp2_with fail
  go_loopw [4] (fun i wr => ∃ k : Nat, 1 ≤ k ∧ k ≤ P ∧ i = .int .i64 k ∧ Drew w wr) (fun i _ => s.size - (intOf i).toNat)
  case atStart => exact ⟨1, by omega, hP1, rfl, Drew.refl _⟩
  case round =>
    obtain ⟨k, hk1, hk, rfl, hd⟩ := hrel
    by_cases hlt : k < s.size
    · have hlt' : (k : Int) < (s.size : Int) := by omega
      have hk0 : (0 : Int) ≤ (k : Int) := by omega
      have hk2 : ((k : Int) == 0) = false := beq_false_of_ne (by omega)
      have hk3 : 1 ≤ (k : Int) := by omega
      have hr0 : 0 ≤ (s.size : Int) % (k : Int) := Int.emod_nonneg _ (by omega)
      have hr1 : (s.size : Int) % (k : Int) < (k : Int) := Int.emod_lt_of_pos _ (by omega)
      obtain ⟨q, hq⟩ : ∃ q : Nat, q = s.size - k := ⟨_, rfl⟩
      have hs1 : IntKind.i64.wrap ((s.size : Int) - (k : Int)) = (q : Int) := by rw [IntKind.wrap_i64]; omega
      have hq0 : (0 : Int) ≤ (q : Int) := by omega
      have hq1 : (q : Int) ≤ (s.size : Int) := by omega
      have hk4 : (k : Int) ≤ (s.size : Int) := by omega
      have hT := HT.out k hk1 hlt hk
      rw [← hq] at hT
      rcases hT with ⟨e, d⟩ | ⟨e, d, a⟩ | ⟨e, d, a, b⟩ | ⟨e, d, a, b⟩
      · have hm := Int.natCast_emod s.size k
        have m2 : ((s.size : Int) % (k : Int) == 0) = false := beq_false_of_ne (by omega)
        clear hm d hq
        go_wp2_with fail
        go_quiet (fail)
        go_wp2
        go_roundw
        case rel => exact ⟨k + 1, by omega, by omega, by go_num, hd.drewN _⟩
        case measure => simp [intOf]; omega
      · have hm := Int.natCast_emod s.size k
        have m2 : ((s.size : Int) % (k : Int) == 0) = true := beq_iff_eq.2 (by omega)
        have a1 : ((s.extract 0 k).toList == (s.extract q s.size).toList) = false := by rw [beq_list]; exact decide_eq_false a
        clear hm d hq a
        go_wp2_with fail
        go_quiet (fail)
        go_wp2
        go_roundw
        case rel => exact ⟨k + 1, by omega, by omega, by go_num, hd.drewN _⟩
        case measure => simp [intOf]; omega
      · have hm := Int.natCast_emod s.size k
        have m2 : ((s.size : Int) % (k : Int) == 0) = true := beq_iff_eq.2 (by omega)
        have a1 : ((s.extract 0 k).toList == (s.extract q s.size).toList) = true := by rw [beq_list]; exact decide_eq_true a
        have b1 : ((s.extract k s.size).toList == (s.extract 0 q).toList) = false := by rw [beq_list]; exact decide_eq_false b
        clear hm d hq a b
        go_wp2_with fail
        go_quiet (fail)
        go_wp2
        go_roundw
        case rel => exact ⟨k + 1, by omega, by omega, by go_num, hd.drewN _⟩
        case measure => simp [intOf]; omega
      · have hm := Int.natCast_emod s.size k
        have m2 : ((s.size : Int) % (k : Int) == 0) = true := beq_iff_eq.2 (by omega)
        have a1 : ((s.extract 0 k).toList == (s.extract q s.size).toList) = true := by rw [beq_list]; exact decide_eq_true a
        have b1 : ((s.extract k s.size).toList == (s.extract 0 q).toList) = true := by rw [beq_list]; exact decide_eq_true b
        have he := Lib.hid e
        clear hm d hq a b e
        go_wp2_with fail
        go_quiet (fail)
        go_wp2
        go_ret
        exact ⟨by rw [← he.out]; rfl, hd.drewN _⟩
    · obtain rfl : k = P := by omega
      obtain hsz : s.size = k := by omega
      go_wp2
      go_ret
      exact ⟨by rw [hsz]; rfl, hd⟩

end Go.Proofs.YtopiecbldnhihaaDoor.twl
