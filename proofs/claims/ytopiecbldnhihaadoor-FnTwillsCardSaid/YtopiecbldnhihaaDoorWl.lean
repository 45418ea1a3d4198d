/-
  Contracts: the program's longest run; LongestFloat of the model and of the program.
-/
import Derived.Test.YtopiecbldnhihaaDoorFold4
import Derived.WalkLawsBesides
import Derived.Lib.IndexLaws
import Derived.Shelf.Strings.Search3
namespace Go.Proofs.YtopiecbldnhihaaDoor.wk
open Go.ChangeShapes Go.WideShapes Go.ChangeAt Go.RowKit
open Go.Proofs.YtopiecbldnhihaaDoor.mem Go.Proofs.YtopiecbldnhihaaDoor.rod Go.Proofs.YtopiecbldnhihaaDoor.wv
set_option linter.unusedVariables false

/-- the run ahead of k -/
def pr (f : Nat → Int) : Nat → Nat
  | 0 => 0
  | k + 1 => re f k
theorem pr_le (f : Nat → Int) (k : Nat) : pr f k ≤ k := by cases k with
  | zero => exact Nat.le_refl _
  | succ k => exact re_le f k
theorem two_byte (t : ByteArray) {k : Nat} (h : k < (t ++ t).size) : (((t ++ t)[k]'h).toNat : Int) = cyc (byteAt t) t.size k := by
  have hs : (t ++ t).size = t.size + t.size := ByteArray.size_append
  by_cases hk : k < t.size
  · rw [cyc_lt hk, byteAt_eq hk, ByteArray.getElem_append_left hk]
  · rw [cyc_two (by omega) (by omega), byteAt_eq (show k - t.size < t.size by omega), ByteArray.getElem_append_right (by omega)]

theorem iter_drew (w : World) (n q : Nat) (u : ByteArray) (k : Nat) : ((w.drewN n).iter u k).drewN q = (w.drewN (n + q)).iter u k := by
  rw [← World.drewN_drewN]; rfl

theorem iterPos_drew (w : World) (n : Nat) (u : ByteArray) (k : Nat) : ((w.drewN n).iter u k).iterPos w.heap.size = k := World.iterPos_iter (w.drewN n) u k

set_option maxHeartbeats 4000000 in
theorem longest_i (t : ByteArray) (w : World) (hs : t.size ≤ 60) (ha : ∀ i, i < t.size → byteAt t i < 128) :
    Calls Tryd.prog 64 #[.string t] w fun e w' => e = .returned (.int .i64 (lrun (byteAt t) t.size : Nat)) ∧ Below w.heap.size w w' := by
  have hsz : (t ++ t).size = 2 * t.size := by rw [ByteArray.size_append]; omega
  obtain ⟨f, hf⟩ : ∃ f, f = cyc (byteAt t) t.size := ⟨_, rfl⟩
  have hby : ∀ k (h : k < (t ++ t).size), (((t ++ t)[k]'h).toNat : Int) = f k := fun k h => by rw [hf]; exact two_byte t h
  have hasc : ∀ k, k < 2 * t.size → f k < 128 := fun k h => by
    rw [hf]
    exact ha _ (Nat.mod_lt _ (by omega))
  have HB := Lib.hid hby
  have HA := Lib.hid hasc
  unfold lrun
  rw [← hf]
  clear hf hby hasc ha
  go_enter Tryd.func64, Tryd.ntmps64
  go_wp2_with fail
  generalize hu : t ++ t = u at *
  clear hu
  have hz1 : u.size ≤ 2 * t.size := by omega
  have hz2 : 2 * t.size ≤ u.size := by omega
  clear hsz
  go_loopw [4, 3] (fun r m wr => ∃ k n : Nat, k ≤ 2 * t.size ∧ wr = (w.drewN n).iter u k ∧ r = .int .i64 ((pr f k : Nat) : Int) ∧ m = .int .i64 ((mx f k : Nat) : Int)) (fun _ _ wr => 2 * t.size - wr.iterPos w.heap.size)
  case atStart => exact ⟨0, 0, by omega, rfl, rfl, rfl⟩
  case round =>
    obtain ⟨k, n, hk, rfl, rfl, rfl⟩ := hrel
    have q1 := pr_le f k
    have q2 := mx_le f k
    by_cases hlt : k < u.size
    · have hlt2 : k < 2 * t.size := by omega
      have hlt' : (k : Int) < (u.size : Int) := by omega
      have hk0 : (0 : Int) ≤ (k : Int) := by omega
      have h128 : ((u[k]'hlt).toNat) < 128 := by
        have a := HA.out k hlt2
        rw [← HB.out k hlt] at a
        omega
      have hnx : ∀ ty, (Instr.next (.pointer (some ⟨w.heap.size, 0, none⟩)) true ty).run Tryd.prog ((w.drewN n).iter u k) = _ := fun ty => run_next_ascii (w.drewN n) u k ty hlt h128
      have m1 := Lib.hid (show mx f (k + 1) = max (mx f k) (re f k) from rfl)
      have m2 := Lib.hid (show pr f (k + 1) = re f k from rfl)
      by_cases hz : k = 0
      · have e1 : ((k : Int) == 0) = true := by rw [hz]; rfl
        have m3 := Lib.hid (show re f k = 1 by rw [hz]; rfl)
        clear hz
        go_wp2_with fail
        go_quiet (fail)
        go_wp2
        go_roundw
        case rel => exact ⟨k + 1, _, by omega, iter_drew _ _ _ _ _, by rw [m2.out, m3.out]; go_num, by rw [m1.out, m3.out]; go_num⟩
        case measure => simp [iter_drew, iterPos_drew]; omega
      · have e1 : ((k : Int) == 0) = false := beq_false_of_ne (by omega)
        obtain ⟨j, hj⟩ : ∃ j, k = j + 1 := ⟨k - 1, by omega⟩
        have hj1 : (k : Int) - 1 = (j : Int) := by omega
        have hj2 : IntKind.i64.wrap ((k : Int) - 1) = (j : Int) := by rw [hj1]; exact IntWalk.i64_in _ (by omega)
        have hjl : j < u.size := by omega
        have hjl' : (j : Int) < (u.size : Int) := by omega
        have hj0 : (0 : Int) ≤ (j : Int) := by omega
        have fk := HB.out k hlt
        have fj := HB.out j hjl
        have hp : pr f k = re f j := by rw [hj]; rfl
        have hr : re f k = if f k = f j then re f j + 1 else 1 := by rw [hj]; rfl
        by_cases hb : f k = f j
        · have g1 : (((u[k]'hlt).toNat : Int) == ((u[j]'hjl).toNat : Int)) = true := by rw [fk, fj, hb]; simp
          have g2 : (((u[k]'hlt).toNat : Int) != ((u[j]'hjl).toNat : Int)) = false := by rw [bne, g1]; rfl
          have m3 := Lib.hid (show re f k = pr f k + 1 by rw [hr, if_pos hb, hp])
          clear hb hr hp fk fj hj hz
          generalize pr f k = r0 at *
          generalize mx f k = m0 at *
          go_wp2_with fail
          go_quiet (fail)
          go_wp2
          go_roundw
          case rel => exact ⟨k + 1, _, by omega, iter_drew _ _ _ _ _, by rw [m2.out, m3.out]; go_num, by rw [m1.out, m3.out]; go_num⟩
          case measure => simp [iter_drew, iterPos_drew]; omega
        · have g1 : (((u[k]'hlt).toNat : Int) == ((u[j]'hjl).toNat : Int)) = false := by rw [fk, fj]; exact beq_false_of_ne hb
          have g2 : (((u[k]'hlt).toNat : Int) != ((u[j]'hjl).toNat : Int)) = true := by rw [bne, g1]; rfl
          have m3 := Lib.hid (show re f k = 1 by rw [hr, if_neg hb])
          clear hb hr hp fk fj hj hz
          generalize pr f k = r0 at *
          generalize mx f k = m0 at *
          go_wp2_with fail
          go_quiet (fail)
          go_wp2
          go_roundw
          case rel => exact ⟨k + 1, _, by omega, iter_drew _ _ _ _ _, by rw [m2.out, m3.out]; go_num, by rw [m1.out, m3.out]; go_num⟩
          case measure => simp [iter_drew, iterPos_drew]; omega
    · have hnx : ∀ ty, (Instr.next (.pointer (some ⟨w.heap.size, 0, none⟩)) true ty).run Tryd.prog ((w.drewN n).iter u k) = _ := fun ty => run_next_end (w.drewN n) u k ty hlt
      have hke : k = 2 * t.size := by omega
      have HK := Lib.hid hke
      clear hke
      go_wp2
      go_ret
      exact ⟨by rw [← HK.out]; go_num, ((drewN_below (Below.refl _ _) n).alloc (Nat.le_refl _) _)⟩

/-! ### LongestFloat -/
theorem index_mem (l : List UInt8) (c : UInt8) : 0 ≤ Lib.indexByte l c ↔ c ∈ l := by
  induction l with
  | nil => simp [Lib.indexByte]
  | cons b l ih =>
    have hge := Lib.indexByte_ge l c
    unfold Lib.indexByte
    by_cases hb : (b == c) = true
    · rw [if_pos hb]
      have : b = c := by simpa using hb
      simp [this]
    · rw [if_neg hb]
      have hne : ¬ c = b := fun e => hb (by simp [e])
      by_cases h1 : (Lib.indexByte l c == -1) = true
      · rw [if_pos h1]
        have h2 : Lib.indexByte l c = -1 := by simpa using h1
        have h3 : ¬ c ∈ l := fun h => by have := ih.2 h; omega
        simp [hne, h3]
      · rw [if_neg h1]
        have h2 : ¬ Lib.indexByte l c = -1 := fun e => h1 (by simp [e])
        have h3 : c ∈ l := ih.1 (by omega)
        simp [h3]; omega
theorem mem_at (s : ByteArray) (c : UInt8) : c ∈ s.data.toList ↔ ∃ i, i < s.size ∧ byteAt s i = (c.toNat : Int) := by
  constructor
  · intro h
    obtain ⟨i, hi, e⟩ := List.getElem_of_mem h
    have hi' : i < s.size := by simpa using hi
    refine ⟨i, hi', ?_⟩
    rw [byteAt_eq hi', ← e]
    rfl
  · rintro ⟨i, hi, e⟩
    rw [byteAt_eq hi] at e
    have h2 : s[i]'hi = c := UInt8.toNat_inj.1 (by omega)
    rw [← h2]
    exact List.getElem_mem (l := s.data.toList) (by simpa using hi)
/-- the text has the side -/
def hasB (s : ByteArray) (c : UInt8) : Bool := decide (0 ≤ Lib.indexByte s.data.toList c)
theorem hasB_iff (s : ByteArray) (c : UInt8) : hasB s c = true ↔ ∃ i, i < s.size ∧ byteAt s i = (c.toNat : Int) := by
  unfold hasB; rw [decide_eq_true_eq, index_mem, mem_at]
theorem kinds_has {s : ByteArray} (hs : strokeB s = true) : ¬ oneK (byteAt s) s.size ↔ hasB s 70 = true ∧ hasB s 66 = true := by
  obtain ⟨h0, h1, h2⟩ := stroke_of hs
  rw [two_kinds h0 h2, hasB_iff, hasB_iff]
  exact Iff.rfl
/-- the answer of LongestFloat -/
def floatA (s : ByteArray) : Int × Int := if strokeB s = false then (0, 1) else if frun (byteAt s) s.size = 0 then (0, 6) else ((frun (byteAt s) s.size : Nat), 0)
theorem ascii_stroke {s : ByteArray} (hs : strokeB s = true) : ∀ i, i < s.size → byteAt s i < 128 := fun i hi => by
  have := (stroke_of hs).2.2 i hi
  omega
end Go.Proofs.YtopiecbldnhihaaDoor.wk
