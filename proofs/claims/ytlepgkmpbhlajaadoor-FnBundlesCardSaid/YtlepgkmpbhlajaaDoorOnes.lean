/-
  Counting bits: the library's tables, and the numbers that bits tell.
-/
import Derived.Test.YtlepgkmpbhlajaaDoorPick
import Derived.Lib.BitFns
import Derived.Lib.Small
namespace Go.Proofs.YtlepgkmpbhlajaaDoor.rod
open Go.ChangeShapes Go.WideShapes Go.ChangeAt Go.RowKit Go.Proofs.YtlepgkmpbhlajaaDoor.mem Go.Proofs.YtlepgkmpbhlajaaDoor.nums
set_option linter.unusedVariables false

/-- how many of the first n hold -/
def cnt (f : Nat → Bool) : Nat → Nat
  | 0 => 0
  | n + 1 => cnt f n + if f n then 1 else 0
theorem idxs_cnt (f : Nat → Bool) : ∀ n, (idxs f n).length = cnt f n
  | 0 => rfl
  | n + 1 => by
    cases e : f n
    · rw [idxs_no e, idxs_cnt f n]; simp [cnt, e]
    · rw [idxs_yes e, List.length_append, idxs_cnt f n]; simp [cnt, e]
theorem cnt_low (f : Nat → Bool) : ∀ n, cnt f (n + 1) = (if f 0 then 1 else 0) + cnt (fun i => f (i + 1)) n
  | 0 => by simp [cnt]
  | n + 1 => by
    have := cnt_low f n
    simp only [cnt] at this ⊢
    omega
theorem cnt_more (f : Nat → Bool) {m : Nat} : ∀ n, m ≤ n → (∀ i, m ≤ i → f i = false) → cnt f n = cnt f m
  | 0, h, _ => by obtain rfl : m = 0 := by omega
                  rfl
  | n + 1, h, hf => by
    by_cases e : m = n + 1
    · subst e; rfl
    · simp only [cnt, hf n (by omega)]
      rw [cnt_more f n (by omega) hf]; simp
theorem idxs_more (f : Nat → Bool) {m : Nat} : ∀ n, m ≤ n → (∀ i, m ≤ i → f i = false) → idxs f n = idxs f m
  | 0, h, _ => by obtain rfl : m = 0 := by omega
                  rfl
  | n + 1, h, hf => by
    by_cases e : m = n + 1
    · subst e; rfl
    · rw [idxs_no (hf n (by omega)), idxs_more f n (by omega) hf]
theorem bit_out {B n i : Nat} (h : B < 2 ^ n) (hi : n ≤ i) : B.testBit i = false := Nat.testBit_lt_two_pow (Nat.lt_of_lt_of_le h (Nat.pow_le_pow_right (by decide) hi))
theorem pop_cnt : ∀ (f x n : Nat), x < 2 ^ n → n ≤ f → Lib.popAux f x = cnt x.testBit n
  | 0, x, n, h, hn => by
    obtain rfl : n = 0 := by omega
    simp [Lib.popAux, cnt]
  | f + 1, x, 0, h, _ => by
    have hx : x = 0 := by simpa using h
    subst hx
    have := pop_cnt f 0 0 (by decide) (by omega)
    simp [Lib.popAux, cnt] at this ⊢
    try exact this
  | f + 1, x, n + 1, h, hn => by
    have h2 : x / 2 < 2 ^ n := by rw [Nat.pow_succ] at h; omega
    have ih := pop_cnt f (x / 2) n h2 (by omega)
    rw [cnt_low]
    have e : (fun i => x.testBit (i + 1)) = (x / 2).testBit := funext fun i => by rw [Nat.testBit_succ]
    rw [e, ← ih]
    have e0 : x.testBit 0 = decide (x % 2 = 1) := by rw [Nat.testBit_zero]
    rw [e0]
    simp only [Lib.popAux, decide_eq_true_eq]
    split <;> omega
theorem ones_cnt {B n : Nat} (h : B < 2 ^ n) (hn : n ≤ 64) : Lib.onesCount B = cnt B.testBit n := pop_cnt 64 B n h hn
theorem cnt_add (f : Nat → Bool) (m : Nat) : ∀ n, cnt f (m + n) = cnt f m + cnt (fun i => f (m + i)) n
  | 0 => rfl
  | n + 1 => by
    have := cnt_add f m n
    show cnt f (m + n + 1) = _
    simp only [cnt, this]
    omega
theorem cnt_congr {f g : Nat → Bool} : ∀ {n : Nat}, (∀ i, i < n → f i = g i) → cnt f n = cnt g n
  | 0, _ => rfl
  | n + 1, h => by simp only [cnt, h n (by omega), cnt_congr (n := n) (fun i hi => h i (by omega))]
theorem cnt_byte (B t : Nat) : cnt (B / 2 ^ t % 256).testBit 8 = cnt (fun i => B.testBit (t + i)) 8 := cnt_congr fun i hi => by
  rw [show 256 = 2 ^ 8 from rfl, Nat.testBit_mod_two_pow, Nat.testBit_div_two_pow, Nat.add_comm i t]; simp [hi]
theorem ones_quarts {B : Nat} (hB : B < 2 ^ 32) : Lib.onesCount (B / 16777216) + Lib.onesCount (B / 65536 % 256) + Lib.onesCount (B / 256 % 256) + Lib.onesCount (B % 256) = Lib.onesCount B := by
  rw [ones_cnt (B := B) hB (by omega), ones_cnt (B := B / 16777216) (n := 8) (by omega) (by omega), ones_cnt (B := B / 65536 % 256) (n := 8) (by omega) (by omega), ones_cnt (B := B / 256 % 256) (n := 8) (by omega) (by omega), ones_cnt (B := B % 256) (n := 8) (by omega) (by omega)]
  have e4 : cnt (B / 16777216).testBit 8 = cnt (fun i => B.testBit (24 + i)) 8 := by
    have h := cnt_byte B 24
    rw [show (2 : Nat) ^ 24 = 16777216 from rfl, Nat.mod_eq_of_lt (show B / 16777216 < 256 by omega)] at h
    exact h
  have e3 : cnt (B / 65536 % 256).testBit 8 = cnt (fun i => B.testBit (16 + i)) 8 := cnt_byte B 16
  have e2 : cnt (B / 256 % 256).testBit 8 = cnt (fun i => B.testBit (8 + i)) 8 := cnt_byte B 8
  have e1 : cnt (B % 256).testBit 8 = cnt B.testBit 8 := cnt_congr fun i hi => by
    rw [show 256 = 2 ^ 8 from rfl, Nat.testBit_mod_two_pow]; simp [hi]
  rw [e4, e3, e2, e1, show 32 = 24 + 8 from rfl, cnt_add B.testBit 24 8, show 24 = 16 + 8 from rfl, cnt_add B.testBit 16 8, show 16 = 8 + 8 from rfl, cnt_add B.testBit 8 8]
  omega
theorem pop8_nat (i : Nat) (h : i < 256) : Lib.pop8 (i : Int) = (Lib.onesCount i : Int) := Lib.pop8_eq ⟨i, h⟩
theorem bitLenAux_lt : ∀ (f x : Nat), x < 2 ^ f → x < 2 ^ Lib.bitLenAux f x
  | 0, x, h => by simpa [Lib.bitLenAux] using h
  | f + 1, x, h => by
    simp only [Lib.bitLenAux]
    split
    · rename_i e; subst e; decide
    · have := bitLenAux_lt f (x / 2) (by rw [Nat.pow_succ] at h; omega)
      rw [Nat.add_comm, Nat.pow_succ]
      omega
theorem bitLen_lt {B : Nat} (h : B < 2 ^ 32) : B < 2 ^ Lib.bitLen B := bitLenAux_lt 64 B (Nat.lt_of_lt_of_le h (by decide))
theorem bitLen_32 {B n : Nat} (h : B < 2 ^ n) (hn : n ≤ 32) : Lib.bitLen B ≤ n := Lib.bitLen_le B n (by omega) h

set_option maxHeartbeats 4000000 in
set_option maxRecDepth 100000 in
theorem ones_i (B : Nat) (w : World) (hB : B < 2 ^ 32) :
    Calls Tryd.prog 103 #[.int .u32 B] w fun e w' => e = .returned (.int .i64 (Lib.onesCount B : Nat)) ∧ ∃ m, w' = w.drewN m := by
  have p1 : Lib.pop8 ((B : Int) / 16777216) = (Lib.onesCount (B / 16777216) : Int) := by have := pop8_nat (B / 16777216) (by omega); rwa [show ((B / 16777216 : Nat) : Int) = (B : Int) / 16777216 from rfl] at this
  have p2 : Lib.pop8 ((B : Int) / 65536 % 256) = (Lib.onesCount (B / 65536 % 256) : Int) := by have := pop8_nat (B / 65536 % 256) (by omega); rwa [show ((B / 65536 % 256 : Nat) : Int) = (B : Int) / 65536 % 256 from rfl] at this
  have p3 : Lib.pop8 ((B : Int) / 256 % 256) = (Lib.onesCount (B / 256 % 256) : Int) := by have := pop8_nat (B / 256 % 256) (by omega); rwa [show ((B / 256 % 256 : Nat) : Int) = (B : Int) / 256 % 256 from rfl] at this
  have p4 : Lib.pop8 ((B : Int) % 256) = (Lib.onesCount (B % 256) : Int) := by have := pop8_nat (B % 256) (by omega); rwa [show ((B % 256 : Nat) : Int) = (B : Int) % 256 from rfl] at this
  have l1 : Lib.onesCount (B / 16777216) ≤ 8 := Lib.onesCount_le8 ⟨B / 16777216, by omega⟩
  have l2 : Lib.onesCount (B / 65536 % 256) ≤ 8 := Lib.onesCount_le8 ⟨B / 65536 % 256, by omega⟩
  have l3 : Lib.onesCount (B / 256 % 256) ≤ 8 := Lib.onesCount_le8 ⟨B / 256 % 256, by omega⟩
  have l4 : Lib.onesCount (B % 256) ≤ 8 := Lib.onesCount_le8 ⟨B % 256, by omega⟩
  have hsum : ((((Lib.onesCount (B / 16777216) : Int) + (Lib.onesCount (B / 65536 % 256) : Int)) + (Lib.onesCount (B / 256 % 256) : Int)) + (Lib.onesCount (B % 256) : Int)) = (Lib.onesCount B : Int) := by have := ones_quarts hB; omega
  have HO := Lib.hid hsum
  have a1 : ∀ C : Nat, C < 2 ^ 32 → bits .and .u32 (C : Int) 255 = (C : Int) % 256 := fun C hC => by
    rw [show (255 : Int) = ((255 : Nat) : Int) from rfl, Go.u32_and_nat C 255 hC (by decide), show 255 = 2 ^ 8 - 1 from rfl, Nat.and_two_pow_sub_one_eq_mod]
    rfl
  have a2 : bits .and .u32 ((B : Int) / 65536) 255 = (B : Int) / 65536 % 256 := a1 (B / 65536) (by omega)
  have a3 : bits .and .u32 ((B : Int) / 256) 255 = (B : Int) / 256 % 256 := a1 (B / 256) (by omega)
  have a4 : bits .and .u32 (B : Int) 255 = (B : Int) % 256 := a1 B hB
  have b1 : (0 : Int) ≤ (B : Int) / 16777216 := by omega
  have b2 : (B : Int) / 16777216 ≤ 255 := by omega
  have b3 : (0 : Int) ≤ (B : Int) / 65536 % 256 := by omega
  have b4 : (B : Int) / 65536 % 256 ≤ 255 := by omega
  have b5 : (0 : Int) ≤ (B : Int) / 256 % 256 := by omega
  have b6 : (B : Int) / 256 % 256 ≤ 255 := by omega
  have b7 : (0 : Int) ≤ (B : Int) % 256 := by omega
  have b8 : (B : Int) % 256 ≤ 255 := by omega
  clear hsum a1
  generalize Lib.onesCount (B / 16777216) = x1 at *
  generalize Lib.onesCount (B / 65536 % 256) = x2 at *
  generalize Lib.onesCount (B / 256 % 256) = x3 at *
  generalize Lib.onesCount (B % 256) = x4 at *
  have w2 : IntKind.u8.wrap ((x1 : Int) + x2) = (x1 : Int) + x2 := by show ((x1 : Int) + x2) % 256 = _; omega
  have w3 : IntKind.u8.wrap ((x1 : Int) + x2 + x3) = (x1 : Int) + x2 + x3 := by show ((x1 : Int) + x2 + x3) % 256 = _; omega
  have w4 : IntKind.u8.wrap ((x1 : Int) + x2 + x3 + x4) = (x1 : Int) + x2 + x3 + x4 := by show ((x1 : Int) + x2 + x3 + x4) % 256 = _; omega
  go_enter Tryd.func103, Tryd.ntmps103
  go_wp2_with fail
  go_quiet (fail)
  go_wp2
  go_ret
  exact ⟨by rw [← HO.out]; rfl, _, rfl⟩

/-- the last byte's part of a length -/
theorem len_small (B : Nat) (h : B < 256) : Lib.len8 (B : Int) = (Lib.bitLen B : Int) ∧ Lib.bitLen B ≤ 8 := ⟨Lib.len8_of (B : Int) (by omega) (by omega), Lib.bitLen_le8 ⟨B, h⟩⟩

set_option maxHeartbeats 4000000 in
set_option maxRecDepth 100000 in
theorem len_i (B : Nat) (w : World) (hB : B < 2 ^ 32) :
    Calls Tryd.prog 76 #[.int .u32 B] w fun e w' => e = .returned (.int .i64 (Lib.bitLen B : Nat)) ∧ w = w' := by
  by_cases h16 : 65536 ≤ B
  · have h16' : (65536 : Int) ≤ (B : Int) := by omega
    have hs := Lib.bitLen_shift16 B h16 (by omega)
    by_cases h8 : 256 ≤ B / 65536
    · have h8' : (256 : Int) ≤ (B : Int) / 65536 := by omega
      have hs2 := Lib.bitLen_shift8 (B / 65536) h8 (by omega)
      obtain ⟨p1, l1⟩ := len_small (B / 65536 / 256) (by omega)
      have p2 : Lib.len8 ((B : Int) / 65536 / 256) = (Lib.bitLen (B / 65536 / 256) : Int) := p1
      have b1 : (0 : Int) ≤ (B : Int) / 65536 / 256 := by omega
      have b2 : (B : Int) / 65536 / 256 ≤ 255 := by omega
      have m1 : ((B : Int) / 65536 / 256) % 256 = (B : Int) / 65536 / 256 := by omega
      have HS := Lib.hid (show Lib.bitLen B = 16 + (8 + Lib.bitLen (B / 65536 / 256)) by rw [hs, hs2])
      clear hs hs2 h16 h8 p1
      generalize Lib.bitLen (B / 65536 / 256) = x at *
      go_enter Tryd.func76, Tryd.ntmps76
      go_wp2
      go_ret
      exact ⟨by rw [HS.out]; first | rfl | (congr 2; done) | (congr 2; push_cast; omega) | (simp; omega), rfl⟩
    · have h8' : (B : Int) / 65536 < 256 := by omega
      obtain ⟨p1, l1⟩ := len_small (B / 65536) (by omega)
      have p2 : Lib.len8 ((B : Int) / 65536) = (Lib.bitLen (B / 65536) : Int) := p1
      have b1 : (0 : Int) ≤ (B : Int) / 65536 := by omega
      have b2 : (B : Int) / 65536 ≤ 255 := by omega
      have m1 : ((B : Int) / 65536) % 256 = (B : Int) / 65536 := by omega
      have HS := Lib.hid hs
      clear hs h16 h8 p1
      generalize Lib.bitLen (B / 65536) = x at *
      go_enter Tryd.func76, Tryd.ntmps76
      go_wp2
      go_ret
      exact ⟨by rw [HS.out]; first | rfl | (congr 2; done) | (congr 2; push_cast; omega) | (simp; omega), rfl⟩
  · have h16' : ¬ (65536 : Int) ≤ (B : Int) := by omega
    have d16 : decide ((65536 : Int) ≤ (B : Int)) = false := decide_eq_false h16'
    by_cases h8 : 256 ≤ B
    · have h8' : (256 : Int) ≤ (B : Int) := by omega
      have hs2 := Lib.bitLen_shift8 B h8 (by omega)
      obtain ⟨p1, l1⟩ := len_small (B / 256) (by omega)
      have p2 : Lib.len8 ((B : Int) / 256) = (Lib.bitLen (B / 256) : Int) := p1
      have b1 : (0 : Int) ≤ (B : Int) / 256 := by omega
      have b2 : (B : Int) / 256 ≤ 255 := by omega
      have m1 : ((B : Int) / 256) % 256 = (B : Int) / 256 := by omega
      have HS := Lib.hid hs2
      clear hs2 h16 h8 p1 hB m1
      generalize Lib.bitLen (B / 256) = x at *
      go_enter Tryd.func76, Tryd.ntmps76
      go_wp2
      go_ret
      exact ⟨by rw [HS.out]; first | rfl | (congr 2; done) | (congr 2; push_cast; omega) | (simp; omega), rfl⟩
    · have h8' : ¬ (256 : Int) ≤ (B : Int) := by omega
      have d8 : decide ((256 : Int) ≤ (B : Int)) = false := decide_eq_false h8'
      obtain ⟨p1, l1⟩ := len_small B (by omega)
      have b1 : (0 : Int) ≤ (B : Int) := by omega
      have b2 : (B : Int) ≤ 255 := by omega
      have m1 : (B : Int) % 256 = B := by omega
      clear h16 h8 hB
      generalize Lib.bitLen B = x at *
      go_enter Tryd.func76, Tryd.ntmps76
      go_wp2
      go_ret
      exact ⟨by first | rfl | (congr 2; push_cast; omega), rfl⟩

end Go.Proofs.YtlepgkmpbhlajaaDoor.rod
