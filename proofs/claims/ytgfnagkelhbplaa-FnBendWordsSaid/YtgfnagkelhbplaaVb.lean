/-
  Contracts of ValidBends, of the model's and of the program's. No condition of a statement lies here.
-/
import Derived.Test.YtgfnagkelhbplaaVa
import Derived.Test.YtgfnagkelhbplaaShelf
import Derived.Laws.RangeString
import Derived.Laws.RangeAny
import Derived.Laws.Runes
import Derived.WalkMore
import Derived.Lib.OthersKept
namespace Go.Proofs.Ytgfnagkelhbplaa.brd
open Go.ChangeShapes Go.WideShapes Go.ChangeAt Go.RowKit Go.Proofs.Ytgfnagkelhbplaa.mem Go.Proofs.Ytgfnagkelhbplaa.rod
set_option linter.unusedVariables false

set_option maxHeartbeats 2000000 in
theorem ok_s (s : ByteArray) (w : World) (hs : s.size ≤ 1048576) :
    Calls Try.prog 51 #[.string s] w fun e w' => e = .returned (.bool (bendB s)) ∧ w = w' := by
  go_enter Try.func51, Try.ntmps51
  go_wp2_with fail
  go_loop [3] (fun i => ∃ k : Nat, k ≤ s.size ∧ i = .int .i64 (k : Int) ∧ Hid (okTo s k = true)) (fun i => s.size - (intOf i).toNat)
  case atStart => exact ⟨0, by omega, rfl, Lib.hid rfl⟩
  case round =>
    obtain ⟨k, hk, rfl, hok⟩ := hrel
    by_cases hlt : k < s.size
    · have hlt' : (k : Int) < (s.size : Int) := by omega
      have hk0 : (0 : Int) ≤ (k : Int) := by omega
      by_cases h70 : byteAt s k = 98
      · have hn : Hid (okTo s (k + 1) = true) := Lib.hid (by simp only [okTo, hok.out, h70]; rfl)
        rw [byteAt_eq hlt] at h70
        have e1 : (((s[k]'hlt).toNat : Int) == 98) = true := by rw [h70]; rfl
        have e2 : (((s[k]'hlt).toNat : Int) != 98) = false := by rw [bne, e1]; rfl
        clear h70
        go_wp2
        go_round
        case rel => exact ⟨k + 1, by omega, by go_num, hn⟩
        case measure => simp [intOf]; omega
      · by_cases h66 : byteAt s k = 102
        · have hn : Hid (okTo s (k + 1) = true) := Lib.hid (by simp only [okTo, hok.out, h66]; rfl)
          rw [byteAt_eq hlt] at h66
          have e1 : (((s[k]'hlt).toNat : Int) == 98) = false := by rw [h66]; rfl
          have e2 : (((s[k]'hlt).toNat : Int) != 98) = true := by rw [bne, e1]; rfl
          have e3 : (((s[k]'hlt).toNat : Int) == 102) = true := by rw [h66]; rfl
          have e4 : (((s[k]'hlt).toNat : Int) != 102) = false := by rw [bne, e3]; rfl
          clear h66 h70
          go_wp2
          go_round
          case rel => exact ⟨k + 1, by omega, by go_num, hn⟩
          case measure => simp [intOf]; omega
        · have hf : bendB s = false := by
            unfold bendB
            rw [okTo_no hlt (by unfold fb; rw [decide_eq_false h70, decide_eq_false h66]; rfl)]; rfl
          have HF := Lib.hid hf
          rw [byteAt_eq hlt] at h70 h66
          have e1 : (((s[k]'hlt).toNat : Int) == 98) = false := by simpa using h70
          have e2 : (((s[k]'hlt).toNat : Int) != 98) = true := by rw [bne, e1]; rfl
          have e3 : (((s[k]'hlt).toNat : Int) == 102) = false := by simpa using h66
          have e4 : (((s[k]'hlt).toNat : Int) != 102) = true := by rw [bne, e3]; rfl
          clear h66 h70 hf
          go_wp2
          go_ret
          exact ⟨by rw [HF.out]; rfl, rfl⟩
    · obtain rfl : k = s.size := by omega
      have hf : bendB s = inB s.size 1 8 := by unfold bendB; rw [hok.out]; rfl
      have HF := Lib.hid hf
      clear hf
      go_wp2_with (go_at_call 56; refine (in_s _ _ _ _).mono ?_; rintro e w' ⟨rfl, rfl⟩)
      go_ret
      exact ⟨by rw [HF.out]; rfl, rfl⟩

theorem valid_s (s : ByteArray) (w : World) (hs : s.size ≤ 1048576) :
    Calls Try.prog 15 #[.string s] w fun e w' => e = .returned (.bool (bendB s)) ∧ Below w.heap.size w w' := by
  go_enter Try.func15, Try.ntmps15
  go_wp2_with (go_at_call 51; refine (ok_s s _ hs).mono ?_; rintro e w' ⟨rfl, rfl⟩)
  go_ret
  exact ⟨rfl, Below.refl _ _⟩

/-! ### the library's search for a rune in the text of both letters -/
theorem ib_is (c : UInt8) : decide (0 ≤ Lib.indexByte (⟨#[98, 102]⟩ : ByteArray).data.toList c) = (c == 98 || c == 102) := by
  show decide (0 ≤ Lib.indexByte [98, 102] c) = _
  unfold Lib.indexByte Lib.indexByte Lib.indexByte
  by_cases h : c = 98
  · subst h; decide
  · have h1 : ((98 : UInt8) == c) = false := beq_false_of_ne (fun e => h e.symm)
    have h1' : (c == (98 : UInt8)) = false := beq_false_of_ne h
    by_cases h2 : c = 102
    · subst h2; decide
    · have h3 : ((102 : UInt8) == c) = false := beq_false_of_ne (fun e => h2 e.symm)
      have h3' : (c == (102 : UInt8)) = false := beq_false_of_ne h2
      rw [h1, h3, h1', h3']
      decide
theorem ib_high {c : UInt8} (h : 128 ≤ c.toNat) : Lib.indexByte (⟨#[98, 102]⟩ : ByteArray).data.toList c = -1 ∧ Lib.indexByte ([] : List UInt8) c = -1 := by
  refine ⟨?_, rfl⟩
  show Lib.indexByte [98, 102] c = _
  unfold Lib.indexByte Lib.indexByte Lib.indexByte
  have h1 : ((98 : UInt8) == c) = false := beq_false_of_ne (fun e => by rw [← e] at h; simp at h)
  have h3 : ((102 : UInt8) == c) = false := beq_false_of_ne (fun e => by rw [← e] at h; simp at h)
  rw [h1, h3]
  rfl

set_option maxHeartbeats 2000000 in
set_option maxRecDepth 100000 in
theorem idxRune_lo (r : Int) (w : World) (h0 : 0 ≤ r) (h1 : r < 128) :
    Calls Try.prog 100 #[.string ⟨#[98, 102]⟩, .int .i32 r] w fun e w' => ∃ v, e = .returned (.int .i64 v) ∧ decide (0 ≤ v) = fb r ∧ Below w.heap.size w w' := by
  have hv := ib_is r.toNat.toUInt8
  have hw8 : IntKind.u8.wrap r = r := by rw [IntKind.wrap_u8]; omega
  have hr : (r.toNat.toUInt8 == 98 || r.toNat.toUInt8 == 102) = fb r := by
    obtain ⟨n, rfl⟩ : ∃ n : Nat, r = (n : Int) := ⟨r.toNat, by omega⟩
    have hn : n < 128 := by omega
    rw [Int.toNat_natCast, Bool.eq_iff_iff]
    unfold fb
    simp only [Bool.or_eq_true, beq_iff_eq, decide_eq_true_eq]
    have key : ∀ k : Nat, k < 128 → (n.toUInt8 = k.toUInt8 ↔ (n : Int) = (k : Int)) := by
      intro k hk
      rw [← UInt8.toNat_inj]
      simp
      omega
    rw [show (98 : UInt8) = (98 : Nat).toUInt8 from rfl, show (102 : UInt8) = (102 : Nat).toUInt8 from rfl, key 98 (by omega), key 102 (by omega)]
    rfl
  rw [hr] at hv
  have HV := Lib.hid hv
  clear hv hr
  go_enter Try.func100, Try.ntmps100
  go_wp2_with (go_at_call 102; refine (Any.strings_IndexByte Try.lays137 _ _ _).mono ?_; rintro e w' ⟨rfl, hw⟩; subst hw)
  go_ret
  exact ⟨_, rfl, HV.out, Below.refl _ _⟩

set_option maxHeartbeats 2000000 in
set_option maxRecDepth 100000 in
theorem idxRune_err (w : World) :
    Calls Try.prog 100 #[.string ⟨#[98, 102]⟩, .int .i32 65533] w fun e w' => e = .returned (.int .i64 (-1)) ∧ Below w.heap.size w w' := by
  obtain ⟨S, hS⟩ : ∃ S : ByteArray, S = ⟨#[98, 102]⟩ := ⟨_, rfl⟩
  have hz : S.size = 2 := by rw [hS]; rfl
  have hb : ∀ k (h : k < S.size), (S[k]'h).toNat < 128 := by
    subst hS
    intro k h
    have : k < 2 := h
    obtain rfl | rfl : k = 0 ∨ k = 1 := by omega
    · show (98 : UInt8).toNat < 128; decide
    · show (102 : UInt8).toNat < 128; decide
  rw [← hS]
  clear hS
  go_enter Try.func100, Try.ntmps100
  go_wp2_with fail
  go_loopw [5, 6] (fun _ _ wr => ∃ pos : Nat, pos ≤ 2 ∧ wr = w.iter S pos) (fun _ _ wr => 2 - wr.iterPos w.heap.size)
  case atStart => exact ⟨0, by omega, rfl⟩
  case round =>
    obtain ⟨k, hk, rfl⟩ := hrel
    by_cases hlt : k < S.size
    · have hasc := hb k hlt
      have hnx : ∀ ty, (Instr.next (.pointer (some ⟨w.heap.size, 0, none⟩)) true ty).run Try.prog (w.iter S k) = _ := fun ty => run_next_ascii w S k ty hlt hasc
      have e1 : (((S[k]'hlt).toNat : Int) == 65533) = false := beq_false_of_ne (by omega)
      clear hb
      go_wp2
      go_roundw
      case rel => exact ⟨k + 1, by omega, rfl⟩
      case measure => simp; omega
    · have hnx : ∀ ty, (Instr.next (.pointer (some ⟨w.heap.size, 0, none⟩)) true ty).run Try.prog (w.iter S k) = _ := fun ty => run_next_end w S k ty hlt
      clear hb
      go_wp2
      go_ret
      exact ⟨rfl, (Below.refl _ _).alloc (Nat.le_refl _) _⟩

set_option maxHeartbeats 2000000 in
set_option maxRecDepth 100000 in
theorem idxRune_bad (r : Int) (w : World) (h0 : 128 ≤ r) (h1 : r ≠ 65533) (hv : Lib.validRune r = false) :
    Calls Try.prog 100 #[.string ⟨#[98, 102]⟩, .int .i32 r] w fun e w' => e = .returned (.int .i64 (-1)) ∧ Below w.heap.size w w' := by
  have e1 : (r == 65533) = false := beq_false_of_ne h1
  go_enter Try.func100, Try.ntmps100
  go_wp2_with (go_at_call 103; refine (Any.utf8_ValidRune Try.lays119 _ _).mono ?_; rintro e w' ⟨rfl, hw⟩; subst hw)
  go_ret
  exact ⟨rfl, Below.refl _ _⟩

theorem enc_facts {r : Int} (h0 : 128 ≤ r) (hv : Lib.validRune r = true) : 2 ≤ (Utf8.encode r).size ∧ (Utf8.encode r).size ≤ 4 ∧ ∀ h : (Utf8.encode r).size - 1 < (Utf8.encode r).size, 128 ≤ ((Utf8.encode r)[(Utf8.encode r).size - 1]'h).toNat :=
  encode_facts r (by rw [validRune_eq]; exact hv) h0

set_option maxHeartbeats 2000000 in
set_option maxRecDepth 100000 in
theorem idxRune_hi (r : Int) (w : World) (h0 : 128 ≤ r) (h1 : r ≠ 65533) (hv : Lib.validRune r = true) :
    Calls Try.prog 100 #[.string ⟨#[98, 102]⟩, .int .i32 r] w fun e w' => e = .returned (.int .i64 (-1)) ∧ Below w.heap.size w w' := by
  have e1 : (r == 65533) = false := beq_false_of_ne h1
  obtain ⟨z1, z2, z3⟩ := enc_facts h0 hv
  have hcv : (convert 21 9 (.int .i32 r)).run Try.prog w = .ok (.string (Utf8.encode r)) w := run_convert_int_string w _ _ _ _ (by rw [Try.underlying21]; rfl) Try.underlying9
  generalize Utf8.encode r = E at *
  obtain ⟨S, hS⟩ : ∃ S : ByteArray, S = ⟨#[98, 102]⟩ := ⟨_, rfl⟩
  rw [← hS]
  have hz : S.size = 2 := by rw [hS]; rfl
  have hS1 : ∀ h : 1 < S.size, ((S[1]'h).toNat : Int) = 102 := by subst hS; intro h; rfl
  clear hS
  go_enter Try.func100, Try.ntmps100
  go_wp2_with (go_at_call 103; refine (Any.utf8_ValidRune Try.lays119 _ _).mono ?_; rintro e w' ⟨rfl, hw⟩; subst hw)
  obtain ⟨L, hL⟩ : ∃ L : Nat, E.size = L + 1 := ⟨E.size - 1, by omega⟩
  have hE : ∀ h : L < E.size, 128 ≤ (E[L]'h).toNat := by
    intro h
    have := z3 (by omega)
    simp only [hL, Nat.add_sub_cancel] at this
    exact this
  have hL1 : 1 ≤ L := by omega
  have hL3 : L ≤ 3 := by omega
  have hEL : L < E.size := by omega
  have HE := Lib.hid (hE hEL)
  clear z1 z2 z3 hE
  go_step3
  go_wp2_with fail
  go_loopw [9] (fun i wr => i = .int .i64 (L : Int) ∧ wr = w') (fun _ _ => 0)
  case atStart => exact ⟨by go_num, rfl⟩
  case round =>
    obtain ⟨rfl, rfl⟩ := hrel
    by_cases h2 : L < 2
    · obtain rfl : L = 1 := by omega
      have h1S : 1 < S.size := by omega
      have a1 := hS1 h1S
      have b1 : 128 ≤ (E[1]'hEL).toNat := HE.out
      have n1 : (((S[1]'h1S).toNat : Int) != ((E[1]'hEL).toNat : Int)) = true := by simp only [bne_iff_ne]; omega
      have n2 : (((S[1]'h1S).toNat : Int) == ((E[1]'hEL).toNat : Int)) = false := beq_false_of_ne (by omega)
      have n3 : IntKind.u8.wrap ((E[1]'hEL).toNat : Int) = ((E[1]'hEL).toNat : Int) := by have := (E[1]'hEL).toNat_lt; rw [IntKind.wrap_u8]; omega
      have n6 : ∀ c, Lib.indexByte ([] : List UInt8) c = -1 := fun _ => rfl
      have n4 : IntKind.i64.wrap 2 = 2 := by rw [IntKind.wrap_i64]; rfl
      have n5 : (2 : Int) ≤ (S.size : Int) := by omega
      clear a1 hS1 b1
      go_wp2_with fail
      go_step3
      go_wp2_with fail
      go_quiet (fail)
      generalize hW : wr.drewN _ = W
      have HW := Lib.hid hW
      clear hW
      go_wp2_with fail
      go_quiet ((go_at_call 102; exact Calls.quiet_of_same ((Any.strings_IndexByte Try.lays137 _ _ _).mono fun _ _ ⟨p, q⟩ => ⟨p, q⟩)))
      go_wp2_with fail
      show bodyPost Try.prog _ (fun e w2 => e = Ending.returned (Value.int IntKind.i64 (-1)) ∧ Below wr.heap.size wr w2) Exit.ret _ _
      go_ret
      exact ⟨rfl, drewN_below (by rw [← HW.out]; exact drewN_below (Below.refl _ _) _) _⟩
    · have h2' : ¬ (L : Int) < (S.size : Int) := by omega
      go_wp2
      go_ret
      exact ⟨rfl, Below.refl _ _⟩

theorem fb_high {c : Int} (h : 128 ≤ c) : fb c = false := by unfold fb; rw [decide_eq_false (by omega), decide_eq_false (by omega)]; rfl
theorem idxRune (r : Int) (w : World) (h0 : 0 ≤ r) :
    Calls Try.prog 100 #[.string ⟨#[98, 102]⟩, .int .i32 r] w fun e w' => ∃ v, e = .returned (.int .i64 v) ∧ decide (0 ≤ v) = fb r ∧ Below w.heap.size w w' := by
  by_cases h1 : r < 128
  · exact idxRune_lo r w h0 h1
  · have hf := fb_high (c := r) (by omega)
    have key : Calls Try.prog 100 #[.string ⟨#[98, 102]⟩, .int .i32 r] w fun e w' => e = .returned (.int .i64 (-1)) ∧ Below w.heap.size w w' := by
      by_cases h2 : r = 65533
      · subst h2; exact idxRune_err w
      · cases hv : Lib.validRune r
        · exact idxRune_bad r w (by omega) h2 hv
        · exact idxRune_hi r w (by omega) h2 hv
    refine key.mono ?_
    rintro e w' ⟨rfl, hb⟩
    exact ⟨-1, rfl, by rw [hf]; rfl, hb⟩

set_option maxHeartbeats 1000000 in
theorem containsRune (r : Int) (w : World) (h0 : 0 ≤ r) :
    Calls Try.prog 86 #[.string ⟨#[98, 102]⟩, .int .i32 r] w fun e w' => e = .returned (.bool (fb r)) ∧ Below w.heap.size w w' := by
  go_enter Try.func86, Try.ntmps86
  go_wp2_with fail
  refine (idxRune r _ h0).mono ?_
  rintro e w1 ⟨v, rfl, hv, hb⟩
  have HV := Lib.hid hv
  clear hv
  go_wp2
  go_ret
  exact ⟨by rw [← HV.out]; rfl, hb⟩

set_option maxHeartbeats 1000000 in
theorem noBend_i (r : Int) (w : World) (h0 : 0 ≤ r) :
    Calls Try.prog 54 #[.int .i32 r] w fun e w' => e = .returned (.bool (!fb r)) ∧ Below w.heap.size w w' := by
  go_enter Try.func54, Try.ntmps54
  go_wp2_with fail
  refine (containsRune r _ h0).mono ?_
  rintro e w1 ⟨rfl, hb⟩
  go_wp2
  go_ret
  exact ⟨rfl, hb⟩

/-- a round of a range over a string whose iterator lies in a block of the call's own -/
structure ItAt (w wr : World) (b : Nat) (s : ByteArray) (pos : Nat) : Prop where
  le : pos ≤ s.size
  at_ : wr.heap[b]? = some (.stringIter s pos)
  own : w.heap.size ≤ b
  below : Below w.heap.size w wr
theorem ItAt.lt {w wr : World} {b : Nat} {s : ByteArray} {pos : Nat} (h : ItAt w wr b s pos) : b < wr.heap.size := (Array.getElem?_eq_some_iff.1 h.at_).1
theorem ItAt.start (w wr : World) (s : ByteArray) (h : Below w.heap.size w wr) : ItAt w (wr.iter s 0) wr.heap.size s 0 :=
  ⟨Nat.zero_le _, World.iter_heap wr s 0, h.size, h.alloc h.size _⟩
theorem ItAt.next {w wr : World} {b : Nat} {s : ByteArray} {pos pos' : Nat} (h : ItAt w wr b s pos) (hp : pos' ≤ s.size) : ItAt w (wr.iterAt b s pos') b s pos' :=
  ⟨hp, Lib.iterAt_heap wr b s pos pos' h.at_, h.own, Lib.below_iterAt h.below h.own s pos'⟩
theorem ItAt.later {w wr w1 : World} {b : Nat} {s : ByteArray} {pos : Nat} (h : ItAt w wr b s pos) (hb : Below wr.heap.size wr w1) : ItAt w w1 b s pos :=
  ⟨h.le, (hb.block _ h.lt).trans h.at_, h.own, h.below.trans (hb.mono h.below.size)⟩
theorem ItAt.drewN {w wr : World} {b : Nat} {s : ByteArray} {pos : Nat} (h : ItAt w wr b s pos) (n : Nat) : ItAt w (wr.drewN n) b s pos :=
  ⟨h.le, h.at_, h.own, drewN_below h.below n⟩
def itPos (wr : World) (b : Nat) : Nat := match wr.heap[b]? with | some (.stringIter _ p) => p | _ => 0
theorem ItAt.pos {w wr : World} {b : Nat} {s : ByteArray} {pos : Nat} (h : ItAt w wr b s pos) : itPos wr b = pos := by unfold itPos; rw [h.at_]

set_option maxHeartbeats 2000000 in
theorem indexFunc_i (s : ByteArray) (w : World) (hs : s.size ≤ 1048576) :
    Calls Try.prog 99 #[.string s, .func (.func 54) #[] #[], .bool true] w fun e w' => ∃ v, e = .returned (.int .i64 v) ∧ decide (0 ≤ v) = (!okTo s s.size) ∧ Below w.heap.size w w' := by
  go_enter Try.func99, Try.ntmps99
  go_wp2_with fail
  go_loopw [6] (fun _ wr => ∃ pos : Nat, Hid (ItAt w wr w.heap.size s pos) ∧ Hid (okTo s pos = true)) (fun _ wr => s.size - itPos wr w.heap.size)
  case atStart => exact ⟨0, Lib.hid (ItAt.start w w s (Below.refl _ _)), Lib.hid rfl⟩
  case round =>
    obtain ⟨k, HI, HA⟩ := hrel
    by_cases hlt : k < s.size
    · by_cases hasc : ((s[k]'hlt).toNat) < 128
      · have hnx : ∀ ty, (Instr.next (.pointer (some ⟨w.heap.size, 0, none⟩)) true ty).run Try.prog wr = _ := fun ty => Lib.run_next_ascii_at wr _ s k ty HI.out.at_ hlt hasc
        have HI2 := Lib.hid (HI.out.next (pos' := k + 1) (by omega))
        have HP := Lib.hid HI.out.pos
        generalize wr.iterAt w.heap.size s (k + 1) = W at *
        cases hq : fb ((s[k]'hlt).toNat : Int)
        · have HF := Lib.hid (okTo_no hlt (by rw [byteAt_eq hlt]; exact hq))
          have HC := Lib.hid (fun W => noBend_i ((s[k]'hlt).toNat : Int) W (by omega))
          rw [hq] at HC
          clear hq HI
          go_wp2_with (go_at_call 54; refine (HC.out _).mono ?_; rintro e w1 ⟨rfl, hb1⟩)
          go_ret
          exact ⟨_, rfl, by rw [HF.out]; simp, (HI2.out.later hb1).below⟩
        · have HF := Lib.hid (show okTo s (k + 1) = true by simp only [okTo, HA.out, byteAt_eq hlt, hq]; rfl)
          have HC := Lib.hid (fun W => noBend_i ((s[k]'hlt).toNat : Int) W (by omega))
          rw [hq] at HC
          clear hq HI
          go_wp2_with (go_at_call 54; refine (HC.out _).mono ?_; rintro e w1 ⟨rfl, hb1⟩)
          have HI3 := Lib.hid (HI2.out.later hb1)
          clear hb1
          go_roundw
          case rel => exact ⟨k + 1, HI3, HF⟩
          case measure => rw [HI3.out.pos, HP.out]; omega
      · have hnx : ∀ ty, (Instr.next (.pointer (some ⟨w.heap.size, 0, none⟩)) true ty).run Try.prog wr = _ := fun ty => Lib.run_next_any_at wr _ s k ty HI.out.at_ hlt
        have hd := (decode_high s k hlt (by omega)).1
        have hq : fb (byteAt s k) = false := fb_high (by rw [byteAt_eq hlt]; omega)
        have HF := Lib.hid (okTo_no hlt hq)
        have hB : Below w.heap.size w (wr.iterAt w.heap.size s (k + (Utf8.decode s k).2)) := Lib.below_iterAt HI.out.below (Nat.le_refl _) s _
        generalize (Utf8.decode s k).1 = r at *
        generalize wr.iterAt w.heap.size s (k + (Utf8.decode s k).2) = W at *
        have HC := Lib.hid (fun W => noBend_i (r : Int) W (by omega))
        rw [fb_high (c := (r : Int)) (by omega)] at HC
        have HB := Lib.hid hB
        clear hB hq HI
        go_wp2_with (go_at_call 54; refine (HC.out _).mono ?_; rintro e w1 ⟨rfl, hb1⟩)
        go_ret
        exact ⟨_, rfl, by rw [HF.out]; simp, HB.out.trans (hb1.mono HB.out.size)⟩
    · have hnx : ∀ ty, (Instr.next (.pointer (some ⟨w.heap.size, 0, none⟩)) true ty).run Try.prog wr = _ := fun ty => Lib.run_next_end_at wr _ s k ty HI.out.at_ hlt
      have hle := HI.out.le
      obtain rfl : k = s.size := by omega
      go_wp2
      go_ret
      exact ⟨_, rfl, by rw [HA.out]; simp, HI.out.below⟩

set_option maxHeartbeats 1000000 in
theorem indexF_i (s : ByteArray) (w : World) (hs : s.size ≤ 1048576) :
    Calls Try.prog 85 #[.string s, .func (.func 54) #[] #[]] w fun e w' => ∃ v, e = .returned (.int .i64 v) ∧ decide (0 ≤ v) = (!okTo s s.size) ∧ Below w.heap.size w w' := by
  go_enter Try.func85, Try.ntmps85
  go_wp2_with fail
  refine (indexFunc_i s _ hs).mono ?_
  rintro e w1 ⟨v, rfl, hv, hb⟩
  have HV := Lib.hid hv
  clear hv
  go_wp2
  go_ret
  exact ⟨v, rfl, HV.out, hb⟩

set_option maxHeartbeats 1000000 in
theorem containsF_i (s : ByteArray) (w : World) (hs : s.size ≤ 1048576) :
    Calls Try.prog 53 #[.string s, .func (.func 54) #[] #[]] w fun e w' => e = .returned (.bool (!okTo s s.size)) ∧ Below w.heap.size w w' := by
  go_enter Try.func53, Try.ntmps53
  go_wp2_with fail
  refine (indexF_i s _ hs).mono ?_
  rintro e w1 ⟨v, rfl, hv, hb⟩
  have HV := Lib.hid hv
  clear hv
  go_wp2
  go_ret
  exact ⟨by rw [← HV.out]; rfl, hb⟩

set_option maxHeartbeats 1000000 in
theorem valid_i (s : ByteArray) (w : World) (hs : s.size ≤ 1048576) :
    Calls Try.prog 16 #[.string s] w fun e w' => e = .returned (.bool (bendB s)) ∧ Below w.heap.size w w' := by
  have HC := Lib.hid (fun W => in_i (s.size : Int) 1 8 W)
  cases hq : inB (s.size : Int) 1 8
  · rw [hq] at HC
    have HF := Lib.hid (show bendB s = false by unfold bendB; rw [hq]; simp)
    clear hq
    go_enter Try.func16, Try.ntmps16
    go_wp2_with (go_at_call 52; refine (HC.out _).mono ?_; rintro e w' ⟨rfl, rfl⟩)
    go_ret
    exact ⟨by rw [HF.out]; rfl, Below.refl _ _⟩
  · rw [hq] at HC
    have HF := Lib.hid (show bendB s = okTo s s.size by unfold bendB; rw [hq]; simp)
    clear hq
    go_enter Try.func16, Try.ntmps16
    go_wp2_with (first
      | (go_at_call 52; refine (HC.out _).mono ?_; rintro e w' ⟨rfl, rfl⟩)
      | (go_at_call 53; refine (containsF_i s _ hs).mono ?_; rintro e w1 ⟨rfl, hb1⟩))
    go_ret
    exact ⟨by rw [HF.out]; simp, hb1⟩

end Go.Proofs.Ytgfnagkelhbplaa.brd
