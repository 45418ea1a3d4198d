/-
  Contracts of AfterYear, of the model and of the program.
-/
import Derived.Test.YtcpaenmhnoagdacBedsV
import Derived.Test.YtcpaenmhnoagdacRises
import Derived.Test.YtcpaenmhnoagdacClone
import Derived.Test.YtcpaenmhnoagdacPick
import Derived.Deep.CutRange
import Derived.Deep.RegionWith
namespace Go.Proofs.Ytcpaenmhnoagdac.rod
open Go.ChangeShapes Go.WideShapes Go.ChangeAt Go.RowKit Go.Proofs.Ytcpaenmhnoagdac.mem Go.Proofs.Ytcpaenmhnoagdac.nums
set_option linter.unusedVariables false

/-- a number stands among the first n -/
def hasC (C : Nat → Int) (x : Int) : Nat → Bool
  | 0 => false
  | n + 1 => hasC C x n || decide (C n = x)
theorem hasC_no {C : Nat → Int} {x : Int} {n : Nat} (h : hasC C x n = false) {i : Nat} (hi : i < n) : ¬ C i = x := by
  induction n with
  | zero => omega
  | succ n ih =>
    simp only [hasC, Bool.or_eq_false_iff, decide_eq_false_iff_not] at h
    by_cases e : i = n
    · subst e; exact h.2
    · exact ih h.1 (by omega)
theorem hasC_yes {C : Nat → Int} {x : Int} {n i : Nat} (hi : i < n) (h : C i = x) : hasC C x n = true := by
  cases e : hasC C x n
  · exact absurd h (hasC_no e hi)
  · rfl

set_option maxHeartbeats 1000000 in
theorem has_s (A : Option Addr) (n c : Nat) (C : Nat → Int) (x : Int) (w : World) (hn : n ≤ maxLen) (h : Sl w A n 1 C) :
    Calls Try.prog 107 #[.slice A n c, .int .i64 x] w fun e w' => e = .returned (.bool (hasC C x n)) ∧ ∃ k, w' = w.drewN k := by
  unfold maxLen at hn
  have H := Lib.hid h
  clear h
  go_enter Try.func107, Try.ntmps107
  go_wp2_with fail
  go_loopw [5] (fun s wr => ∃ k : Nat, k ≤ n ∧ s = .int .i64 k ∧ Hid (hasC C x k = false) ∧ Drew w wr) (fun s _ => n - (intOf s).toNat)
  case atStart => exact ⟨0, by omega, rfl, rfl, Drew.refl _⟩
  case round =>
    obtain ⟨k, hk, rfl, HA, hd⟩ := hrel
    have HD := Lib.hid hd
    clear hd
    by_cases hlt : k < n
    · have hlt' : (k : Int) < (n : Int) := by omega
      obtain ⟨b, o, rfl, hb, hX⟩ := (HD.out.sl H.out) (by omega)
      have p0 := hX k (by omega)
      clear hX
      by_cases hx : C k = x
      · have HF := Lib.hid (hasC_yes hlt hx)
        rw [hx] at p0
        clear hx
        go_wp2_with fail
        go_ret
        exact ⟨by rw [HF.out]; rfl, HD.out⟩
      · have HS := Lib.hid (show hasC C x (k + 1) = false by simp only [hasC, HA.out, decide_eq_false hx, Bool.or_self])
        have e1 : (C k == x) = false := by simpa using hx
        clear hx
        go_wp2_with fail
        go_roundw
        case rel => exact ⟨k + 1, by omega, by go_num, HS.out, HD.out⟩
        case measure => simp [intOf]; omega
    · obtain rfl : k = n := by omega
      go_wp2
      go_ret
      exact ⟨by rw [HA.out]; rfl, HD.out⟩

theorem bedV_congr {P : Nat → Option Addr} {M C : Nat → Nat} {G H : Nat → Int} {i : Nat} (h : i % 2 = 1 → G (i / 2) = H (i / 2)) : bedV P M C G i = bedV P M C H i := by
  unfold bedV
  split
  · rfl
  · rw [h (by omega)]
/-- the age a year later -/
def later (M : Nat → Nat) (G : Nat → Int) (cut : Nat → Bool) (j : Nat) : Int := if cut j then 1 else if G j + 1 ≤ M j then G j + 1 else M j

set_option maxHeartbeats 4000000 in
theorem aged_i (A : Option Addr) (n c : Nat) (M : Nat → Nat) (Y : Nat → Nat → Int) (G : Nat → Int) (B : Nat) (w : World) (hB : B < 2 ^ 32) (hv : bedsB n M Y G = true) (hs : Beds w A n M Y G) :
    Calls Try.prog 62 #[.slice A n c, .int .u32 B] w fun e w' => ∃ A' c' P C, e = .returned (.slice A' n c') ∧ n ≤ c' ∧ c' ≤ maxLen ∧ FlatBs w' w.heap.size w'.heap.size A' n P M C (later M G fun j => B.testBit j) ∧ (∀ j, j < n → Sl w (P j) (M j) 1 (Y j)) ∧ Below w.heap.size w w' := by
  obtain ⟨n8, hall⟩ := bedsB_of hv
  have HA := Lib.hid hall
  have HS := Lib.hid hs
  clear hall hs hv
  go_enter Try.func62, Try.ntmps62
  go_wp2_with fail
  refine (cloneBeds_i A n c M Y G _ (by omega) HS.out).mono ?_
  rintro e w1 ⟨A1, c1, P, C, rfl, k1, k2, hf, hsl, hb1⟩
  have HF := Lib.hid hf
  have HL := Lib.hid hsl
  have HB1 := Lib.hid hb1
  have z1 := hb1.size
  clear hf hsl hb1
  go_wp2_with fail
  go_loopw [12] (fun s wr => ∃ k : Nat, k ≤ n ∧ s = .int .i64 k ∧ FlatBs wr w.heap.size w1.heap.size A1 n P M C (fun j => if j < k then later M G (fun j => B.testBit j) j else G j) ∧ Below w.heap.size w wr ∧ w1.heap.size ≤ wr.heap.size) (fun s _ => n - (intOf s).toNat)
  case atStart => exact ⟨0, by omega, rfl, fun h => by obtain ⟨g, e, a, b, ho⟩ := HF.out h; exact ⟨g, e, a, b, ho.congr fun j _ => by simp⟩, HB1.out, Nat.le_refl _⟩
  case round =>
    obtain ⟨k, hk, rfl, hf, hbl, hsz⟩ := hrel
    have hzz := hbl.size
    have HF' := Lib.hid hf
    clear hf
    by_cases hlt : k < n
    · have hlt' : (k : Int) < (n : Int) := by omega
      obtain ⟨g, rfl, g1, g2, ho⟩ := HF'.out (by omega)
      obtain ⟨b, o, rfl, hb, hX⟩ := HS.out (by omega)
      obtain ⟨⟨P0, C0, p0, hp⟩, p1⟩ := hX k hlt
      replace p0 := (hbl.cell (p := ⟨b, o + k * 2, none⟩) hb).trans p0
      replace p1 := (hbl.cell (p := ⟨b, o + k * 2 + 1, none⟩) hb).trans p1
      obtain ⟨m1, m2, -⟩ := bedB_of (HA.out k hlt)
      have o2 : OwnV (wr.alloc (Obj.cells #[.slice P0 (M k) C0, .int .i64 (G k)] 26)) g 26 (n * 2) _ := ho.of_block (Go.Deep.blk_alloc_lt _ _ _ ho.lt)
      have d1 := o2.cell (j := k * 2 + 1) (by omega)
      rw [bedV_1] at d1
      have f1 := o2.frozen (k * 2 + 1)
      have HO := Lib.hid o2
      have HP := Lib.hid hp
      have HBL := Lib.hid hbl
      have fin : ∀ v : Int, later M G (fun j => B.testBit j) k = v → FlatBs ((wr.alloc (Obj.cells #[.slice P0 (M k) C0, .int .i64 (G k)] 26)).setCell ⟨g, k * 2 + 1, none⟩ (.int .i64 v)) w.heap.size w1.heap.size (some ⟨g, 0, none⟩) n P M C (fun j => if j < k + 1 then later M G (fun j => B.testBit j) j else G j) := by
        intro v hv _
        refine ⟨g, rfl, g1, g2, (HO.out.set (k * 2 + 1) (.int .i64 v)).congr ?_⟩
        intro j hj
        by_cases e1 : j = k * 2 + 1
        · subst e1; rw [if_pos rfl, bedV_1, if_pos (by omega), hv]
        · rw [if_neg e1]
          refine bedV_congr fun hodd => ?_
          by_cases e3 : j / 2 < k
          · rw [if_pos e3, if_pos (by omega)]
          · rw [if_neg e3, if_neg (by omega)]
      have FIN := Lib.hid fin
      have HZ := Lib.hid hsz
      clear hX hp ho o2 hbl fin
      have hk16 : k < 32 := by omega
      cases ht : B.testBit k
      · have hl : later M G (fun j => B.testBit j) k = if G k + 1 ≤ M k then G k + 1 else M k := by show (if B.testBit k then (1 : Int) else _) = _; rw [ht]; rfl
        by_cases hm : G k + 1 ≤ M k
        · rw [if_pos hm] at hl
          have HL2 := Lib.hid hl
          have w5 : min (G k + 1) (M k : Int) = G k + 1 := by omega
          clear hl
          go_wp2_with (go_at_call 106; refine (pickHas_i B k _ hB hk16).mono ?_; rintro e w' ⟨rfl, rfl⟩)
          go_roundw
          case rel => exact ⟨k + 1, by omega, by go_num, FIN.out _ HL2.out, Below.setCell (Below.alloc HBL.out hzz _) g1 _, by have := HZ.out; simp; omega⟩
          case measure => simp [intOf]; omega
        · rw [if_neg hm] at hl
          have HL2 := Lib.hid hl
          have w5 : min (G k + 1) (M k : Int) = M k := by omega
          clear hl
          go_wp2_with (go_at_call 106; refine (pickHas_i B k _ hB hk16).mono ?_; rintro e w' ⟨rfl, rfl⟩)
          go_roundw
          case rel => exact ⟨k + 1, by omega, by go_num, FIN.out _ HL2.out, Below.setCell (Below.alloc HBL.out hzz _) g1 _, by have := HZ.out; simp; omega⟩
          case measure => simp [intOf]; omega
      · have hl : later M G (fun j => B.testBit j) k = 1 := by show (if B.testBit k then (1 : Int) else _) = _; rw [ht]; rfl
        have HL2 := Lib.hid hl
        clear hl
        go_wp2_with (go_at_call 106; refine (pickHas_i B k _ hB hk16).mono ?_; rintro e w' ⟨rfl, rfl⟩)
        go_roundw
        case rel => exact ⟨k + 1, by omega, by go_num, FIN.out _ HL2.out, Below.setCell (Below.alloc HBL.out hzz _) g1 _, by have := HZ.out; simp; omega⟩
        case measure => simp [intOf]; omega
    · obtain rfl : k = n := by omega
      have HBL := Lib.hid hbl
      clear hbl
      go_wp2
      go_ret
      exact ⟨A1, c1, P, C, rfl, k1, k2, fun h => by obtain ⟨g, e, a, b, ho⟩ := HF'.out h; exact ⟨g, e, a, by omega, ho.congr fun j hj => bedV_congr (fun _ => by rw [if_pos (by omega)])⟩, HL.out, HBL.out⟩

/-- i beds that the call itself has appended, each with numbers of its own -/
def SoFar (w : World) (B : Nat) (v : Value) (i : Nat) (M : Nat → Nat) (Y : Nat → Nat → Int) (G : Nat → Int) : Prop :=
  ∃ P C, w.ownsRow B 26 2 v i (cellsOf (bedV P M C G) (i * 2)) ∧ (∀ j, j < i → Row w B w.heap.size (P j) (M j) 1 2 (Y j)) ∧ Dis i M P
theorem soFar_0 (w : World) (M : Nat → Nat) (Y : Nat → Nat → Int) (G : Nat → Int) : SoFar (w.alloc (Obj.cells #[] 26)) w.heap.size (.slice (some ⟨w.heap.size, 0, none⟩) 0 0) 0 M Y G :=
  ⟨fun _ => none, fun _ => 0, owns_none0 w w.heap.size 2 26 (Nat.le_refl _), fun j hj => absurd hj (by omega), fun i j _ hj => absurd hj (by omega)⟩

theorem row_setLow {w : World} {lo hi n b i : Nat} {A : Option Addr} {X : Nat → Int} {v : Value} (h : Row w lo hi A n 1 2 X) (hl : b < lo) : Row (w.setCell ⟨b, i, none⟩ v) lo hi A n 1 2 X := fun hn => by
  obtain ⟨g, e, h1, h2, ho⟩ := h hn
  exact ⟨g, e, h1, h2, ho.setOther (show g ≠ b by omega) _⟩

theorem owns_below {w w' : World} {B n size : Nat} {E : TypeId} {v : Value} {xs : List Value} (h : w.ownsRow B E size v n xs) (hb : Below w.heap.size w w') : w'.ownsRow B E size v n xs := by
  obtain ⟨hl, h⟩ := h
  rcases h with h | ⟨g, cap, cur, e, hB, hh, r⟩
  · exact ⟨hl, .inl h⟩
  · obtain ⟨hlt, _⟩ := Array.getElem?_eq_some_iff.1 hh
    exact ⟨hl, .inr ⟨g, cap, cur, e, hB, (hb.block g hlt).trans hh, r⟩⟩
theorem owns_type {w : World} {B n size : Nat} {E : TypeId} {v : Value} {xs : List Value} (h : w.ownsRow B E size v n xs) {k : Nat} (hk : v.ownBlock = some k) : ∃ cur, w.heap[k]? = some (.cells cur E (0, 0)) := by
  rcases h.2 with ⟨rfl, _⟩ | ⟨g, cap, cur, rfl, hB, hh, _⟩
  · simp [Value.ownBlock] at hk
  · simp [Value.ownBlock] at hk
    subst hk
    exact ⟨cur, hh⟩
theorem cells2_snoc (V : Nat → Value) (i : Nat) : cellsOf V ((i + 1) * 2) = cellsOf V (i * 2) ++ [V (i * 2), V (i * 2 + 1)] := by
  unfold cellsOf
  rw [show (i + 1) * 2 = i * 2 + 1 + 1 by omega, List.range_succ, List.range_succ]
  simp
theorem cells_congr {V U : Nat → Value} {n : Nat} (h : ∀ j, j < n → V j = U j) : cellsOf V n = cellsOf U n := by
  unfold cellsOf
  apply List.map_congr_left
  intro j hj
  exact h j (by simpa using hj)
theorem soFar_step {wr wx w5 : World} {B i : Nat} {v v' : Value} {M C : Nat → Nat} {Y : Nat → Nat → Int} {G : Nat → Int} {P : Nat → Option Addr} {A : Option Addr} {c : Nat} {X : Array Value} (hB : B ≤ wr.heap.size)
    (ho : wr.ownsRow B 26 2 v i (cellsOf (bedV P M C G) (i * 2))) (hr : ∀ j, j < i → Row wr B wr.heap.size (P j) (M j) 1 2 (Y j)) (hd : Dis i M P) (hb : Below wr.heap.size wr wx)
    (hn : Row wx wr.heap.size wx.heap.size A (M i) 1 2 (Y i)) (h5 : w5.ownsRow B 26 2 v' (i + 1) (cellsOf (bedV P M C G) (i * 2) ++ [.slice A (M i) c, .int .i64 (G i)])) (hg : (wx.alloc (Obj.cells X 26)).grownBy w5 v.ownBlock) : SoFar w5 B v' (i + 1) M Y G := by
  have hxs := hb.size
  have hgs := hg.size
  have hal : (wx.alloc (Obj.cells X 26)).heap.size = wx.heap.size + 1 := by simp
  have hw1 : Below wr.heap.size wr (wx.alloc (Obj.cells X 26)) := Below.alloc hb hxs _
  have hkeep : ∀ {lo hi n : Nat} {A : Option Addr} {Z : Nat → Int}, hi ≤ wx.heap.size → Row wx lo hi A n 1 2 Z → Row w5 lo hi A n 1 2 Z := by
    intro lo hi n A Z hhi h hn
    obtain ⟨g, e, a, b, hown⟩ := h hn
    refine ⟨g, e, a, b, ?_⟩
    have h1 : Own (wx.alloc (Obj.cells X 26)) g 2 (n * 1) Z := hown.alloc _
    refine h1.of_block (hg.block g h1.lt fun e2 => ?_)
    obtain ⟨cur, hc⟩ := owns_type (owns_below ho hw1) e2.symm
    obtain ⟨c', hc', _⟩ := h1
    rw [hc] at hc'
    injection hc' with hc'
    injection hc' with _ hc'
    exact absurd hc' (by decide)
  refine ⟨fun j => if j = i then A else P j, fun j => if j = i then c else C j, ?_, ?_, hd.of_old hr hn⟩
  · rw [cells2_snoc, bedV_0, bedV_1]
    have e : cellsOf (bedV (fun j => if j = i then A else P j) M (fun j => if j = i then c else C j) G) (i * 2) = cellsOf (bedV P M C G) (i * 2) := cells_congr fun j hj => (bedV_upd hj).symm
    rw [e]
    simpa using h5
  · intro j hj
    show Row w5 B w5.heap.size (if j = i then A else P j) (M j) 1 2 (Y j)
    by_cases e : j = i
    · subst e
      rw [if_pos rfl]
      exact (hkeep (Nat.le_refl _) hn).wide hB (by omega)
    · rw [if_neg e]
      exact (hkeep (by omega) ((hr j (by omega)).below hb (Nat.le_refl _))).wide (Nat.le_refl _) (by omega)

end Go.Proofs.Ytcpaenmhnoagdac.rod
