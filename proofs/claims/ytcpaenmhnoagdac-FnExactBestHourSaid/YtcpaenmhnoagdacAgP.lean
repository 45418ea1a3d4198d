/-
  The library's heap over the program's events: Init and Pop.
-/
import Derived.Test.YtcpaenmhnoagdacAgD
namespace Go.Proofs.Ytcpaenmhnoagdac.ag
open Go.ChangeShapes Go.WideShapes Go.ChangeAt Go.RowKit Go.Proofs.Ytcpaenmhnoagdac.mem Go.Proofs.Ytcpaenmhnoagdac.hp
set_option linter.unusedVariables false

/-- between two rounds of Init -/
def Inited (w wr : World) (p g n cap k : Nat) (a : Nat → Ev) : Prop := ∃ b, Ag wr p g n cap b ∧ Sim n a b ∧ Heap b k n ∧ Only w wr p g

set_option maxHeartbeats 4000000 in
set_option maxRecDepth 100000 in
theorem init_c (p g n cap : Nat) (a : Nat → Ev) (w : World) (h : Ag w p g n cap a) (hn : n ≤ 1000) :
    Calls Try.prog 124 #[.iface 143 (.pointer (some ⟨p, 0, none⟩))] w fun e w' => (∃ v, e = .returned v) ∧ Inited w w' p g n cap 0 a := by
  have H := Lib.hid h
  clear h
  have ML := m_len p _ w H.out.sl
  go_enter Try.func124, Try.ntmps124
  go_wp2_with fail
  refine (len_v _ n cap _).mono ?_
  rintro e w' ⟨rfl, rfl⟩
  clear ML
  go_wp2_with fail
  go_loopw [3] (fun s wr => ∃ (t : Int) (k : Nat), s = .int .i64 t ∧ t + 1 ≤ k ∧ k ≤ t + 1 ∧ k ≤ n ∧ Inited w wr p g n cap k a) (fun s _ => (intOf s + 1).toNat)
  case atStart => exact ⟨_, n / 2, rfl, by omega, by omega, by omega, a, H.out, Sim.refl _ _, Heap.half, Only.refl _ _ _⟩
  case round =>
    obtain ⟨t, k, rfl, t0, t1, hk, b, ha, hs, hh, hon⟩ := hrel
    have HA := Lib.hid ha
    have HS := Lib.hid hs
    have HH := Lib.hid hh
    have ON := Lib.hid hon
    clear ha hs hh hon
    by_cases ht : 0 ≤ t
    · obtain ⟨j, rfl⟩ : ∃ j : Nat, t = j := ⟨t.toNat, by omega⟩
      obtain rfl : k = j + 1 := by omega
      have j0 : (0 : Int) ≤ (j : Int) := by omega
      clear t0 t1 ht
      go_wp2_with fail
      refine (down_c p g n cap j n b _ HA.out (Nat.le_refl _) hn (by omega) (Down.start HH.out)).mono ?_
      rintro e w2 ⟨⟨v, rfl⟩, c, ha2, hs2, hh2, hon2⟩
      have HI := Lib.hid (show Inited w w2 p g n cap j a from ⟨c, ha2, HS.out.trans hs2, hh2, ON.out.trans hon2⟩)
      clear ha2 hs2 hh2 hon2
      go_wp2
      go_roundw
      case rel => exact ⟨_, j, rfl, by omega, by omega, by omega, HI.out⟩
      case measure => simp [intOf] <;> omega
    · obtain rfl : k = 0 := by omega
      go_wp2
      go_end0
      exact ⟨⟨_, rfl⟩, b, HA.out, HS.out, HH.out, ON.out⟩

/-- the answer is the last event, and the heap is shorter by it -/
def Shorter (w : World) (p g n cap : Nat) (a : Nat → Ev) (e : Ending) (w' : World) : Prop :=
  e = .returned (.iface 136 (.agg #[.int .i64 (a n).1, .int .i64 (a n).2])) ∧ Ag w' p g n cap a ∧ Only w w' p g

set_option maxHeartbeats 4000000 in
set_option maxRecDepth 100000 in
theorem popm_c (p g n cap : Nat) (a : Nat → Ev) (w : World) (h : Ag w p g (n + 1) cap a) :
    Calls Try.prog 146 #[.pointer (some ⟨p, 0, none⟩)] w (Shorter w p g n cap a) := by
  have hle := h.le
  have hmx := h.mx
  unfold maxLen at hmx
  have hlt := h.lt
  have hne := h.ne
  have sl := h.sl
  have fr := h.fr
  have p0 := h.own.cell (j := n * 2) (by omega)
  have p1 := h.own.cell (j := n * 2 + 1) (by omega)
  rw [fl_0] at p0
  rw [fl_1] at p1
  have hg := h.own.lt
  have H := Lib.hid h
  clear h
  have n0 : (0 : Int) ≤ (n : Int) := by omega
  have n1 : (n : Int) < ((n + 1 : Nat) : Int) := by omega
  have n2 : ((n + 1 : Nat) : Int) - 1 = (n : Int) := by omega
  go_enter Try.func146, Try.ntmps146
  go_wp2
  go_ret
  refine ⟨rfl, ⟨by go_simp, by go_simp, by omega, H.out.mx, by simp; omega, hne, (((H.out.own.le (by omega)).setOther (a := ⟨p, 0, none⟩) hne _).alloc _)⟩, ((Only.refl w p g).set (.inl rfl) 0 _).alloc _⟩

/-- the answer is the first event in time, and the heap is shorter by it -/
def Drawn1 (w : World) (p g n cap : Nat) (a : Nat → Ev) (e : Ending) (w' : World) : Prop :=
  e = .returned (.iface 136 (.agg #[.int .i64 (a 0).1, .int .i64 (a 0).2])) ∧ ∃ b, Popped a b n ∧ Ag w' p g n cap b ∧ Only w w' p g

set_option maxHeartbeats 4000000 in
set_option maxRecDepth 100000 in
theorem pop_c (p g n cap : Nat) (a : Nat → Ev) (w : World) (h : Ag w p g (n + 1) cap a) (hn : n + 1 ≤ 1000) (hh : Heap a 0 (n + 1)) :
    Calls Try.prog 119 #[.iface 143 (.pointer (some ⟨p, 0, none⟩))] w (Drawn1 w p g n cap a) := by
  have H := Lib.hid h
  have HH := Lib.hid hh
  have hnm : n + 1 ≤ maxLen := by unfold maxLen; omega
  clear h hh
  have ML := m_len p _ w H.out.sl
  have MS := m_swap p _ w H.out.sl
  have n2 : ((n + 1 : Nat) : Int) - 1 = (n : Int) := by omega
  have n3 : (n : Int) + 1 - 1 = (n : Int) := by omega
  have hsw : ∀ W, Ag W p g (n + 1) cap a → Calls Try.prog 145 #[.slice (some ⟨g, 0, none⟩) (n + 1) cap, .int .i64 0, .int .i64 n] W (Swapped W g (n + 1) 0 n a) := fun W hW => by
    by_cases e : n = 0
    · subst e; exact swap_0 g 1 cap a W hnm (by omega) hW.own
    · exact swap_v g (n + 1) cap 0 n a W hnm (by omega) (by omega) hW.own
  have HSW := Lib.hid hsw
  clear hsw
  go_enter Try.func119, Try.ntmps119
  go_wp2_with fail
  refine (len_v _ (n + 1) cap _).mono ?_
  rintro e w' ⟨rfl, rfl⟩
  clear ML
  go_wp2_with fail
  refine (HSW.out _ H.out).mono ?_
  rintro e w2 ⟨⟨v, rfl⟩, ho, hw⟩
  have S2 := Lib.hid (H.out.swapped ho hw)
  clear MS ho hw
  go_wp2_with fail
  refine (down_c p g (n + 1) cap 0 n (swp a 0 n) _ S2.out.1 (by omega) (by omega) (by omega) HH.out.popped).mono ?_
  rintro e w3 ⟨⟨v3, rfl⟩, b, ha3, hs3, hh3, hon3⟩
  have HP := Lib.hid (popped_of HH.out hs3 hh3)
  have S3 := Lib.hid ha3
  have O3 := Lib.hid (S2.out.2.trans hon3)
  have MP := m_pop p w3
  clear ha3 hs3 hh3 hon3
  go_wp2_with fail
  refine (popm_c p g n cap b _ S3.out).mono ?_
  rintro e w4 ⟨rfl, ha4, hon4⟩
  have S4 := Lib.hid ha4
  have O4 := Lib.hid (O3.out.trans hon4)
  have HL := Lib.hid HP.out.last
  clear MP ha4 hon4
  go_wp2
  go_ret
  exact ⟨by rw [HL.out]; rfl, b, HP.out, S4.out, O4.out⟩
end Go.Proofs.Ytcpaenmhnoagdac.ag
