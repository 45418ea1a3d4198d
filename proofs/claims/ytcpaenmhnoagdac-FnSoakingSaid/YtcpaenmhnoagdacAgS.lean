/-
  The methods of the program's heap of events, and the library's heap over it: sifting down, Init, Pop.
-/
import Derived.Test.YtcpaenmhnoagdacAg
namespace Go.Proofs.Ytcpaenmhnoagdac.ag
open Go.ChangeShapes Go.WideShapes Go.ChangeAt Go.RowKit Go.Proofs.Ytcpaenmhnoagdac.mem Go.Proofs.Ytcpaenmhnoagdac.hp
set_option linter.unusedVariables false
theorem load_ag (p : Nat) (v : Value) (w : World) (h : w.cell? ⟨p, 0, none⟩ = some v) : (loadVar 141 ⟨p, 0, none⟩).run Try.prog w = .ok v w := by
  unfold loadVar
  simp [go_sem, h]
theorem m_less0 (p : Nat) (w : World) : (method 264 143 (.pointer (some ⟨p, 0, none⟩)) "Less").run Try.prog w = (do let v ← loadVar 141 ⟨p, 0, none⟩; pure (144, v) : Sem (FuncId × Value)).run Try.prog w := by kernel_rfl
theorem m_less (p : Nat) (v : Value) (w : World) (h : w.cell? ⟨p, 0, none⟩ = some v) : (method 264 143 (.pointer (some ⟨p, 0, none⟩)) "Less").run Try.prog w = .ok (144, v) w := by
  rw [m_less0, Sem.run_bind, load_ag p v w h]; rfl
theorem m_len0 (p : Nat) (w : World) : (method 264 143 (.pointer (some ⟨p, 0, none⟩)) "Len").run Try.prog w = (do let v ← loadVar 141 ⟨p, 0, none⟩; pure (143, v) : Sem (FuncId × Value)).run Try.prog w := by kernel_rfl
theorem m_len (p : Nat) (v : Value) (w : World) (h : w.cell? ⟨p, 0, none⟩ = some v) : (method 264 143 (.pointer (some ⟨p, 0, none⟩)) "Len").run Try.prog w = .ok (143, v) w := by
  rw [m_len0, Sem.run_bind, load_ag p v w h]; rfl
theorem m_swap0 (p : Nat) (w : World) : (method 264 143 (.pointer (some ⟨p, 0, none⟩)) "Swap").run Try.prog w = (do let v ← loadVar 141 ⟨p, 0, none⟩; pure (145, v) : Sem (FuncId × Value)).run Try.prog w := by kernel_rfl
theorem m_swap (p : Nat) (v : Value) (w : World) (h : w.cell? ⟨p, 0, none⟩ = some v) : (method 264 143 (.pointer (some ⟨p, 0, none⟩)) "Swap").run Try.prog w = .ok (145, v) w := by
  rw [m_swap0, Sem.run_bind, load_ag p v w h]; rfl
theorem m_pop (p : Nat) (w : World) : (method 264 143 (.pointer (some ⟨p, 0, none⟩)) "Pop").run Try.prog w = .ok (146, .pointer (some ⟨p, 0, none⟩)) w := by kernel_rfl

theorem len_v (A : Option Addr) (n cap : Nat) (w : World) :
    Calls Try.prog 143 #[.slice A n cap] w fun e w' => e = .returned (.int .i64 n) ∧ w = w' := by
  go_enter Try.func143, Try.ntmps143
  go_wp2
  go_ret
  exact ⟨rfl, rfl⟩

/-- two events have been exchanged -/
def Swapped (w : World) (g n i k : Nat) (a : Nat → Ev) (e : Ending) (w' : World) : Prop := (∃ v, e = .returned v) ∧ Own w' g 136 (n * 2) (fl (swp a i k)) ∧ WroteIn w w' g (g + 1)
theorem fl_swp {a : Nat → Ev} {i k : Nat} (hne : i < k) (j : Nat) : (if j = k * 2 + 1 then (a i).2 else if j = k * 2 then (a i).1 else if j = i * 2 + 1 then (a k).2 else if j = i * 2 then (a k).1 else fl a j) = fl (swp a i k) j := by
  by_cases e1 : j = k * 2 + 1
  · rw [if_pos e1, e1, fl_1, swp_r]
  rw [if_neg e1]
  by_cases e2 : j = k * 2
  · rw [if_pos e2, e2, fl_0, swp_r]
  rw [if_neg e2]
  by_cases e3 : j = i * 2 + 1
  · rw [if_pos e3, e3, fl_1, swp_l]
  rw [if_neg e3]
  by_cases e4 : j = i * 2
  · rw [if_pos e4, e4, fl_0, swp_l]
  rw [if_neg e4]
  unfold fl
  rw [swp_o (by omega) (by omega)]

set_option maxHeartbeats 4000000 in
set_option maxRecDepth 100000 in
theorem swap_v (g n cap i k : Nat) (a : Nat → Ev) (w : World) (hn : n ≤ maxLen) (hk : k < n) (hne : i < k) (ho : Own w g 136 (n * 2) (fl a)) :
    Calls Try.prog 145 #[.slice (some ⟨g, 0, none⟩) n cap, .int .i64 i, .int .i64 k] w (Swapped w g n i k a) := by
  unfold maxLen at hn
  have hi : i < n := by omega
  have p0 := ho.cell (j := i * 2) (by omega)
  have p1 := ho.cell (j := i * 2 + 1) (by omega)
  have q0 := ho.cell (j := k * 2) (by omega)
  have q1 := ho.cell (j := k * 2 + 1) (by omega)
  have f0 := ho.frozen (i * 2)
  have f1 := ho.frozen (i * 2 + 1)
  have f2 := ho.frozen (k * 2)
  have f3 := ho.frozen (k * 2 + 1)
  rw [fl_0] at p0 q0
  rw [fl_1] at p1 q1
  have i0 : (0 : Int) ≤ (i : Int) := by omega
  have k0 : (0 : Int) ≤ (k : Int) := by omega
  have i1 : (i : Int) < (n : Int) := by omega
  have k1 : (k : Int) < (n : Int) := by omega
  have HO := Lib.hid ho
  clear ho
  go_enter Try.func145, Try.ntmps145
  go_wp2_with fail
  go_region
  go_wp2
  go_end0
  exact ⟨⟨_, rfl⟩, (((((HO.out.set (i * 2) (a k).1).set (i * 2 + 1) (a k).2).set (k * 2) (a i).1).set (k * 2 + 1) (a i).2).drew).congr (fun j _ => fl_swp hne j), (((((WroteIn.refl w g (g + 1)).set (Nat.le_refl _) (Nat.lt_succ_self _) _).set (Nat.le_refl _) (Nat.lt_succ_self _) _).set (Nat.le_refl _) (Nat.lt_succ_self _) _).set (Nat.le_refl _) (Nat.lt_succ_self _) _).drew⟩

theorem swp_self {a : Nat → Ev} {i : Nat} : swp a i i = a := by
  funext j
  unfold swp
  by_cases e : j = i
  · rw [if_pos e, e]
  · rw [if_neg e, if_neg e]
set_option maxHeartbeats 4000000 in
set_option maxRecDepth 100000 in
theorem swap_0 (g n cap : Nat) (a : Nat → Ev) (w : World) (hn : n ≤ maxLen) (hk : 0 < n) (ho : Own w g 136 (n * 2) (fl a)) :
    Calls Try.prog 145 #[.slice (some ⟨g, 0, none⟩) n cap, .int .i64 0, .int .i64 0] w (Swapped w g n 0 0 a) := by
  unfold maxLen at hn
  have p0 := ho.cell (j := 0 * 2) (by omega)
  have p1 := ho.cell (j := 0 * 2 + 1) (by omega)
  have f0 := ho.frozen 0
  have f1 := ho.frozen 1
  rw [fl_0] at p0
  rw [fl_1] at p1
  simp only [Nat.zero_mul, Nat.zero_add] at p0 p1
  have i1 : (0 : Int) < (n : Int) := by omega
  have HO := Lib.hid ho
  clear ho
  go_enter Try.func145, Try.ntmps145
  go_wp2_with fail
  go_region
  go_wp2
  go_end0
  refine ⟨⟨_, rfl⟩, (((((HO.out.set 0 (a 0).1).set 1 (a 0).2).set 0 (a 0).1).set 1 (a 0).2).drew).congr (fun j _ => ?_), (((((WroteIn.refl w g (g + 1)).set (Nat.le_refl _) (Nat.lt_succ_self _) _).set (Nat.le_refl _) (Nat.lt_succ_self _) _).set (Nat.le_refl _) (Nat.lt_succ_self _) _).set (Nat.le_refl _) (Nat.lt_succ_self _) _).drew⟩
  rw [swp_self]
  by_cases e1 : j = 1
  · subst e1; rw [if_pos rfl]; exact (fl_1 a 0).symm
  rw [if_neg e1]
  by_cases e2 : j = 0
  · subst e2; rw [if_pos rfl]; exact (fl_0 a 0).symm
  rw [if_neg e2, if_neg e1, if_neg e2]

theorem Ag.swapped {w w' : World} {p g n cap i k : Nat} {a : Nat → Ev} (h : Ag w p g n cap a) (ho : Own w' g 136 (n * 2) (fl (swp a i k))) (hw : WroteIn w w' g (g + 1)) : Ag w' p g n cap (swp a i k) ∧ Only w w' p g := by
  have := hw.size
  have := h.ne
  have := h.lt
  have e := hw.block p h.lt (by omega)
  refine ⟨⟨(hw.cell h.lt (by omega)).trans h.sl, ?_, h.le, h.mx, by omega, h.ne, ho⟩, ⟨hw.os, hw.tape, hw.output, hw.size, fun k hk h1 h2 => hw.block k hk (by omega)⟩⟩
  have := h.fr
  unfold World.frozen? at this ⊢
  rw [e]
  exact this
theorem Ag.drew {w w' : World} {p g n cap : Nat} {a : Nat → Ev} (h : Ag w p g n cap a) (d : Drew w w') : Ag w' p g n cap a := by
  obtain ⟨m, rfl⟩ := d
  exact ⟨h.sl, h.fr, h.le, h.mx, h.lt, h.ne, h.own.drewN m⟩
theorem Only.drew {w w1 w' : World} {p g : Nat} (h : Only w w1 p g) (d : Drew w1 w') : Only w w' p g := by
  obtain ⟨m, rfl⟩ := d
  exact h.drewN m
/-- what sifting down leaves -/
def Sifted (w : World) (p g n cap i0 m : Nat) (a : Nat → Ev) (e : Ending) (w' : World) : Prop :=
  (∃ v, e = .returned v) ∧ ∃ b, Ag w' p g n cap b ∧ Sim m a b ∧ Heap b i0 m ∧ Only w w' p g
/-- between two rounds -/
def Sifting (w wr : World) (p g n cap i0 k m : Nat) (a : Nat → Ev) : Prop := ∃ b, Ag wr p g n cap b ∧ Sim m a b ∧ Down b i0 k m ∧ Only w wr p g

end Go.Proofs.Ytcpaenmhnoagdac.ag
