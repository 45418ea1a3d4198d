/-
  Contracts of BunchText, of the model's and of the program's.
-/
import Derived.Test.YtcpaenmhnoagdaaDoorDecI
import Derived.Test.YtcpaenmhnoagdaaDoorBunch
import Derived.Lib.ItoaLen
namespace Go.Proofs.YtcpaenmhnoagdaaDoor.rod
open Go.ChangeShapes Go.WideShapes Go.ChangeAt Go.RowKit
open Go.Proofs.YtcpaenmhnoagdaaDoor.mem Go.Proofs.YtcpaenmhnoagdaaDoor.dec
set_option linter.unusedVariables false

def decB (n : Int) : ByteArray := ⟨(Lib.itoa n).toArray⟩
theorem decB_size {n : Int} (h0 : -9223372036854775808 ≤ n) (h1 : n ≤ 9223372036854775807) : (decB n).size ≤ 21 := by
  have := Lib.itoa_length_le n h0 h1
  show (Lib.itoa n).toArray.size ≤ 21
  simpa using this
theorem dec_st (n : Int) (s : ByteArray) (h0 : -9223372036854775808 ≤ n) (h1 : n ≤ 9223372036854775807) (hs : decB n = s) (W : World) :
    Calls Tryd.prog 31 #[.int .i64 n] W fun e w' => e = .returned (.string s) ∧ Below W.heap.size W w' :=
  (dec_s n h0 h1 W).mono fun e w' ⟨p, q⟩ => ⟨by rw [p, ← hs]; rfl, q⟩
theorem dec_it (n : Int) (s : ByteArray) (h0 : -9223372036854775808 ≤ n) (h1 : n ≤ 9223372036854775807) (hs : decB n = s) (W : World) (ht : Tab W) :
    Calls Tryd.prog 33 #[.int .i64 n] W fun e w' => e = .returned (.string s) ∧ Below W.heap.size W w' :=
  (dec_i n h0 h1 W ht).mono fun e w' ⟨p, q⟩ => ⟨by rw [p, ← hs]; rfl, q⟩
/-- the text of a bundle -/
def bunT (L B T : Int) : ByteArray := decB L ++ ⟨#[32, 109, 109, 44, 32, 103, 105, 114, 116, 104, 32]⟩ ++ decB B ++ ⟨#[44, 32]⟩ ++ decB T ++ ⟨#[32, 103]⟩

theorem adds {L B T : Int} (hr : bunB L B T = true) : ∃ sA sB sC t1 t2 t3 t5 : ByteArray, Hid (decB L = sA) ∧ Hid (decB B = sB) ∧ Hid (decB T = sC) ∧
    (∀ W, (Op.stringOp .add sA ⟨#[32, 109, 109, 44, 32, 103, 105, 114, 116, 104, 32]⟩).run Tryd.prog W = .ok (.string t1) W) ∧ (∀ W, (Op.stringOp .add t1 sB).run Tryd.prog W = .ok (.string t2) W) ∧
    (∀ W, (Op.stringOp .add t2 ⟨#[44, 32]⟩).run Tryd.prog W = .ok (.string t3) W) ∧ (∀ W, (Op.stringOp .add t3 sC).run Tryd.prog W = .ok (.string t5) W) ∧ (∀ W, (Op.stringOp .add t5 ⟨#[32, 103]⟩).run Tryd.prog W = .ok (.string (bunT L B T)) W) := by
  obtain ⟨a1, a2, b1, b2, c1, c2⟩ := bunB_of hr
  have z1 := decB_size (n := L) (by omega) (by omega)
  have z2 := decB_size (n := B) (by omega) (by omega)
  have z3 := decB_size (n := T) (by omega) (by omega)
  have m1 : (⟨#[32, 109, 109, 44, 32, 103, 105, 114, 116, 104, 32]⟩ : ByteArray).size = 11 := rfl
  have m2 : (⟨#[44, 32]⟩ : ByteArray).size = 2 := rfl
  have m3 : (⟨#[32, 103]⟩ : ByteArray).size = 2 := rfl
  exact ⟨_, _, _, _, _, _, _, rfl, rfl, rfl, fun W => run_string_add_sum W _ _ (by omega), fun W => run_string_add_sum W _ _ (by simp only [ByteArray.size_append]; omega),
    fun W => run_string_add_sum W _ _ (by simp only [ByteArray.size_append]; omega), fun W => run_string_add_sum W _ _ (by simp only [ByteArray.size_append]; omega), fun W => run_string_add_sum W _ _ (by simp only [ByteArray.size_append]; omega)⟩

theorem oneU_b (b o : Nat) (L B T : Int) (w : World) (h0 : w.cell? ⟨b, o, none⟩ = some (.int .i64 L)) (h1 : w.cell? ⟨b, o + 1, none⟩ = some (.int .i64 B)) (h2 : w.cell? ⟨b, o + 2, none⟩ = some (.int .i64 T)) :
    Calls Tryd.prog 30 #[.pointer (some ⟨b, o, none⟩)] w fun e w' => e = .returned (.bool (bunB L B T)) ∧ Below w.heap.size w w' :=
  (oneU_s b o L B T w h0 h1 h2).mono fun e w' ⟨h, n, hn⟩ => ⟨h, hn ▸ drewN_below (Below.refl _ _) n⟩

set_option maxHeartbeats 1000000 in
theorem bunchText_s_no (L B T : Int) (w : World) (hr : bunB L B T = false) :
    Calls Tryd.prog 5 #[.agg #[.int .i64 L, .int .i64 B, .int .i64 T]] w fun e w' => e = .returned (.string ⟨#[]⟩) ∧ Below w.heap.size w w' := by
  go_enter Tryd.func5, Tryd.ntmps5
  go_wp2_with fail
  refine (oneU_b _ _ L B T _ (by go_simp) (by go_simp) (by go_simp)).mono ?_
  rintro e w1 ⟨rfl, hb⟩
  have B1 : Below w.heap.size w w1 := Below.trans (by go_grown) (hb.mono (by simp <;> omega))
  go_wp2
  go_ret
  exact ⟨rfl, B1⟩
set_option maxHeartbeats 4000000 in
set_option maxRecDepth 100000 in
theorem bunchText_s (L B T : Int) (w : World) (hr : bunB L B T = true) :
    Calls Tryd.prog 5 #[.agg #[.int .i64 L, .int .i64 B, .int .i64 T]] w fun e w' => e = .returned (.string (bunT L B T)) ∧ Below w.heap.size w w' := by
  obtain ⟨sA, sB, sC, t1, t2, t3, t5, HA, HB, HC, e1, e2, e3, e4, e5⟩ := adds hr
  have l1 := Lib.hid (bunB_of hr)
  generalize bunT L B T = t4 at *
  go_enter Tryd.func5, Tryd.ntmps5
  go_wp2_with fail
  refine (oneU_b _ _ L B T _ (by go_simp) (by go_simp) (by go_simp)).mono ?_
  rintro e w0 ⟨rfl, hb⟩
  have x0 := hb.size
  simp at x0
  have c0 : w0.cell? ⟨w.heap.size, 0, none⟩ = some (.int .i64 L) := by rw [(bcell hb).1 _ _ (by simp <;> omega)]; go_simp
  have c1 : w0.cell? ⟨w.heap.size, 1, none⟩ = some (.int .i64 B) := by rw [(bcell hb).1 _ _ (by simp <;> omega)]; go_simp
  have c2 : w0.cell? ⟨w.heap.size, 2, none⟩ = some (.int .i64 T) := by rw [(bcell hb).1 _ _ (by simp <;> omega)]; go_simp
  have B0 : Below w.heap.size w w0 := Below.trans (by go_grown) (hb.mono (by simp <;> omega))
  clear hb
  go_wp2_with fail
  clear hr
  go_region_held3 (fun q => q.cell? ⟨w.heap.size, 0, none⟩ = some (.int .i64 L) ∧ q.cell? ⟨w.heap.size, 1, none⟩ = some (.int .i64 B) ∧ q.cell? ⟨w.heap.size, 2, none⟩ = some (.int .i64 T)) (first | go_keep | exact ⟨p0, p1, p2⟩ | exact ⟨q0, q1, q2⟩ | exact ⟨r0, r1, r2⟩)
    (first
      | (go_at_call_of 31 (Value.int .i64 L); refine (dec_st L sA (by have := l1.out; omega) (by have := l1.out; omega) HA.out _).mono ?_; rintro e w1 ⟨rfl, b1⟩
         have x1 := b1.size
         simp at x1
         have p0 : w1.cell? ⟨w.heap.size, 0, none⟩ = some (.int .i64 L) := by rw [(bcell b1).1 _ _ (by simp <;> omega)]; go_simp
         have p1 : w1.cell? ⟨w.heap.size, 1, none⟩ = some (.int .i64 B) := by rw [(bcell b1).1 _ _ (by simp <;> omega)]; go_simp
         have p2 : w1.cell? ⟨w.heap.size, 2, none⟩ = some (.int .i64 T) := by rw [(bcell b1).1 _ _ (by simp <;> omega)]; go_simp
         have B1 : Below w.heap.size w w1 := B0.drew.trans (b1.mono (by simp <;> omega))
         clear b1)
      | (go_at_call_of 31 (Value.int .i64 B); refine (dec_st B sB (by have := l1.out; omega) (by have := l1.out; omega) HB.out _).mono ?_; rintro e w2 ⟨rfl, b2⟩
         have x2 := b2.size
         have q0 : w2.cell? ⟨w.heap.size, 0, none⟩ = some (.int .i64 L) := by rw [(bcell b2).1 _ _ (by omega)]; exact p0
         have q1 : w2.cell? ⟨w.heap.size, 1, none⟩ = some (.int .i64 B) := by rw [(bcell b2).1 _ _ (by omega)]; exact p1
         have q2 : w2.cell? ⟨w.heap.size, 2, none⟩ = some (.int .i64 T) := by rw [(bcell b2).1 _ _ (by omega)]; exact p2
         have B2 : Below w.heap.size w w2 := B1.trans (b2.mono (by omega))
         clear b2)
      | (go_at_call_of 31 (Value.int .i64 T); refine (dec_st T sC (by have := l1.out; omega) (by have := l1.out; omega) HC.out _).mono ?_; rintro e w3 ⟨rfl, b3⟩
         have r0 : w3.cell? ⟨w.heap.size, 0, none⟩ = some (.int .i64 L) := by rw [(bcell b3).1 _ _ (by omega)]; exact q0
         have r1 : w3.cell? ⟨w.heap.size, 1, none⟩ = some (.int .i64 B) := by rw [(bcell b3).1 _ _ (by omega)]; exact q1
         have r2 : w3.cell? ⟨w.heap.size, 2, none⟩ = some (.int .i64 T) := by rw [(bcell b3).1 _ _ (by omega)]; exact q2
         have B3 : Below w.heap.size w w3 := B2.trans (b3.mono (by omega))
         clear b3))
  go_wp2
  go_ret
  exact ⟨rfl, B3⟩

set_option maxHeartbeats 1000000 in
theorem bunchText_i_no (L B T : Int) (w : World) (hr : bunB L B T = false) :
    Calls Tryd.prog 7 #[.agg #[.int .i64 L, .int .i64 B, .int .i64 T]] w fun e w' => e = .returned (.string ⟨#[]⟩) ∧ Below w.heap.size w w' := by
  go_enter Tryd.func7, Tryd.ntmps7
  go_wp2_with fail
  refine (bun_i L B T _).mono ?_
  rintro e w1 ⟨rfl, hb⟩
  have B1 : Below w.heap.size w w1 := Below.trans (by go_grown) (hb.mono (by simp <;> omega))
  go_wp2
  go_ret
  exact ⟨rfl, B1⟩
set_option maxHeartbeats 4000000 in
set_option maxRecDepth 100000 in
theorem bunchText_i (L B T : Int) (w : World) (hr : bunB L B T = true) (ht : Tab w) :
    Calls Tryd.prog 7 #[.agg #[.int .i64 L, .int .i64 B, .int .i64 T]] w fun e w' => e = .returned (.string (bunT L B T)) ∧ Below w.heap.size w w' := by
  obtain ⟨sA, sB, sC, t1, t2, t3, t5, HA, HB, HC, e1, e2, e3, e4, e5⟩ := adds hr
  have l1 := Lib.hid (bunB_of hr)
  have HT := Lib.hid ht
  clear ht
  generalize bunT L B T = t4 at *
  go_enter Tryd.func7, Tryd.ntmps7
  go_wp2_with fail
  refine (bun_i L B T _).mono ?_
  rintro e w0 ⟨rfl, hb⟩
  have x0 := hb.size
  simp at x0
  have c0 : w0.cell? ⟨w.heap.size, 0, none⟩ = some (.int .i64 L) := by rw [(bcell hb).1 _ _ (by simp <;> omega)]; go_simp
  have c1 : w0.cell? ⟨w.heap.size, 1, none⟩ = some (.int .i64 B) := by rw [(bcell hb).1 _ _ (by simp <;> omega)]; go_simp
  have c2 : w0.cell? ⟨w.heap.size, 2, none⟩ = some (.int .i64 T) := by rw [(bcell hb).1 _ _ (by simp <;> omega)]; go_simp
  have B0 : Below w.heap.size w w0 := Below.trans (by go_grown) (hb.mono (by simp <;> omega))
  clear hb
  go_wp2_with fail
  clear hr
  go_region_held3 (fun q => q.cell? ⟨w.heap.size, 0, none⟩ = some (.int .i64 L) ∧ q.cell? ⟨w.heap.size, 1, none⟩ = some (.int .i64 B) ∧ q.cell? ⟨w.heap.size, 2, none⟩ = some (.int .i64 T)) (first | go_keep | exact ⟨p0, p1, p2⟩ | exact ⟨q0, q1, q2⟩ | exact ⟨r0, r1, r2⟩)
    (first
      | (go_at_call_of 33 (Value.int .i64 L); refine (dec_it L sA (by have := l1.out; omega) (by have := l1.out; omega) HA.out _ (tab_below HT.out B0.drew)).mono ?_; rintro e w1 ⟨rfl, b1⟩
         have x1 := b1.size
         simp at x1
         have p0 : w1.cell? ⟨w.heap.size, 0, none⟩ = some (.int .i64 L) := by rw [(bcell b1).1 _ _ (by simp <;> omega)]; go_simp
         have p1 : w1.cell? ⟨w.heap.size, 1, none⟩ = some (.int .i64 B) := by rw [(bcell b1).1 _ _ (by simp <;> omega)]; go_simp
         have p2 : w1.cell? ⟨w.heap.size, 2, none⟩ = some (.int .i64 T) := by rw [(bcell b1).1 _ _ (by simp <;> omega)]; go_simp
         have B1 : Below w.heap.size w w1 := B0.drew.trans (b1.mono (by simp <;> omega))
         clear b1)
      | (go_at_call_of 33 (Value.int .i64 B); refine (dec_it B sB (by have := l1.out; omega) (by have := l1.out; omega) HB.out _ (tab_below HT.out B1)).mono ?_; rintro e w2 ⟨rfl, b2⟩
         have x2 := b2.size
         have q0 : w2.cell? ⟨w.heap.size, 0, none⟩ = some (.int .i64 L) := by rw [(bcell b2).1 _ _ (by omega)]; exact p0
         have q1 : w2.cell? ⟨w.heap.size, 1, none⟩ = some (.int .i64 B) := by rw [(bcell b2).1 _ _ (by omega)]; exact p1
         have q2 : w2.cell? ⟨w.heap.size, 2, none⟩ = some (.int .i64 T) := by rw [(bcell b2).1 _ _ (by omega)]; exact p2
         have B2 : Below w.heap.size w w2 := B1.trans (b2.mono (by omega))
         clear b2)
      | (go_at_call_of 33 (Value.int .i64 T); refine (dec_it T sC (by have := l1.out; omega) (by have := l1.out; omega) HC.out _ (tab_below HT.out B2)).mono ?_; rintro e w3 ⟨rfl, b3⟩
         have r0 : w3.cell? ⟨w.heap.size, 0, none⟩ = some (.int .i64 L) := by rw [(bcell b3).1 _ _ (by omega)]; exact q0
         have r1 : w3.cell? ⟨w.heap.size, 1, none⟩ = some (.int .i64 B) := by rw [(bcell b3).1 _ _ (by omega)]; exact q1
         have r2 : w3.cell? ⟨w.heap.size, 2, none⟩ = some (.int .i64 T) := by rw [(bcell b3).1 _ _ (by omega)]; exact q2
         have B3 : Below w.heap.size w w3 := B2.trans (b3.mono (by omega))
         clear b3))
  go_wp2
  go_ret
  exact ⟨rfl, B3⟩

end Go.Proofs.YtcpaenmhnoagdaaDoor.rod
