/-
  Contracts of BaseText, of the model's and of the program's.
-/
import Derived.Test.YthcpkmdgipepgaaDoorDecI
import Derived.Test.YthcpkmdgipepgaaDoorBa
import Derived.Lib.ItoaLen
namespace Go.Proofs.YthcpkmdgipepgaaDoor.ba
open Go.ChangeShapes Go.WideShapes Go.ChangeAt Go.RowKit
open Go.Proofs.YthcpkmdgipepgaaDoor.mem Go.Proofs.YthcpkmdgipepgaaDoor.dec Go.Proofs.YthcpkmdgipepgaaDoor.rod
set_option linter.unusedVariables false

def decB (n : Int) : ByteArray := ⟨(Lib.itoa n).toArray⟩
theorem decB_size {n : Int} (h0 : -9223372036854775808 ≤ n) (h1 : n ≤ 9223372036854775807) : (decB n).size ≤ 21 := by
  have := Lib.itoa_length_le n h0 h1
  show (Lib.itoa n).toArray.size ≤ 21
  simpa using this
theorem dec_st (n : Int) (s : ByteArray) (h0 : -9223372036854775808 ≤ n) (h1 : n ≤ 9223372036854775807) (hs : decB n = s) (W : World) :
    Calls Tryd.prog 25 #[.int .i64 n] W fun e w' => e = .returned (.string s) ∧ Below W.heap.size W w' :=
  (dec_s n h0 h1 W).mono fun e w' ⟨p, q⟩ => ⟨by rw [p, ← hs]; rfl, q⟩
theorem dec_it (n : Int) (s : ByteArray) (h0 : -9223372036854775808 ≤ n) (h1 : n ≤ 9223372036854775807) (hs : decB n = s) (W : World) (ht : Tab W) :
    Calls Tryd.prog 26 #[.int .i64 n] W fun e w' => e = .returned (.string s) ∧ Below W.heap.size W w' :=
  (dec_i n h0 h1 W ht).mono fun e w' ⟨p, q⟩ => ⟨by rw [p, ← hs]; rfl, q⟩
/-- the text of a base -/
def basT (S M R K : Int) : ByteArray := decB S ++ ⟨#[32, 116, 104, 114, 111, 117, 103, 104, 32]⟩ ++ decB M ++ ⟨#[44, 32, 114, 97, 100, 105, 117, 115, 32]⟩ ++ decB R ++ ⟨#[44, 32, 119, 101, 97, 118, 101, 114, 115, 32]⟩ ++ decB K

theorem adds {S M R K : Int} (hr : baseB S M R K = true) : ∃ sA sB sC sD t1 t2 t3 t4 t5 : ByteArray, Hid (decB S = sA) ∧ Hid (decB M = sB) ∧ Hid (decB R = sC) ∧ Hid (decB K = sD) ∧
    (∀ W, (Op.stringOp .add sA ⟨#[32, 116, 104, 114, 111, 117, 103, 104, 32]⟩).run Tryd.prog W = .ok (.string t1) W) ∧ (∀ W, (Op.stringOp .add t1 sB).run Tryd.prog W = .ok (.string t2) W) ∧
    (∀ W, (Op.stringOp .add t2 ⟨#[44, 32, 114, 97, 100, 105, 117, 115, 32]⟩).run Tryd.prog W = .ok (.string t3) W) ∧ (∀ W, (Op.stringOp .add t3 sC).run Tryd.prog W = .ok (.string t4) W) ∧
    (∀ W, (Op.stringOp .add t4 ⟨#[44, 32, 119, 101, 97, 118, 101, 114, 115, 32]⟩).run Tryd.prog W = .ok (.string t5) W) ∧ (∀ W, (Op.stringOp .add t5 sD).run Tryd.prog W = .ok (.string (basT S M R K)) W) := by
  obtain ⟨a1, a2, b1, b2, c1, c2, d1, d2⟩ := baseB_of hr
  have z1 := decB_size (n := S) (by omega) (by omega)
  have z2 := decB_size (n := M) (by omega) (by omega)
  have z3 := decB_size (n := R) (by omega) (by omega)
  have z4 := decB_size (n := K) (by omega) (by omega)
  have m0 : (⟨#[32, 116, 104, 114, 111, 117, 103, 104, 32]⟩ : ByteArray).size = 9 := rfl
  have m1 : (⟨#[44, 32, 114, 97, 100, 105, 117, 115, 32]⟩ : ByteArray).size = 9 := rfl
  have m2 : (⟨#[44, 32, 119, 101, 97, 118, 101, 114, 115, 32]⟩ : ByteArray).size = 10 := rfl
  exact ⟨_, _, _, _, _, _, _, _, _, rfl, rfl, rfl, rfl, fun W => run_string_add_sum W _ _ (by omega), fun W => run_string_add_sum W _ _ (by simp only [ByteArray.size_append]; omega), fun W => run_string_add_sum W _ _ (by simp only [ByteArray.size_append]; omega), fun W => run_string_add_sum W _ _ (by simp only [ByteArray.size_append]; omega), fun W => run_string_add_sum W _ _ (by simp only [ByteArray.size_append]; omega), fun W => run_string_add_sum W _ _ (by simp only [ByteArray.size_append]; omega)⟩

set_option maxHeartbeats 1000000 in
theorem bt_s_no (S M R K : Int) (w : World) (hr : baseB S M R K = false) :
    Calls Tryd.prog 5 #[.agg #[.int .i64 S, .int .i64 M, .int .i64 R, .int .i64 K]] w fun e w' => e = .returned (.string ⟨#[]⟩) ∧ Below w.heap.size w w' := by
  go_enter Tryd.func5, Tryd.ntmps5
  go_wp2_with fail
  refine (okB_s _ _ S M R K _ (by go_simp) (by go_simp) (by go_simp) (by go_simp)).mono ?_
  rintro e w0 ⟨rfl, hb⟩
  have B0 : Below w.heap.size w w0 := Below.trans (by go_grown) (hb.mono (by simp <;> omega))
  go_wp2
  go_ret
  exact ⟨rfl, B0⟩
set_option maxHeartbeats 4000000 in
set_option maxRecDepth 100000 in
theorem bt_s (S M R K : Int) (w : World) (hr : baseB S M R K = true) :
    Calls Tryd.prog 5 #[.agg #[.int .i64 S, .int .i64 M, .int .i64 R, .int .i64 K]] w fun e w' => e = .returned (.string (basT S M R K)) ∧ Below w.heap.size w w' := by
  obtain ⟨sA, sB, sC, sD, t1, t2, t3, t4, t5, HA, HB, HC, HD, e1, e2, e3, e4, e5, e6⟩ := adds hr
  have l1 := Lib.hid (baseB_of hr)
  generalize basT S M R K = t6 at *
  go_enter Tryd.func5, Tryd.ntmps5
  go_wp2_with fail
  refine (okB_s _ _ S M R K _ (by go_simp) (by go_simp) (by go_simp) (by go_simp)).mono ?_
  rintro e w0 ⟨rfl, hb⟩
  have x0 := hb.size
  simp at x0
  have c0 : w0.cell? ⟨w.heap.size, 0, none⟩ = some (.int .i64 S) := by rw [(bcell hb).1 _ _ (by simp <;> omega)]; go_simp
  have c1 : w0.cell? ⟨w.heap.size, 1, none⟩ = some (.int .i64 M) := by rw [(bcell hb).1 _ _ (by simp <;> omega)]; go_simp
  have c2 : w0.cell? ⟨w.heap.size, 2, none⟩ = some (.int .i64 R) := by rw [(bcell hb).1 _ _ (by simp <;> omega)]; go_simp
  have c3 : w0.cell? ⟨w.heap.size, 3, none⟩ = some (.int .i64 K) := by rw [(bcell hb).1 _ _ (by simp <;> omega)]; go_simp
  have B0 : Below w.heap.size w w0 := Below.trans (by go_grown) (hb.mono (by simp <;> omega))
  clear hb
  go_wp2_with fail
  clear hr
  go_region_held3 (fun q => q.cell? ⟨w.heap.size, 0, none⟩ = some (.int .i64 S) ∧ q.cell? ⟨w.heap.size, 1, none⟩ = some (.int .i64 M) ∧ q.cell? ⟨w.heap.size, 2, none⟩ = some (.int .i64 R) ∧ q.cell? ⟨w.heap.size, 3, none⟩ = some (.int .i64 K)) (first | go_keep | exact ⟨p0, p1, p2, p3⟩ | exact ⟨q0, q1, q2, q3⟩ | exact ⟨r0, r1, r2, r3⟩ | exact ⟨u0, u1, u2, u3⟩)
    (first
      | (go_at_call_of 25 (Value.int .i64 S); refine (dec_st S sA (by have := l1.out; omega) (by have := l1.out; omega) HA.out _).mono ?_; rintro e w1 ⟨rfl, b1⟩
         have x1 := b1.size
         simp at x1
         have p0 : w1.cell? ⟨w.heap.size, 0, none⟩ = some (.int .i64 S) := by rw [(bcell b1).1 _ _ (by simp <;> omega)]; go_simp
         have p1 : w1.cell? ⟨w.heap.size, 1, none⟩ = some (.int .i64 M) := by rw [(bcell b1).1 _ _ (by simp <;> omega)]; go_simp
         have p2 : w1.cell? ⟨w.heap.size, 2, none⟩ = some (.int .i64 R) := by rw [(bcell b1).1 _ _ (by simp <;> omega)]; go_simp
         have p3 : w1.cell? ⟨w.heap.size, 3, none⟩ = some (.int .i64 K) := by rw [(bcell b1).1 _ _ (by simp <;> omega)]; go_simp
         have B1 : Below w.heap.size w w1 := B0.drew.trans (b1.mono (by simp <;> omega))
         clear b1)
      | (go_at_call_of 25 (Value.int .i64 M); refine (dec_st M sB (by have := l1.out; omega) (by have := l1.out; omega) HB.out _).mono ?_; rintro e w2 ⟨rfl, b2⟩
         have x2 := b2.size
         have q0 : w2.cell? ⟨w.heap.size, 0, none⟩ = some (.int .i64 S) := by rw [(bcell b2).1 _ _ (by omega)]; exact p0
         have q1 : w2.cell? ⟨w.heap.size, 1, none⟩ = some (.int .i64 M) := by rw [(bcell b2).1 _ _ (by omega)]; exact p1
         have q2 : w2.cell? ⟨w.heap.size, 2, none⟩ = some (.int .i64 R) := by rw [(bcell b2).1 _ _ (by omega)]; exact p2
         have q3 : w2.cell? ⟨w.heap.size, 3, none⟩ = some (.int .i64 K) := by rw [(bcell b2).1 _ _ (by omega)]; exact p3
         have B2 : Below w.heap.size w w2 := B1.trans (b2.mono (by omega))
         clear b2)
      | (go_at_call_of 25 (Value.int .i64 R); refine (dec_st R sC (by have := l1.out; omega) (by have := l1.out; omega) HC.out _).mono ?_; rintro e w3 ⟨rfl, b3⟩
         have x3 := b3.size
         have r0 : w3.cell? ⟨w.heap.size, 0, none⟩ = some (.int .i64 S) := by rw [(bcell b3).1 _ _ (by omega)]; exact q0
         have r1 : w3.cell? ⟨w.heap.size, 1, none⟩ = some (.int .i64 M) := by rw [(bcell b3).1 _ _ (by omega)]; exact q1
         have r2 : w3.cell? ⟨w.heap.size, 2, none⟩ = some (.int .i64 R) := by rw [(bcell b3).1 _ _ (by omega)]; exact q2
         have r3 : w3.cell? ⟨w.heap.size, 3, none⟩ = some (.int .i64 K) := by rw [(bcell b3).1 _ _ (by omega)]; exact q3
         have B3 : Below w.heap.size w w3 := B2.trans (b3.mono (by omega))
         clear b3)
      | (go_at_call_of 25 (Value.int .i64 K); refine (dec_st K sD (by have := l1.out; omega) (by have := l1.out; omega) HD.out _).mono ?_; rintro e w4 ⟨rfl, b4⟩
         have x4 := b4.size
         have u0 : w4.cell? ⟨w.heap.size, 0, none⟩ = some (.int .i64 S) := by rw [(bcell b4).1 _ _ (by omega)]; exact r0
         have u1 : w4.cell? ⟨w.heap.size, 1, none⟩ = some (.int .i64 M) := by rw [(bcell b4).1 _ _ (by omega)]; exact r1
         have u2 : w4.cell? ⟨w.heap.size, 2, none⟩ = some (.int .i64 R) := by rw [(bcell b4).1 _ _ (by omega)]; exact r2
         have u3 : w4.cell? ⟨w.heap.size, 3, none⟩ = some (.int .i64 K) := by rw [(bcell b4).1 _ _ (by omega)]; exact r3
         have B4 : Below w.heap.size w w4 := B3.trans (b4.mono (by omega))
         clear b4))
  go_wp2
  go_ret
  exact ⟨rfl, B4⟩

set_option maxHeartbeats 1000000 in
theorem bt_i_no (S M R K : Int) (w : World) (hr : baseB S M R K = false) :
    Calls Tryd.prog 7 #[.agg #[.int .i64 S, .int .i64 M, .int .i64 R, .int .i64 K]] w fun e w' => e = .returned (.string ⟨#[]⟩) ∧ Below w.heap.size w w' := by
  go_enter Tryd.func7, Tryd.ntmps7
  go_wp2_with fail
  refine (valid_i S M R K _).mono ?_
  rintro e w0 ⟨rfl, hb⟩
  have B0 : Below w.heap.size w w0 := Below.trans (by go_grown) (hb.mono (by simp <;> omega))
  go_wp2
  go_ret
  exact ⟨rfl, B0⟩
set_option maxHeartbeats 4000000 in
set_option maxRecDepth 100000 in
theorem bt_i (S M R K : Int) (w : World) (hr : baseB S M R K = true) (ht : Tab w) :
    Calls Tryd.prog 7 #[.agg #[.int .i64 S, .int .i64 M, .int .i64 R, .int .i64 K]] w fun e w' => e = .returned (.string (basT S M R K)) ∧ Below w.heap.size w w' := by
  obtain ⟨sA, sB, sC, sD, t1, t2, t3, t4, t5, HA, HB, HC, HD, e1, e2, e3, e4, e5, e6⟩ := adds hr
  have l1 := Lib.hid (baseB_of hr)
  have HT := Lib.hid ht
  clear ht
  generalize basT S M R K = t6 at *
  go_enter Tryd.func7, Tryd.ntmps7
  go_wp2_with fail
  refine (valid_i S M R K _).mono ?_
  rintro e w0 ⟨rfl, hb⟩
  have x0 := hb.size
  simp at x0
  have c0 : w0.cell? ⟨w.heap.size, 0, none⟩ = some (.int .i64 S) := by rw [(bcell hb).1 _ _ (by simp <;> omega)]; go_simp
  have c1 : w0.cell? ⟨w.heap.size, 1, none⟩ = some (.int .i64 M) := by rw [(bcell hb).1 _ _ (by simp <;> omega)]; go_simp
  have c2 : w0.cell? ⟨w.heap.size, 2, none⟩ = some (.int .i64 R) := by rw [(bcell hb).1 _ _ (by simp <;> omega)]; go_simp
  have c3 : w0.cell? ⟨w.heap.size, 3, none⟩ = some (.int .i64 K) := by rw [(bcell hb).1 _ _ (by simp <;> omega)]; go_simp
  have B0 : Below w.heap.size w w0 := Below.trans (by go_grown) (hb.mono (by simp <;> omega))
  clear hb
  go_wp2_with fail
  clear hr
  go_region_held3 (fun q => q.cell? ⟨w.heap.size, 0, none⟩ = some (.int .i64 S) ∧ q.cell? ⟨w.heap.size, 1, none⟩ = some (.int .i64 M) ∧ q.cell? ⟨w.heap.size, 2, none⟩ = some (.int .i64 R) ∧ q.cell? ⟨w.heap.size, 3, none⟩ = some (.int .i64 K)) (first | go_keep | exact ⟨p0, p1, p2, p3⟩ | exact ⟨q0, q1, q2, q3⟩ | exact ⟨r0, r1, r2, r3⟩ | exact ⟨u0, u1, u2, u3⟩)
    (first
      | (go_at_call_of 26 (Value.int .i64 S); refine (dec_it S sA (by have := l1.out; omega) (by have := l1.out; omega) HA.out _ (tab_below HT.out B0.drew)).mono ?_; rintro e w1 ⟨rfl, b1⟩
         have x1 := b1.size
         simp at x1
         have p0 : w1.cell? ⟨w.heap.size, 0, none⟩ = some (.int .i64 S) := by rw [(bcell b1).1 _ _ (by simp <;> omega)]; go_simp
         have p1 : w1.cell? ⟨w.heap.size, 1, none⟩ = some (.int .i64 M) := by rw [(bcell b1).1 _ _ (by simp <;> omega)]; go_simp
         have p2 : w1.cell? ⟨w.heap.size, 2, none⟩ = some (.int .i64 R) := by rw [(bcell b1).1 _ _ (by simp <;> omega)]; go_simp
         have p3 : w1.cell? ⟨w.heap.size, 3, none⟩ = some (.int .i64 K) := by rw [(bcell b1).1 _ _ (by simp <;> omega)]; go_simp
         have B1 : Below w.heap.size w w1 := B0.drew.trans (b1.mono (by simp <;> omega))
         clear b1)
      | (go_at_call_of 26 (Value.int .i64 M); refine (dec_it M sB (by have := l1.out; omega) (by have := l1.out; omega) HB.out _ (tab_below HT.out B1)).mono ?_; rintro e w2 ⟨rfl, b2⟩
         have x2 := b2.size
         have q0 : w2.cell? ⟨w.heap.size, 0, none⟩ = some (.int .i64 S) := by rw [(bcell b2).1 _ _ (by omega)]; exact p0
         have q1 : w2.cell? ⟨w.heap.size, 1, none⟩ = some (.int .i64 M) := by rw [(bcell b2).1 _ _ (by omega)]; exact p1
         have q2 : w2.cell? ⟨w.heap.size, 2, none⟩ = some (.int .i64 R) := by rw [(bcell b2).1 _ _ (by omega)]; exact p2
         have q3 : w2.cell? ⟨w.heap.size, 3, none⟩ = some (.int .i64 K) := by rw [(bcell b2).1 _ _ (by omega)]; exact p3
         have B2 : Below w.heap.size w w2 := B1.trans (b2.mono (by omega))
         clear b2)
      | (go_at_call_of 26 (Value.int .i64 R); refine (dec_it R sC (by have := l1.out; omega) (by have := l1.out; omega) HC.out _ (tab_below HT.out B2)).mono ?_; rintro e w3 ⟨rfl, b3⟩
         have x3 := b3.size
         have r0 : w3.cell? ⟨w.heap.size, 0, none⟩ = some (.int .i64 S) := by rw [(bcell b3).1 _ _ (by omega)]; exact q0
         have r1 : w3.cell? ⟨w.heap.size, 1, none⟩ = some (.int .i64 M) := by rw [(bcell b3).1 _ _ (by omega)]; exact q1
         have r2 : w3.cell? ⟨w.heap.size, 2, none⟩ = some (.int .i64 R) := by rw [(bcell b3).1 _ _ (by omega)]; exact q2
         have r3 : w3.cell? ⟨w.heap.size, 3, none⟩ = some (.int .i64 K) := by rw [(bcell b3).1 _ _ (by omega)]; exact q3
         have B3 : Below w.heap.size w w3 := B2.trans (b3.mono (by omega))
         clear b3)
      | (go_at_call_of 26 (Value.int .i64 K); refine (dec_it K sD (by have := l1.out; omega) (by have := l1.out; omega) HD.out _ (tab_below HT.out B3)).mono ?_; rintro e w4 ⟨rfl, b4⟩
         have x4 := b4.size
         have u0 : w4.cell? ⟨w.heap.size, 0, none⟩ = some (.int .i64 S) := by rw [(bcell b4).1 _ _ (by omega)]; exact r0
         have u1 : w4.cell? ⟨w.heap.size, 1, none⟩ = some (.int .i64 M) := by rw [(bcell b4).1 _ _ (by omega)]; exact r1
         have u2 : w4.cell? ⟨w.heap.size, 2, none⟩ = some (.int .i64 R) := by rw [(bcell b4).1 _ _ (by omega)]; exact r2
         have u3 : w4.cell? ⟨w.heap.size, 3, none⟩ = some (.int .i64 K) := by rw [(bcell b4).1 _ _ (by omega)]; exact r3
         have B4 : Below w.heap.size w w4 := B3.trans (b4.mono (by omega))
         clear b4))
  go_wp2
  go_ret
  exact ⟨rfl, B4⟩

end Go.Proofs.YthcpkmdgipepgaaDoor.ba
