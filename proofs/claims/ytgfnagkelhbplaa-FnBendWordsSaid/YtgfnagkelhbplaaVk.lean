/-
  What the laws on borders draw: words and stakes. No condition of a statement lies here.
-/
import Derived.Test.YtgfnagkelhbplaaKeptB
namespace Go.Proofs.Ytgfnagkelhbplaa.brd
open Go.ChangeShapes Go.WideShapes Go.ChangeAt Go.RowKit Go.Proofs.Ytgfnagkelhbplaa.mem Go.Proofs.Ytgfnagkelhbplaa.rod Go.Proofs.Ytgfnagkelhbplaa.src
set_option linter.unusedVariables false
set_option maxRecDepth 100000

/-- the answer is one of some texts, and the source lies on -/
def DrawnT (w : World) (b : Nat) (A : Option Addr) (n c : Nat) (K : Int) (l : Nat) (Z : Nat → ByteArray) (e : Ending) (w' : World) : Prop :=
  ∃ j : Nat, j < l ∧ e = .returned (.string (Z j)) ∧ Src w' b A n c K ∧ WroteIn w w' b (b + 1)
set_option maxHeartbeats 1000000 in
theorem text_c (b : Nat) (A : Option Addr) (n c : Nat) (X : Nat → Int) (K : Int) (g l d : Nat) (Z : Nat → ByteArray) (w : World) (hn : n ≤ 4096) (hK : K ≤ 900000000) (hA : 0 < n → ∀ x o, A = some ⟨x, o, none⟩ → x < b) (hs : Src w b A n c K) (hx : Sb w A n X) (l1 : 1 ≤ l) (l2 : l ≤ 10) (hg : b ≠ g) (hgl : g < w.heap.size) (hz : ∀ j, j < l → w.cell? ⟨g, j, none⟩ = some (.string (Z j))) :
    Calls Try.prog 97 #[.pointer (some ⟨b, 0, none⟩), .slice (some ⟨g, 0, none⟩) l d] w (DrawnT w b A n c (K + 2) l Z) := by
  have HP := Lib.hid (pick_c b A n c X K l ((l : Int) - 1) w hn hK (by omega) (by omega) hA hs hx)
  have HZ := Lib.hid hz
  clear hs hx hA hz
  go_enter Try.func97, Try.ntmps97
  go_wp2_with fail
  refine HP.out.mono ?_
  rintro e w1 ⟨v, rfl, v0, v1, s1, hw1⟩
  obtain ⟨j, rfl⟩ : ∃ j : Nat, v = j := ⟨v.toNat, by omega⟩
  have hjl : j < l := by omega
  have hji : (j : Int) < (l : Int) := by omega
  have z0 : w1.cell? ⟨g, j, none⟩ = some (.string (Z j)) := by
    rw [← HZ.out j hjl]
    unfold World.cell?
    rw [hw1.block g hgl (by omega)]
  have S1 := Lib.hid s1
  clear s1
  go_wp2
  go_ret
  exact ⟨j, hjl, rfl, S1.out, hw1⟩

theorem ints_4 (a b c d : Int) (W : World) (E : TypeId) : Ints (W.alloc (.cells #[.int .i64 a, .int .i64 b, .int .i64 c, .int .i64 d] E)) W.heap.size 0 4 (fun q => ([a, b, c, d] : List Int).getD q 0) := by
  intro q hq
  rcases q with _ | _ | _ | _ | q
  · go_simp
  · go_simp
  · go_simp
  · go_simp
  · omega
theorem ints_5 (a b c d f : Int) (W : World) (E : TypeId) : Ints (W.alloc (.cells #[.int .i64 a, .int .i64 b, .int .i64 c, .int .i64 d, .int .i64 f] E)) W.heap.size 0 5 (fun q => ([a, b, c, d, f] : List Int).getD q 0) := by
  intro q hq
  rcases q with _ | _ | _ | _ | _ | q
  · go_simp
  · go_simp
  · go_simp
  · go_simp
  · go_simp
  · omega
theorem ints_6 (a b c d f h : Int) (W : World) (E : TypeId) : Ints (W.alloc (.cells #[.int .i64 a, .int .i64 b, .int .i64 c, .int .i64 d, .int .i64 f, .int .i64 h] E)) W.heap.size 0 6 (fun q => ([a, b, c, d, f, h] : List Int).getD q 0) := by
  intro q hq
  rcases q with _ | _ | _ | _ | _ | _ | q
  · go_simp
  · go_simp
  · go_simp
  · go_simp
  · go_simp
  · go_simp
  · omega
theorem ints_7 (a b c d f h i : Int) (W : World) (E : TypeId) : Ints (W.alloc (.cells #[.int .i64 a, .int .i64 b, .int .i64 c, .int .i64 d, .int .i64 f, .int .i64 h, .int .i64 i] E)) W.heap.size 0 7 (fun q => ([a, b, c, d, f, h, i] : List Int).getD q 0) := by
  intro q hq
  rcases q with _ | _ | _ | _ | _ | _ | _ | q
  · go_simp
  · go_simp
  · go_simp
  · go_simp
  · go_simp
  · go_simp
  · go_simp
  · omega
theorem txts_2 (a b : ByteArray) (W : World) (E : TypeId) : ∀ j, j < 2 → (W.alloc (.cells #[.string a, .string b] E)).cell? ⟨W.heap.size, j, none⟩ = some (.string (([a, b] : List ByteArray).getD j ByteArray.empty)) := by
  intro q hq
  rcases q with _ | _ | q
  · first | (go_simp; done) | (go_simp; rfl)
  · first | (go_simp; done) | (go_simp; rfl)
  · omega
theorem txts_3 (a b c : ByteArray) (W : World) (E : TypeId) : ∀ j, j < 3 → (W.alloc (.cells #[.string a, .string b, .string c] E)).cell? ⟨W.heap.size, j, none⟩ = some (.string (([a, b, c] : List ByteArray).getD j ByteArray.empty)) := by
  intro q hq
  rcases q with _ | _ | _ | q
  · first | (go_simp; done) | (go_simp; rfl)
  · first | (go_simp; done) | (go_simp; rfl)
  · first | (go_simp; done) | (go_simp; rfl)
  · omega
theorem txts_6 (a b c d f h : ByteArray) (W : World) (E : TypeId) : ∀ j, j < 6 → (W.alloc (.cells #[.string a, .string b, .string c, .string d, .string f, .string h] E)).cell? ⟨W.heap.size, j, none⟩ = some (.string (([a, b, c, d, f, h] : List ByteArray).getD j ByteArray.empty)) := by
  intro q hq
  rcases q with _ | _ | _ | _ | _ | _ | q
  · first | (go_simp; done) | (go_simp; rfl)
  · first | (go_simp; done) | (go_simp; rfl)
  · first | (go_simp; done) | (go_simp; rfl)
  · first | (go_simp; done) | (go_simp; rfl)
  · first | (go_simp; done) | (go_simp; rfl)
  · first | (go_simp; done) | (go_simp; rfl)
  · omega

set_option maxHeartbeats 4000000 in
theorem draw_c (b : Nat) (A : Option Addr) (n c : Nat) (X : Nat → Int) (K : Int) (w : World) (hn : n ≤ 4096) (hK : K ≤ 650000000) (hA : 0 < n → ∀ x o, A = some ⟨x, o, none⟩ → x < b) (hs : Src w b A n c K) (hx : Sb w A n X) :
    Calls Try.prog 98 #[.pointer (some ⟨b, 0, none⟩)] w fun e w' => ∃ T, e = .returned (.string T) ∧ Hid (T.size ≤ 9) ∧ Hid (Src w' b A n c (K + 14)) ∧ Kept w.heap.size b w w' := by
  have HX := Lib.hid hx
  have HA := Lib.hid hA
  have hlt := hs.lt
  have HS0 := Lib.hid (pick_c b A n c X K 6 5 w hn (by omega) (by omega) (by omega) hA hs hx)
  clear hs hx hA
  go_enter Try.func98, Try.ntmps98
  go_wp2_with fail
  refine HS0.out.mono ?_
  rintro e w1 ⟨v, rfl, v0, v1, s1, hw1⟩
  have K1 := Lib.hid ((Kept.refl w.heap.size b w).wrote hw1 (Nat.le_refl _))
  have X1 := Lib.hid (HX.out.wrote hw1 HA.out (Nat.le_refl _))
  have S1 := Lib.hid s1
  obtain ⟨N, hN⟩ : ∃ N : Nat, v = N := ⟨v.toNat, by omega⟩
  subst hN
  have hN5 : N ≤ 5 := by omega
  clear s1 HS0 hw1 v0 v1
  go_wp2_with fail
  go_loopw [3, 4] (fun u t wr => ∃ (j : Nat) (S : ByteArray), j ≤ N + 1 ∧ u = .string S ∧ t = .int .i64 ((1 + N : Int) - j) ∧ Hid (S.size = j) ∧ Hid (Src wr b A n c (K + 2 + 2 * j)) ∧ Hid (Sb wr A n X) ∧ Kept w.heap.size b w wr) (fun _ t _ => (intOf t).toNat)
  case atStart => exact ⟨0, ByteArray.empty, by omega, rfl, by first | (congr 1; done) | (congr 1; omega), Lib.hid rfl, Lib.hid (S1.out.mono (by omega)), X1, K1.out⟩
  case round =>
    obtain ⟨j, S, hj, rfl, rfl, HZ, HSr, HXr, hk⟩ := hrel
    have HK := Lib.hid hk
    have zr := hk.size
    clear hk K1 X1 S1
    by_cases hlt2 : j < N + 1
    · have hlt' : (0 : Int) < (1 + N : Int) - j := by omega
      go_wp2_with fail
      have q3 := Lib.hid (HSr.out.below ((Below.refl _ wr).alloc (Nat.le_refl _) (Obj.cells #[Value.string { data := #[98] }, Value.string { data := #[102] }] 9)) HSr.out.lt)
      have y3 := Lib.hid (HXr.out.below ((Below.refl _ wr).alloc (Nat.le_refl _) (Obj.cells #[Value.string { data := #[98] }, Value.string { data := #[102] }] 9)) (Nat.le_refl _))
      refine (text_c b A n c X (K + 2 + 2 * j) wr.heap.size 2 2 (fun j => ([⟨#[98]⟩, ⟨#[102]⟩] : List ByteArray).getD j ByteArray.empty) _ hn (by omega) HA.out q3.out y3.out (by omega) (by omega) (by omega) (by simp) (txts_2 _ _ _ _)).mono ?_
      rintro e w3 ⟨i, hi, he, s3, hw3⟩
      have K3 := Lib.hid ((HK.out.alloc (Nat.le_refl _) (Obj.cells #[Value.string { data := #[98] }, Value.string { data := #[102] }] 9)).wrote hw3 (Nat.le_refl _))
      have X3 := Lib.hid (HX.out.kept K3.out HA.out (by omega))
      have S3 := Lib.hid (s3.mono (show K + 2 + 2 * (j : Int) + 2 ≤ K + 2 + 2 * ((j + 1 : Nat) : Int) by omega))
      obtain ⟨B, hk, hB⟩ : ∃ B : ByteArray, e = .returned (.string B) ∧ B.size = 1 := ⟨_, he, by
        rcases i with _ | _ | i
        · decide
        · decide
        · omega⟩
      clear he
      subst hk
      have HB := Lib.hid (show (S ++ B).size = j + 1 by rw [ByteArray.size_append, hB, HZ.out])
      have hcs : S.size ≤ 6 := by rw [HZ.out]; omega
      clear s3 hw3
      go_wp2
      go_roundw
      case rel => exact ⟨j + 1, S ++ B, by omega, rfl, by congr 1; omega, HB, S3, X3, K3.out⟩
      case measure => first | (simp [intOf]; done) | (simp [intOf]; omega)
    · obtain rfl : j = N + 1 := by omega
      have hnlt : ¬ (0 : Int) < (1 + N : Int) - ((N + 1 : Nat) : Int) := by omega
      have HB := Lib.hid (show S.size ≤ 9 by rw [HZ.out]; omega)
      have S3 := Lib.hid (HSr.out.mono (show K + 2 + 2 * ((N + 1 : Nat) : Int) ≤ K + 14 by omega))
      go_wp2
      go_ret
      exact ⟨S, rfl, HB, S3, HK.out⟩

set_option maxHeartbeats 4000000 in
theorem bent_c (b : Nat) (A : Option Addr) (n c : Nat) (X : Nat → Int) (K : Int) (w : World) (hn : n ≤ 4096) (hK : K ≤ 600000000) (hA : 0 < n → ∀ x o, A = some ⟨x, o, none⟩ → x < b) (hs : Src w b A n c K) (hx : Sb w A n X) :
    Calls Try.prog 83 #[.pointer (some ⟨b, 0, none⟩)] w fun e w' => ∃ T, e = .returned (.string T) ∧ Hid (T.size ≤ 9) ∧ Hid (Src w' b A n c (K + 16)) ∧ Kept w.heap.size b w w' := by
  have HX := Lib.hid hx
  have HA := Lib.hid hA
  have hlt := hs.lt
  have HS0 := Lib.hid (pick_c b A n c X K 14 13 w hn (by omega) (by omega) (by omega) hA hs hx)
  clear hs hx hA
  go_enter Try.func83, Try.ntmps83
  go_wp2_with fail
  refine HS0.out.mono ?_
  rintro e w2 ⟨v, rfl, v0, v1, s1, hw1⟩
  have K2 := Lib.hid ((Kept.refl w.heap.size b w).wrote hw1 (Nat.le_refl _))
  have X2 := Lib.hid (HX.out.wrote hw1 HA.out (Nat.le_refl _))
  have S2 := Lib.hid s1
  have z2 := hw1.size
  clear s1 HS0 hw1
  by_cases hv0 : v = 0
  · subst hv0
    go_wp2_with fail
    have q3 := Lib.hid (S2.out.below ((Below.refl _ w2).alloc (Nat.le_refl _) (Obj.cells #[Value.string { data := #[] }, Value.string { data := #[66] }, Value.string { data := #[98, 32, 102] }, Value.string { data := #[98, 102, 98, 102, 98, 102, 98, 102] }, Value.string { data := #[98, 102, 98, 102, 98, 102, 98, 102, 98] }, Value.string { data := #[98, 120] }] 9)) S2.out.lt)
    have y3 := Lib.hid (X2.out.below ((Below.refl _ w2).alloc (Nat.le_refl _) (Obj.cells #[Value.string { data := #[] }, Value.string { data := #[66] }, Value.string { data := #[98, 32, 102] }, Value.string { data := #[98, 102, 98, 102, 98, 102, 98, 102] }, Value.string { data := #[98, 102, 98, 102, 98, 102, 98, 102, 98] }, Value.string { data := #[98, 120] }] 9)) (Nat.le_refl _))
    refine (text_c b A n c X (K + 2) w2.heap.size 6 6 (fun j => ([⟨#[]⟩, ⟨#[66]⟩, ⟨#[98, 32, 102]⟩, ⟨#[98, 102, 98, 102, 98, 102, 98, 102]⟩, ⟨#[98, 102, 98, 102, 98, 102, 98, 102, 98]⟩, ⟨#[98, 120]⟩] : List ByteArray).getD j ByteArray.empty) _ hn (by omega) HA.out q3.out y3.out (by omega) (by omega) (by omega) (by simp) (txts_6 _ _ _ _ _ _ _ _)).mono ?_
    rintro e w3 ⟨j, hj, he, s3, hw3⟩
    have K3 := Lib.hid ((K2.out.alloc (Nat.le_refl _) (Obj.cells #[Value.string { data := #[] }, Value.string { data := #[66] }, Value.string { data := #[98, 32, 102] }, Value.string { data := #[98, 102, 98, 102, 98, 102, 98, 102] }, Value.string { data := #[98, 102, 98, 102, 98, 102, 98, 102, 98] }, Value.string { data := #[98, 120] }] 9)).wrote hw3 (Nat.le_refl _))
    have S3 := Lib.hid (s3.mono (show (K + 2) + 2 ≤ K + 16 by omega))
    obtain ⟨B, hk, hB⟩ : ∃ B : ByteArray, e = .returned (.string B) ∧ B.size ≤ 9 := ⟨_, he, by
      rcases j with _ | _ | _ | _ | _ | _ | j
      · decide
      · decide
      · decide
      · decide
      · decide
      · decide
      · omega⟩
    clear he
    subst hk
    clear s3 hw3
    go_wp2
    go_ret
    exact ⟨B, rfl, Lib.hid hB, S3, K3.out⟩
  have hv0' : (v == 0) = false := by simp [hv0]
  by_cases hv1 : v = 1
  · subst hv1
    go_wp2_with fail
    have q3 := Lib.hid (S2.out.below ((Below.refl _ w2).alloc (Nat.le_refl _) (Obj.cells #[Value.string { data := #[102] }, Value.string { data := #[102, 102] }, Value.string { data := #[102, 102, 102] }] 9)) S2.out.lt)
    have y3 := Lib.hid (X2.out.below ((Below.refl _ w2).alloc (Nat.le_refl _) (Obj.cells #[Value.string { data := #[102] }, Value.string { data := #[102, 102] }, Value.string { data := #[102, 102, 102] }] 9)) (Nat.le_refl _))
    refine (text_c b A n c X (K + 2) w2.heap.size 3 3 (fun j => ([⟨#[102]⟩, ⟨#[102, 102]⟩, ⟨#[102, 102, 102]⟩] : List ByteArray).getD j ByteArray.empty) _ hn (by omega) HA.out q3.out y3.out (by omega) (by omega) (by omega) (by simp) (txts_3 _ _ _ _ _)).mono ?_
    rintro e w3 ⟨j, hj, he, s3, hw3⟩
    have K3 := Lib.hid ((K2.out.alloc (Nat.le_refl _) (Obj.cells #[Value.string { data := #[102] }, Value.string { data := #[102, 102] }, Value.string { data := #[102, 102, 102] }] 9)).wrote hw3 (Nat.le_refl _))
    have S3 := Lib.hid (s3.mono (show (K + 2) + 2 ≤ K + 16 by omega))
    obtain ⟨B, hk, hB⟩ : ∃ B : ByteArray, e = .returned (.string B) ∧ B.size ≤ 9 := ⟨_, he, by
      rcases j with _ | _ | _ | j
      · decide
      · decide
      · decide
      · omega⟩
    clear he
    subst hk
    clear s3 hw3
    go_wp2
    go_ret
    exact ⟨B, rfl, Lib.hid hB, S3, K3.out⟩
  have hv1' : (v == 1) = false := by simp [hv1]
  go_wp2_with fail
  refine (draw_c b A n c X (K + 2) _ hn (by omega) HA.out S2.out X2.out).mono ?_
  rintro e w3 ⟨T, rfl, hT, s3, k3⟩
  have K3 := Lib.hid (K2.out.trans (k3.mono z2))
  have S3 := Lib.hid (s3.out.mono (show K + 2 + 14 ≤ K + 16 by omega))
  clear s3 k3
  go_wp2
  go_ret
  exact ⟨T, rfl, hT, S3, K3.out⟩

/-- a number that fits -/
def Fit (v : Int) : Prop := -9223372036854775808 ≤ v ∧ v ≤ 41
set_option maxHeartbeats 4000000 in
theorem stk_c (b : Nat) (A : Option Addr) (n c : Nat) (X : Nat → Int) (K : Int) (w : World) (hn : n ≤ 4096) (hK : K ≤ 600000000) (hA : 0 < n → ∀ x o, A = some ⟨x, o, none⟩ → x < b) (hs : Src w b A n c K) (hx : Sb w A n X) (T : ByteArray) (hT : T.size ≤ 9) :
    Calls Try.prog 84 #[.pointer (some ⟨b, 0, none⟩), .string T] w fun e w' => ∃ v, e = .returned (.int .i64 v) ∧ Hid (Fit v) ∧ Hid (Src w' b A n c (K + 4)) ∧ Kept w.heap.size b w w' := by
  have HX := Lib.hid hx
  have HA := Lib.hid hA
  have hlt := hs.lt
  have hT' : ((T.size : Nat) : Int) ≤ 9 := by omega
  have HS0 := Lib.hid (one_c b A n c X K 8 7 w hn (by omega) (by omega) (by omega) hA hs hx)
  clear hs hx hA
  go_enter Try.func84, Try.ntmps84
  go_wp2_with fail
  refine HS0.out.mono ?_
  rintro e w2 ⟨v, rfl, s1, hw1⟩
  have K2 := Lib.hid ((Kept.refl w.heap.size b w).wrote hw1 (Nat.le_refl _))
  have X2 := Lib.hid (HX.out.wrote hw1 HA.out (Nat.le_refl _))
  have S2 := Lib.hid s1
  have z2 := hw1.size
  clear s1 HS0 hw1
  cases v
  · go_wp2_with fail
    refine (pick_c b A n c X (K + 2) 20 19 _ hn (by omega) (by omega) (by omega) HA.out S2.out X2.out).mono ?_
    rintro e w3 ⟨v, rfl, v0, v1, s3, hw3⟩
    have K3 := Lib.hid (K2.out.wrote hw3 (Nat.le_refl _))
    have S3 := Lib.hid (s3.mono (show K + 2 + 2 ≤ K + 4 by omega))
    clear s3 hw3
    go_wp2
    go_ret
    exact ⟨_, rfl, Lib.hid (by unfold Fit; constructor <;> omega), S3, K3.out⟩
  · go_wp2_with fail
    refine (among_c b A n c X (K + 2) w2.heap.size 7 7 (fun q => ([-1, 0, (T.size : Int) + 1, (T.size : Int) + 2, 40, 41, -9223372036854775808] : List Int).getD q 0) _ hn (by omega) HA.out (S2.out.of_block (Go.Deep.blk_alloc_lt _ _ _ S2.out.lt) (by simp)) (X2.out.below (K := w2.heap.size) (by go_grown) (Nat.le_refl _)) (by omega) (by omega) (by omega) (by simp) (ints_7 _ _ _ _ _ _ _ _ _)).mono ?_
    rintro e w3 ⟨j, hj, he, s3, hw3⟩
    have K3 := Lib.hid ((K2.out.alloc (Nat.le_refl _) _).wrote hw3 (Nat.le_refl _))
    have S3 := Lib.hid (s3.mono (show K + 2 + 2 ≤ K + 4 by omega))
    obtain ⟨k, hk, hkb⟩ : ∃ k : Int, e = .returned (.int .i64 k) ∧ Fit k := ⟨_, he, by
      unfold Fit
      rcases j with _ | _ | _ | _ | _ | _ | _ | j
      · simp
      · simp
      · simp; omega
      · simp; omega
      · simp
      · simp
      · simp
      · omega⟩
    clear he
    subst hk
    clear s3 hw3
    go_wp2
    go_ret
    exact ⟨k, rfl, Lib.hid hkb, S3, K3.out⟩

end Go.Proofs.Ytgfnagkelhbplaa.brd
