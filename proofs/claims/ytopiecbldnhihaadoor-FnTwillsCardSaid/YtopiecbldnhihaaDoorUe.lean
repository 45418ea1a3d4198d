/-
  Pairs of answers on twills, and the law's own words. No condition of a statement lies here.
-/
import Derived.Test.YtopiecbldnhihaaDoorRb
import Derived.Test.YtopiecbldnhihaaDoorQw
import Derived.Test.YtopiecbldnhihaaDoorQu
import Derived.Test.YtopiecbldnhihaaDoorQv
import Derived.Test.YtopiecbldnhihaaDoorQy
import Derived.BigQuiet
import Derived.Deep.RegionHeld3
import Derived.Deep.AppendLies
import Derived.Deep.RegionLaw
namespace Go.Proofs.YtopiecbldnhihaaDoor.twl
open Go.ChangeShapes Go.WideShapes Go.ChangeAt Go.RowKit Go.Deep Go.Proofs.YtopiecbldnhihaaDoor.mem Go.Proofs.YtopiecbldnhihaaDoor.rod Go.Proofs.YtopiecbldnhihaaDoor.nums Go.Proofs.YtopiecbldnhihaaDoor.shp Go.Proofs.YtopiecbldnhihaaDoor.wv Go.Proofs.YtopiecbldnhihaaDoor.wk
set_option linter.unusedVariables false
set_option maxRecDepth 100000

theorem sumN_congr {X Y : Nat → Int} : ∀ {n : Nat}, (∀ j, j < n → X j = Y j) → sumN X n = sumN Y n
  | 0, _ => rfl
  | n + 1, h => by
    show sumN X n + X n = sumN Y n + Y n
    rw [sumN_congr fun j hj => h j (by omega), h n (by omega)]
theorem rowL_congr {X Y : Nat → Int} : ∀ {n : Nat}, (∀ j, j < n → X j = Y j) → rowL X n = rowL Y n
  | 0, _ => rfl
  | n + 1, h => by
    show rowL X n ++ _ = rowL Y n ++ _
    rw [rowL_congr fun j hj => h j (by omega), h n (by omega)]
theorem rowB_congr {X Y : Nat → Int} {n : Nat} (h : ∀ j, j < n → X j = Y j) : rowB X n = rowB Y n := by unfold rowB; rw [rowL_congr h]
theorem Tw.b {n : Nat} {X : Nat → Int} {st : Int} (T : Tw n X st) : twB n X st = true := by
  unfold twB partB
  rw [decide_eq_true (show 0 < n by have := T.n2; omega), decide_eq_true T.even, decide_eq_true T.n12, allIn_of T.part, decide_eq_true T.wide, inB_yes T.st1 T.st2]
  rfl
theorem Tw.congr {n : Nat} {X Y : Nat → Int} {st : Int} (T : Tw n X st) (h : ∀ j, j < n → X j = Y j) : Tw n Y st :=
  ⟨T.n2, T.n12, T.even, fun k hk => by rw [← h k hk]; exact T.part k hk, by rw [← sumN_congr h]; exact T.wide, by rw [← sumN_congr h]; exact T.wide2, T.st1, by rw [← sumN_congr h]; exact T.st2⟩
theorem Tw.over {n : Nat} {X : Nat → Int} {st : Int} (T : Tw n X st) : Tw n (fun j => X (n - 1 - j)) (sumN X n - st) := by
  have h1 := T.st1
  have h2 := T.st2
  exact ⟨T.n2, T.n12, T.even, fun k hk => T.part _ (by omega), by rw [sum_over]; exact T.wide, by rw [sum_over]; exact T.wide2, by omega, by rw [sum_over]; omega⟩
theorem tw_no {n : Nat} {X : Nat → Int} {st : Int} (h : twB n X st = false) : ¬ Tw n X st := fun T => by rw [T.b] at h; cases h
/-- what an answer that is a face tells -/
def FOK (n : Nat) (X : Nat → Int) (st a : Int) (T : Nat → ByteArray) : Prop := ∃ t S : Nat, st = (t : Int) ∧ Tw n X (t : Int) ∧ a = (S : Int) ∧ 1 ≤ S ∧ S ≤ 40 ∧ T = faceT (rowB X n) t S
theorem face_any (n : Nat) (X : Nat → Int) (st a b : Int) (hn : n ≤ maxLen) : ∃ (R : Nat) (T : Nat → ByteArray) (code : Int), R ≤ 40 ∧ (code = 0 → FOK n X st a T) ∧ (∀ (A : Option Addr) (c : Nat) (w : World), Sl w A n 1 X → Calls Tryd.prog 6 #[.agg #[.slice A n c, .int .i64 st], .int .i64 a, .int .i64 b] w (TextsCode w R T code)) ∧ (∀ (A : Option Addr) (c : Nat) (w : World), Sl w A n 1 X → Calls Tryd.prog 7 #[.agg #[.slice A n c, .int .i64 st], .int .i64 a, .int .i64 b] w (TextsCode w R T code)) := by
  cases hv : twB n X st
  · exact ⟨0, fun _ => ByteArray.empty, 1, by omega, fun h => absurd h (by decide), fun A c w h => faceOf_i_no A n c X st a b _ w hn h hv, fun A c w h => faceOf_s_no A n c X st a b _ w hn h hv⟩
  cases ho : (inB a 1 40 && inB b 1 40)
  · exact ⟨0, fun _ => ByteArray.empty, 2, by omega, fun h => absurd h (by decide), fun A c w h => faceOf_i_out A n c X st a b _ w hn h hv ho, fun A c w h => faceOf_s_out A n c X st a b _ w hn h hv ho⟩
  have T := twB_of hv
  have h1 := T.st1
  rw [Bool.and_eq_true] at ho
  have a1 := inB_of ho.1
  have b1 := inB_of ho.2
  obtain ⟨t, rfl⟩ : ∃ t : Nat, st = t := ⟨st.toNat, by omega⟩
  obtain ⟨S, rfl⟩ : ∃ S : Nat, a = S := ⟨a.toNat, by omega⟩
  obtain ⟨R, rfl⟩ : ∃ R : Nat, b = R := ⟨b.toNat, by omega⟩
  exact ⟨R, _, 0, by omega, fun _ => ⟨t, S, rfl, T, rfl, by omega, by omega, rfl⟩, fun A c w h => faceOf_i A n c X t S R w h hv ho.1 ho.2, fun A c w h => faceOf_s A n c X t S R w h hv ho.1 ho.2⟩
theorem repeat_any (n : Nat) (X : Nat → Int) (st : Int) (hn : n ≤ maxLen) : ∃ (p q code : Int), (Tw n X st → ∃ P : Nat, p = (P : Int) ∧ Per (rowB X n) P ∧ q = (P : Int) / gcdI (P : Int) st) ∧ (∀ (A : Option Addr) (c : Nat) (w : World), Sl w A n 1 X → Calls Tryd.prog 8 #[.agg #[.slice A n c, .int .i64 st]] w (fun e w' => e = .returned (.tuple #[.int .i64 p, .int .i64 q, .int .i64 code]) ∧ Below w.heap.size w w')) ∧ (∀ (A : Option Addr) (c : Nat) (w : World), Sl w A n 1 X → Calls Tryd.prog 9 #[.agg #[.slice A n c, .int .i64 st]] w (fun e w' => e = .returned (.tuple #[.int .i64 p, .int .i64 q, .int .i64 code]) ∧ Below w.heap.size w w')) := by
  cases hv : twB n X st
  · exact ⟨0, 0, 1, fun T => absurd T (tw_no hv), fun A c w h => repeat_i_no A n c X st w hn h hv, fun A c w h => repeat_s_no A n c X st w hn h hv⟩
  have T := twB_of hv
  have hz := row_size T
  have h2 := T.wide2
  obtain ⟨P, hP⟩ := Per.ex (s := rowB X n) (by omega)
  exact ⟨P, _, 0, fun _ => ⟨P, rfl, hP, rfl⟩, fun A c w h => repeat_i A n c X st P w h hv hP, fun A c w h => repeat_s A n c X st P w h hv hP⟩
theorem float_any (n : Nat) (X : Nat → Int) (st : Int) (hn : n ≤ maxLen) : ∃ (p q code : Int), (Tw n X st → p = (lrun (byteAt (rowB X n)) (rowB X n).size : Nat)) ∧ (∀ (A : Option Addr) (c : Nat) (w : World), Sl w A n 1 X → Calls Tryd.prog 13 #[.agg #[.slice A n c, .int .i64 st]] w (fun e w' => e = .returned (.tuple #[.int .i64 p, .int .i64 q, .int .i64 code]) ∧ Below w.heap.size w w')) ∧ (∀ (A : Option Addr) (c : Nat) (w : World), Sl w A n 1 X → Calls Tryd.prog 14 #[.agg #[.slice A n c, .int .i64 st]] w (fun e w' => e = .returned (.tuple #[.int .i64 p, .int .i64 q, .int .i64 code]) ∧ Below w.heap.size w w')) := by
  cases hv : twB n X st
  · exact ⟨0, 0, 1, fun T => absurd T (tw_no hv), fun A c w h => floatsOf_i_no A n c X st w hn h hv, fun A c w h => floatsOf_s_no A n c X st w hn h hv⟩
  have T := twB_of hv
  have h1 := T.st1
  obtain ⟨t, rfl⟩ : ∃ t : Nat, st = t := ⟨st.toNat, by omega⟩
  exact ⟨_, _, 0, fun _ => rfl, fun A c w h => floatsOf_i A n c X t w h hv, fun A c w h => floatsOf_s A n c X t w h hv⟩
theorem back_any (n : Nat) (X : Nat → Int) (st : Int) (hn : n ≤ maxLen) : ∃ (l : List Int) (su code : Int), l.length ≤ 12 ∧ (code = 0 → Tw n X st ∧ l = overL X n ∧ su = sumN X n - st) ∧ (∀ (A : Option Addr) (c : Nat) (w : World), Sl w A n 1 X → Calls Tryd.prog 11 #[.agg #[.slice A n c, .int .i64 st]] w (fun e w' => ∃ A' c', e = .returned (.tuple #[.agg #[.slice A' l.length c', .int .i64 su], .int .i64 code]) ∧ l.length ≤ c' ∧ c' ≤ maxLen ∧ Row w' w.heap.size w'.heap.size A' l.length 1 2 (fun j => l.getD j 0) ∧ Below w.heap.size w w')) ∧ (∀ (A : Option Addr) (c : Nat) (w : World), Sl w A n 1 X → Calls Tryd.prog 12 #[.agg #[.slice A n c, .int .i64 st]] w (fun e w' => ∃ A' c', e = .returned (.tuple #[.agg #[.slice A' l.length c', .int .i64 su], .int .i64 code]) ∧ l.length ≤ c' ∧ c' ≤ maxLen ∧ Row w' w.heap.size w'.heap.size A' l.length 1 2 (fun j => l.getD j 0) ∧ Below w.heap.size w w')) := by
  cases hv : twB n X st
  · exact ⟨[], 0, 1, by simp, fun h => absurd h (by decide), fun A c w h => back_i_no A n c X st w hn h hv, fun A c w h => back_s_no A n c X st w hn h hv⟩
  have T := twB_of hv
  exact ⟨overL X n, _, 0, by rw [overL_len]; exact T.n12, fun _ => ⟨T, rfl, rfl⟩, fun A c w h => back_i A n c X st w h hv, fun A c w h => back_s A n c X st w h hv⟩
theorem text_any (n : Nat) (X : Nat → Int) (st : Int) (hn : n ≤ maxLen) : ∃ (T : ByteArray), (∀ (A : Option Addr) (c : Nat) (w : World), Sl w A n 1 X → dec.Tab w → Calls Tryd.prog 21 #[.agg #[.slice A n c, .int .i64 st]] w fun e w' => e = .returned (.string T) ∧ Below w.heap.size w w') ∧ (∀ (A : Option Addr) (c : Nat) (w : World), Sl w A n 1 X → Calls Tryd.prog 22 #[.agg #[.slice A n c, .int .i64 st]] w fun e w' => e = .returned (.string T) ∧ Below w.heap.size w w') := by
  cases hv : twB n X st
  · exact ⟨⟨#[]⟩, fun A c w h _ => twt.tt_i_no A n c X st w hn h hv, fun A c w h => twt.tt_s_no A n c X st w hn h hv⟩
  · exact ⟨_, fun A c w h ht => twt.tt_i A n c X st w h hv ht, fun A c w h => twt.tt_s A n c X st w h hv⟩
/-- the back of a back has the face of the front -/
theorem again_face {n m : Nat} {X Z : Nat → Int} {st su : Int} (T : Tw n X st) {l : List Int} (hl : l = overL X n) (hs : su = sumN X n - st) (hm : m = l.length) (hZ : ∀ j, j < m → Z j = l.getD j 0) :
    Tw m Z su ∧ overL Z m = (List.range n).map X ∧ sumN Z m - su = st := by
  subst hl
  rw [overL_len] at hm
  subst hm
  have e : ∀ j, j < m → Z j = X (m - 1 - j) := fun j hj => by rw [hZ j hj, overL_at hj]
  refine ⟨T.over.congr (fun j hj => (e j hj).symm) |> (hs ▸ ·), ?_, ?_⟩
  · unfold overL
    apply List.map_congr_left
    intro j hj
    rw [List.mem_range] at hj
    rw [e _ (by omega), show m - 1 - (m - 1 - j) = j by omega]
  · rw [sumN_congr e, sum_over, hs]; omega

theorem bigT_c (A : Option Addr) (n c : Nat) (w : World) (hn : n ≤ 4096) :
    Calls Tryd.prog 4 #[.slice A n c] w fun e w' => e = .returned (.bool false) ∧ w' = w := by
  have h : ¬ (4096 : Int) < (n : Int) := by omega
  go_enter Tryd.func4, Tryd.ntmps4
  go_wp2
  go_ret
  exact ⟨rfl, rfl⟩
theorem bigT_no (A : Option Addr) (n c : Nat) (w : World) (hn : 4096 < n) :
    Calls Tryd.prog 4 #[.slice A n c] w fun e w' => e = .returned (.bool true) ∧ w' = w := by
  have h : (4096 : Int) < (n : Int) := by omega
  go_enter Tryd.func4, Tryd.ntmps4
  go_wp2
  go_ret
  exact ⟨rfl, rfl⟩
set_option maxHeartbeats 2000000 in
theorem textsT_c (A1 A2 : Option Addr) (n c1 c2 : Nat) (T : Nat → ByteArray) (w : World) (hn : n ≤ maxLen) (h1 : split.SlS w A1 n T) (h2 : split.SlS w A2 n T) :
    Calls Tryd.prog 16 #[.slice A1 n c1, .slice A2 n c2] w fun e w' => e = .returned (.bool true) ∧ ∃ m, w' = w.drewN m := by
  unfold maxLen at hn
  have H1 := Lib.hid h1
  have H2 := Lib.hid h2
  clear h1 h2
  go_enter Tryd.func16, Tryd.ntmps16
  go_wp2_with fail
  go_loopw [5] (fun s wr => ∃ k m : Nat, k ≤ n ∧ s = .int .i64 k ∧ wr = w.drewN m) (fun s _ => n - (intOf s).toNat)
  case atStart => exact ⟨0, 0, by omega, rfl, rfl⟩
  case round =>
    obtain ⟨k, m, hk, rfl, rfl⟩ := hrel
    by_cases hlt : k < n
    · have hlt' : (k : Int) < (n : Int) := by omega
      have hk0 : (0 : Int) ≤ (k : Int) := by omega
      obtain ⟨g1, rfl, _, hX⟩ := H1.out (by omega)
      obtain ⟨g2, rfl, _, hY⟩ := H2.out (by omega)
      have p0 := hX k (by omega)
      have p1 := hY k (by omega)
      clear hX hY H1 H2
      generalize T k = R at *
      have e1 : (R.toList == R.toList) = true := by simp
      have e2 : (R.toList != R.toList) = false := by simp
      go_wp2_with fail
      go_quiet (fail)
      go_wp2
      go_roundw
      case rel => exact ⟨k + 1, _, by omega, by go_num, rfl⟩
      case measure => simp [intOf]; omega
    · obtain rfl : k = n := by omega
      go_wp2
      go_ret
      exact ⟨rfl, m, rfl⟩

end Go.Proofs.YtopiecbldnhihaaDoor.twl
