/-
  Turning a text to its first place; the runs of a row, and a row turned over: mathematics, and the model's contract. No condition of a statement lies here.
-/
import Derived.Test.YtopiecbldnhihaaDoorQj
import Derived.Test.YtopiecbldnhihaaDoorQf
namespace Go.Proofs.YtopiecbldnhihaaDoor.twl
open Go.ChangeShapes Go.WideShapes Go.ChangeAt Go.RowKit Go.Deep Go.Proofs.YtopiecbldnhihaaDoor.mem Go.Proofs.YtopiecbldnhihaaDoor.rod Go.Proofs.YtopiecbldnhihaaDoor.nums Go.Proofs.YtopiecbldnhihaaDoor.shp Go.Proofs.YtopiecbldnhihaaDoor.wv Go.Proofs.YtopiecbldnhihaaDoor.wk
set_option linter.unusedVariables false
set_option maxRecDepth 100000

/-- the letter at place i is F, the one ahead of it B -/
def frontAt (s : ByteArray) (i : Nat) : Prop := byteAt s i = 70 ∧ byteAt s ((i + s.size - 1) % s.size) = 66
/-- the first such place -/
def First (s : ByteArray) (i : Nat) : Prop := i < s.size ∧ frontAt s i ∧ ∀ j, j < i → ¬ frontAt s j
theorem First.ex (s : ByteArray) : (∃ i, First s i) ∨ ∀ i, i < s.size → ¬ frontAt s i := by
  have key : ∀ n, n ≤ s.size → (∃ i, i < n ∧ First s i) ∨ ∀ i, i < n → ¬ frontAt s i := by
    intro n
    induction n with
    | zero => exact fun _ => .inr fun i h => absurd h (by omega)
    | succ n ih =>
      intro hn
      rcases ih (by omega) with ⟨i, h1, h2⟩ | h
      · exact .inl ⟨i, by omega, h2⟩
      · by_cases hp : frontAt s n
        · exact .inl ⟨n, by omega, by omega, hp, h⟩
        · refine .inr fun i hi => ?_
          by_cases e : i = n
          · rw [e]; exact hp
          · exact h i (by omega)
  rcases key s.size (Nat.le_refl _) with ⟨i, _, h⟩ | h
  · exact .inl ⟨i, h⟩
  · exact .inr h
set_option maxHeartbeats 2000000 in
theorem turn_yes (s : ByteArray) (f : Nat) (hp : First s f) (w : World) (h0 : 0 < s.size) (hs : s.size ≤ 12) :
    Calls Tryd.prog 43 #[.string s] w fun e w' => e = .returned (.tuple #[.string (tB s f), .bool true]) ∧ Drew w w' := by
  have HP := Lib.hid hp
  clear hp
  go_enter Tryd.func43, Tryd.ntmps43
  go_wp2_with fail
  go_loop [5] (fun i => ∃ k : Nat, k ≤ f ∧ i = .int .i64 (k : Int)) (fun i => s.size - (intOf i).toNat)
  case atStart => exact ⟨0, by omega, rfl⟩
  case round =>
    obtain ⟨k, hk, rfl⟩ := hrel
    by_cases hlt : k < s.size
    · have hlt' : (k : Int) < (s.size : Int) := by omega
      have hk0 : (0 : Int) ≤ (k : Int) := by omega
      have hk1 : (k : Int) ≤ (s.size : Int) := by omega
      obtain ⟨r, hr⟩ : ∃ r : Nat, r = (k + s.size - 1) % s.size := ⟨_, rfl⟩
      have hrs : r < s.size := by rw [hr]; exact Nat.mod_lt _ h0
      have hr0 : (0 : Int) ≤ (r : Int) := by omega
      have hr1 : (r : Int) < (s.size : Int) := by omega
      have hw1 : IntKind.i64.wrap ((k : Int) + (s.size : Int)) = (k : Int) + (s.size : Int) := by rw [IntKind.wrap_i64]; omega
      have hw2 : IntKind.i64.wrap ((k : Int) + (s.size : Int) - 1) = (k : Int) + (s.size : Int) - 1 := by rw [IntKind.wrap_i64]; omega
      have hm : ((k : Int) + (s.size : Int) - 1) % (s.size : Int) = (r : Int) := by rw [hr, Int.natCast_emod]; congr 1; omega
      have hn0 : ((s.size : Int) == 0) = false := beq_false_of_ne (by omega)
      have hn1 : 1 ≤ (s.size : Int) := by omega
      have hf : frontAt s k ↔ byteAt s k = 70 ∧ byteAt s r = 66 := by unfold frontAt; rw [← hr]
      have HF := Lib.hid hf
      clear hr hf
      by_cases h70 : byteAt s k = 70
      · by_cases h66 : byteAt s r = 66
        · have hyes := HF.out.2 ⟨h70, h66⟩
          rw [byteAt_eq hlt] at h70
          rw [byteAt_eq hrs] at h66
          have e1 : (((s[k]'hlt).toNat : Int) == 70) = true := by rw [h70]; rfl
          have e2 : (((s[r]'hrs).toNat : Int) == 66) = true := by rw [h66]; rfl
          clear h70 h66
          have hkf : k = f := by
            by_cases e : k = f
            · exact e
            · exact absurd hyes (HP.out.2.2 k (by omega))
          have HK := Lib.hid hkf
          clear hkf hyes
          go_wp2_with fail
          go_quiet (fail)
          go_wp2
          go_returns
          exact ⟨by rw [← HK.out]; rfl, (Drew.refl _).drewN _⟩
        · have hno : ¬ frontAt s k := fun h => h66 (HF.out.1 h).2
          rw [byteAt_eq hlt] at h70
          rw [byteAt_eq hrs] at h66
          have e1 : (((s[k]'hlt).toNat : Int) == 70) = true := by rw [h70]; rfl
          have e2 : (((s[r]'hrs).toNat : Int) == 66) = false := by simpa using h66
          clear h70 h66
          go_wp2
          go_round
          case rel => exact ⟨k + 1, (by have := HP.out.2.1; by_cases e : k = f; (subst e; exact absurd this hno); omega), by go_num⟩
          case measure => simp [intOf]; omega
      · have hno : ¬ frontAt s k := fun h => h70 (HF.out.1 h).1
        rw [byteAt_eq hlt] at h70
        have e1 : (((s[k]'hlt).toNat : Int) == 70) = false := by simpa using h70
        clear h70
        go_wp2
        go_round
        case rel => exact ⟨k + 1, (by have := HP.out.2.1; by_cases e : k = f; (subst e; exact absurd this hno); omega), by go_num⟩
        case measure => simp [intOf]; omega
    · exact absurd HP.out.1 (by omega)

set_option maxHeartbeats 2000000 in
theorem turn_no (s : ByteArray) (hp : ∀ i, i < s.size → ¬ frontAt s i) (w : World) (h0 : 0 < s.size) (hs : s.size ≤ 12) :
    Calls Tryd.prog 43 #[.string s] w fun e w' => e = .returned (.tuple #[.string ⟨#[]⟩, .bool false]) ∧ Drew w w' := by
  have HP := Lib.hid hp
  clear hp
  go_enter Tryd.func43, Tryd.ntmps43
  go_wp2_with fail
  go_loop [5] (fun i => ∃ k : Nat, k ≤ s.size ∧ i = .int .i64 (k : Int)) (fun i => s.size - (intOf i).toNat)
  case atStart => exact ⟨0, by omega, rfl⟩
  case round =>
    obtain ⟨k, hk, rfl⟩ := hrel
    by_cases hlt : k < s.size
    · have hlt' : (k : Int) < (s.size : Int) := by omega
      have hk0 : (0 : Int) ≤ (k : Int) := by omega
      have hk1 : (k : Int) ≤ (s.size : Int) := by omega
      obtain ⟨r, hr⟩ : ∃ r : Nat, r = (k + s.size - 1) % s.size := ⟨_, rfl⟩
      have hrs : r < s.size := by rw [hr]; exact Nat.mod_lt _ h0
      have hr0 : (0 : Int) ≤ (r : Int) := by omega
      have hr1 : (r : Int) < (s.size : Int) := by omega
      have hw1 : IntKind.i64.wrap ((k : Int) + (s.size : Int)) = (k : Int) + (s.size : Int) := by rw [IntKind.wrap_i64]; omega
      have hw2 : IntKind.i64.wrap ((k : Int) + (s.size : Int) - 1) = (k : Int) + (s.size : Int) - 1 := by rw [IntKind.wrap_i64]; omega
      have hm : ((k : Int) + (s.size : Int) - 1) % (s.size : Int) = (r : Int) := by rw [hr, Int.natCast_emod]; congr 1; omega
      have hn0 : ((s.size : Int) == 0) = false := beq_false_of_ne (by omega)
      have hn1 : 1 ≤ (s.size : Int) := by omega
      have hf : frontAt s k ↔ byteAt s k = 70 ∧ byteAt s r = 66 := by unfold frontAt; rw [← hr]
      have HF := Lib.hid hf
      clear hr hf
      by_cases h70 : byteAt s k = 70
      · by_cases h66 : byteAt s r = 66
        · have hyes := HF.out.2 ⟨h70, h66⟩
          rw [byteAt_eq hlt] at h70
          rw [byteAt_eq hrs] at h66
          have e1 : (((s[k]'hlt).toNat : Int) == 70) = true := by rw [h70]; rfl
          have e2 : (((s[r]'hrs).toNat : Int) == 66) = true := by rw [h66]; rfl
          clear h70 h66
          exact absurd hyes (HP.out k hlt)
        · have hno : ¬ frontAt s k := fun h => h66 (HF.out.1 h).2
          rw [byteAt_eq hlt] at h70
          rw [byteAt_eq hrs] at h66
          have e1 : (((s[k]'hlt).toNat : Int) == 70) = true := by rw [h70]; rfl
          have e2 : (((s[r]'hrs).toNat : Int) == 66) = false := by simpa using h66
          clear h70 h66
          go_wp2
          go_round
          case rel => exact ⟨k + 1, by omega, by go_num⟩
          case measure => simp [intOf]; omega
      · have hno : ¬ frontAt s k := fun h => h70 (HF.out.1 h).1
        rw [byteAt_eq hlt] at h70
        have e1 : (((s[k]'hlt).toNat : Int) == 70) = false := by simpa using h70
        clear h70
        go_wp2
        go_round
        case rel => exact ⟨k + 1, by omega, by go_num⟩
        case measure => simp [intOf]; omega
    · go_wp2
      go_returns
      exact ⟨rfl, Drew.refl _⟩

/-! ### rows by letters and numbers -/
def rowG (lf : Nat → UInt8) (X : Nat → Int) : Nat → List UInt8
  | 0 => []
  | n + 1 => rowG lf X n ++ List.replicate (X n).toNat (lf n)
theorem rowG_lt (X : Nat → Int) : ∀ n, rowG lt X n = rowL X n
  | 0 => rfl
  | n + 1 => by rw [rowG, rowL, rowG_lt X n]
theorem rowG_congr {lf lg : Nat → UInt8} {X Y : Nat → Int} : ∀ {n : Nat}, (∀ j, j < n → lf j = lg j ∧ X j = Y j) → rowG lf X n = rowG lg Y n
  | 0, _ => rfl
  | n + 1, h => by rw [rowG, rowG, rowG_congr (n := n) (fun j hj => h j (by omega)), (h n (by omega)).1, (h n (by omega)).2]
theorem rowG_cons (lf : Nat → UInt8) (X : Nat → Int) : ∀ n, rowG lf X (n + 1) = List.replicate (X 0).toNat (lf 0) ++ rowG (fun j => lf (j + 1)) (fun j => X (j + 1)) n
  | 0 => by simp [rowG]
  | n + 1 => by rw [rowG, rowG_cons lf X n, rowG, List.append_assoc]
theorem rowG_rev (lf : Nat → UInt8) (X : Nat → Int) : ∀ n, (rowG lf X n).reverse = rowG (fun j => lf (n - 1 - j)) (fun j => X (n - 1 - j)) n
  | 0 => rfl
  | n + 1 => by
    rw [rowG, List.reverse_append, List.reverse_replicate, rowG_rev lf X n, rowG_cons]
    show List.replicate (X n).toNat (lf n) ++ _ = List.replicate (X (n + 1 - 1 - 0)).toNat (lf (n + 1 - 1 - 0)) ++ _
    rw [show n + 1 - 1 - 0 = n by omega]
    congr 1
    refine rowG_congr fun j hj => ?_
    rw [show n + 1 - 1 - (j + 1) = n - 1 - j by omega]
    exact ⟨rfl, rfl⟩
theorem rowG_map (o : UInt8 → UInt8) (lf : Nat → UInt8) (X : Nat → Int) : ∀ n, (rowG lf X n).map o = rowG (fun j => o (lf j)) X n
  | 0 => rfl
  | n + 1 => by rw [rowG, List.map_append, rowG_map o lf X n, List.map_replicate, rowG]
/-- the other letter -/
def oth (b : UInt8) : UInt8 := if b = 70 then 66 else 70
theorem row_over {X : Nat → Int} {n : Nat} (he : n % 2 = 0) : (rowL X n).reverse.map oth = rowL (fun j => X (n - 1 - j)) n := by
  rw [← rowG_lt, ← rowG_lt, rowG_rev, rowG_map]
  refine rowG_congr fun j hj => ⟨?_, rfl⟩
  unfold lt oth
  by_cases h : j % 2 = 0
  · rw [if_pos h, if_neg (show ¬ (n - 1 - j) % 2 = 0 by omega)]; rfl
  · rw [if_neg h, if_pos (show (n - 1 - j) % 2 = 0 by omega)]; rfl
theorem byteAt_list (l : List UInt8) (j : Nat) : byteAt ⟨l.toArray⟩ j = ((l.getD j 0).toNat : Int) := by
  by_cases h : j < l.length
  · have hs : j < (⟨l.toArray⟩ : ByteArray).size := by show j < l.toArray.size; simpa using h
    rw [byteAt_eq hs, List.getD_eq_getElem?_getD, List.getElem?_eq_getElem h]
    rfl
  · have hs : ¬ j < (⟨l.toArray⟩ : ByteArray).size := by show ¬ j < l.toArray.size; simpa using h
    unfold byteAt
    rw [dif_neg hs, List.getD_eq_getElem?_getD, List.getElem?_eq_none (by omega)]
    rfl
/-- the k-th letter of part i -/
theorem row_at {X : Nat → Int} : ∀ {n i k : Nat}, i < n → k < (X i).toNat → byteAt (rowB X n) ((rowL X i).length + k) = ((lt i).toNat : Int)
  | 0, i, k, h, _ => absurd h (by omega)
  | n + 1, i, k, h, hk => by
    unfold rowB
    rw [byteAt_list, rowL, List.getD_eq_getElem?_getD]
    by_cases e : i = n
    · subst e
      rw [List.getElem?_append_right (by omega), show (rowL X i).length + k - (rowL X i).length = k by omega, List.getElem?_replicate, if_pos hk]
      rfl
    · have ih := row_at (X := X) (n := n) (i := i) (k := k) (by omega) hk
      unfold rowB at ih
      rw [byteAt_list, List.getD_eq_getElem?_getD] at ih
      have hlen : ∀ m, i < m → (rowL X i).length + (X i).toNat ≤ (rowL X m).length := by
        intro m hm
        induction m with
        | zero => omega
        | succ m ihm =>
          rw [rowL, List.length_append, List.length_replicate]
          by_cases e2 : i = m
          · subst e2; omega
          · have := ihm (by omega); omega
      have := hlen n (by omega)
      rw [List.getElem?_append_left (by omega)]
      exact ih
theorem lt_ne {i : Nat} : ((lt (i + 1)).toNat : Int) ≠ ((lt i).toNat : Int) := by
  unfold lt
  by_cases h : i % 2 = 0
  · rw [if_pos h, if_neg (show ¬ (i + 1) % 2 = 0 by omega)]; decide
  · rw [if_neg h, if_pos (show (i + 1) % 2 = 0 by omega)]; decide
/-- the runs of a row are its parts -/
theorem rle_row {X : Nat → Int} {n : Nat} (hX : ∀ k, k < n → 1 ≤ X k ∧ X k ≤ 12) : ∀ i, i ≤ n → rle (rowB X n) (rowL X i).length = (List.range i).map X
  | 0, _ => rfl
  | i + 1, h => by
    have ih := rle_row hX i (by omega)
    obtain ⟨x0, x1⟩ := hX i (by omega)
    have inner : ∀ k, k < (X i).toNat → rle (rowB X n) ((rowL X i).length + (k + 1)) = (List.range i).map X ++ [((k + 1 : Nat) : Int)] := by
      intro k
      induction k with
      | zero =>
        intro hk
        rw [← Nat.add_assoc, Nat.add_zero, rle_new, ih]; rfl
        rintro ⟨h0, hb⟩
        have h1 := row_at (X := X) (n := n) (i := i) (k := 0) (by omega) hk
        rw [Nat.add_zero] at h1
        cases i with
        | zero => simp [rowL] at h0
        | succ i =>
          obtain ⟨y0, y1⟩ := hX i (by omega)
          have hl : (rowL X (i + 1)).length = (rowL X i).length + (X i).toNat := by rw [rowL, List.length_append, List.length_replicate]
          have h2 := row_at (X := X) (n := n) (i := i) (k := (X i).toNat - 1) (by omega) (by omega)
          rw [show (rowL X i).length + ((X i).toNat - 1) = (rowL X (i + 1)).length - 1 by omega] at h2
          rw [h1, h2] at hb
          exact lt_ne hb
      | succ k ihk =>
        intro hk
        have h1 := row_at (X := X) (n := n) (i := i) (k := k + 1) (by omega) hk
        have h2 := row_at (X := X) (n := n) (i := i) (k := k) (by omega) (by omega)
        obtain ⟨l, q, e1, e2, _⟩ := rle_same (s := rowB X n) (k := (rowL X i).length + (k + 1)) ⟨by omega, by rw [h1, show (rowL X i).length + (k + 1) - 1 = (rowL X i).length + k by omega, h2]⟩
        rw [ihk (by omega)] at e1
        obtain ⟨e3, e4⟩ := List.append_inj' e1 rfl
        rw [show (rowL X i).length + (k + 1 + 1) = (rowL X i).length + (k + 1) + 1 by omega, e2, ← e3]
        injection e4 with e4 _
        rw [← e4]; rfl
    have hx := inner ((X i).toNat - 1) (by omega)
    rw [show (X i).toNat - 1 + 1 = (X i).toNat by omega] at hx
    rw [rowL, List.length_append, List.length_replicate, hx, List.range_succ, List.map_append]
    congr 1
    show [(((X i).toNat : Nat) : Int)] = [X i]
    rw [show (((X i).toNat : Nat) : Int) = X i by omega]
theorem rle_rowB {X : Nat → Int} {n : Nat} (hX : ∀ k, k < n → 1 ≤ X k ∧ X k ≤ 12) : rle (rowB X n) (rowB X n).size = (List.range n).map X := by rw [rowB_size]; exact rle_row hX n (Nat.le_refl _)
/-- a row begins in front and ends behind -/
theorem first_row {X : Nat → Int} {n : Nat} (hX : ∀ k, k < n → 1 ≤ X k ∧ X k ≤ 12) (n2 : 2 ≤ n) (he : n % 2 = 0) : First (rowB X n) 0 := by
  obtain ⟨x0, x1⟩ := hX 0 (by omega)
  obtain ⟨m, rfl⟩ : ∃ m, n = m + 1 := ⟨n - 1, by omega⟩
  obtain ⟨y0, y1⟩ := hX m (by omega)
  have hl : (rowB X (m + 1)).size = (rowL X m).length + (X m).toNat := by rw [rowB_size, rowL, List.length_append, List.length_replicate]
  have h1 := row_at (X := X) (n := m + 1) (i := 0) (k := 0) (by omega) (by omega)
  have h2 := row_at (X := X) (n := m + 1) (i := m) (k := (X m).toNat - 1) (by omega) (by omega)
  refine ⟨by omega, ⟨?_, ?_⟩, fun j hj => absurd hj (by omega)⟩
  · have e : (rowL X 0).length + 0 = 0 := rfl
    rw [e] at h1
    rw [h1]; rfl
  · rw [Nat.zero_add, Nat.mod_eq_of_lt (by omega), show (rowB X (m + 1)).size - 1 = (rowL X m).length + ((X m).toNat - 1) by omega, h2, lt_odd (by omega)]
    rfl
theorem tB_zero (s : ByteArray) : tB s 0 = s := by
  refine ext_byte (tB_size s (Nat.zero_le _)) fun i hi => ?_
  rw [tB_size s (Nat.zero_le _)] at hi
  rw [tB_byte s (Nat.zero_le _) hi, Nat.add_zero, cyc_lt hi]

end Go.Proofs.YtopiecbldnhihaaDoor.twl
