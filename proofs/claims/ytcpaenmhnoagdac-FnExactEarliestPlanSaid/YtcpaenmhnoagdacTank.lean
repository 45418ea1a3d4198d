/-
  Contracts: how many bundles are in the tank, or supple, at an hour. Of the model and of the program.
-/
import Derived.Test.YtcpaenmhnoagdacBatch
namespace Go.Proofs.Ytcpaenmhnoagdac.rod
open Go.ChangeShapes Go.WideShapes Go.ChangeAt Go.RowKit Go.Proofs.Ytcpaenmhnoagdac.mem
set_option linter.unusedVariables false

set_option maxHeartbeats 2000000 in
theorem loadIn_s (A : Option Addr) (n c : Nat) (X : Nat → Int) (h : Int) (w : World) (hr : Sl w A n 4 X) (hn : n ≤ 10) (hv : allT X n = true) :
    Calls Try.prog 88 #[.slice A n c, .int .i64 h] w fun e w' => e = .returned (.int .i64 (load 0 X n h)) ∧ Below w.heap.size w w' := by
  have HR := Lib.hid hr
  have HV := Lib.hid hv
  clear hr hv
  go_enter Try.func88, Try.ntmps88
  go_wp2_with fail
  go_outline
  go_loopw [6, 5] (fun s t wr => ∃ k : Nat, k ≤ n ∧ s = .int .i64 k ∧ t = .int .i64 (load 0 X k h) ∧ Below w.heap.size w wr) (fun s _ _ => n - (intOf s).toNat)
  case atStart => exact ⟨0, by omega, rfl, rfl, by go_grown⟩
  case round =>
    obtain ⟨k, hk, rfl, rfl, hd⟩ := hrel
    have hzz := hd.size
    have HD := Lib.hid hd
    clear hd
    by_cases hlt : k < n
    · have hlt' : (k : Int) < (n : Int) := by omega
      have hk0 : (0 : Int) ≤ (k : Int) := by omega
      obtain ⟨b, o, rfl, hb, hX⟩ := HR.out (by omega)
      have p0 := hX.below HD.out hb (k * 4) (by omega)
      have p1 := hX.below HD.out hb (k * 4 + 1) (by omega)
      have p2 := hX.below HD.out hb (k * 4 + 2) (by omega)
      have p3 := hX.below HD.out hb (k * 4 + 3) (by omega)
      simp only [← Nat.add_assoc] at p1 p2 p3
      clear hX
      obtain ⟨v1, v2, v3, v4, v5, v6, v7, v8⟩ := allT_bd HV.out hlt
      have bd := load_bd (m := 0) (h := h) (allT_le (m := k) (by omega) HV.out)
      have hin : inB h (X (k * 4)) (X (k * 4) + X (k * 4 + 1) - 1) = atT 0 X k h := by unfold inB atT fstT endT; congr 1; exact propext ⟨fun q => by simp; omega, fun q => by simp at q; omega⟩
      have HL := Lib.hid (show load 0 X (k + 1) h = load 0 X k h + (if atT 0 X k h = true then X (k * 4 + 3) else 0) by rfl)
      generalize load 0 X k h = l0 at *
      cases hp : atT 0 X k h
      · rw [hp] at hin
        have HL2 := Lib.hid (show load 0 X (k + 1) h = l0 by rw [HL.out, hp]; simp)
        clear hp HL
        go_wp2_with fail
        go_quiet ((go_at_call 73; exact Calls.quiet_of_same ((in_s _ _ _ _).mono fun _ _ ⟨p, q⟩ => ⟨p.trans (by rw [hin]), q.symm⟩)))
        go_wp2
        go_roundw
        case rel => exact ⟨k + 1, by omega, by go_num, by rw [HL2.out], by first | exact HD.out | exact drewN_below HD.out _⟩
        case measure => simp [intOf]; omega
      · rw [hp] at hin
        have HL2 := Lib.hid (show load 0 X (k + 1) h = l0 + X (k * 4 + 3) by rw [HL.out, hp]; simp)
        clear hp HL
        go_wp2_with fail
        go_quiet ((go_at_call 73; exact Calls.quiet_of_same ((in_s _ _ _ _).mono fun _ _ ⟨p, q⟩ => ⟨p.trans (by rw [hin]), q.symm⟩)))
        go_wp2
        go_roundw
        case rel => exact ⟨k + 1, by omega, by go_num, by rw [HL2.out], by first | exact HD.out | exact drewN_below HD.out _⟩
        case measure => simp [intOf]; omega
    · obtain rfl : k = n := by omega
      go_wp2
      go_ret
      exact ⟨rfl, HD.out⟩

set_option maxHeartbeats 2000000 in
theorem loadSup_s (A : Option Addr) (n c : Nat) (X : Nat → Int) (h : Int) (w : World) (hr : Sl w A n 4 X) (hn : n ≤ 10) (hv : allT X n = true) :
    Calls Try.prog 91 #[.slice A n c, .int .i64 h] w fun e w' => e = .returned (.int .i64 (load 1 X n h)) ∧ Below w.heap.size w w' := by
  have HR := Lib.hid hr
  have HV := Lib.hid hv
  clear hr hv
  go_enter Try.func91, Try.ntmps91
  go_wp2_with fail
  go_outline
  go_loopw [6, 5] (fun s t wr => ∃ k : Nat, k ≤ n ∧ s = .int .i64 k ∧ t = .int .i64 (load 1 X k h) ∧ Below w.heap.size w wr) (fun s _ _ => n - (intOf s).toNat)
  case atStart => exact ⟨0, by omega, rfl, rfl, by go_grown⟩
  case round =>
    obtain ⟨k, hk, rfl, rfl, hd⟩ := hrel
    have hzz := hd.size
    have HD := Lib.hid hd
    clear hd
    by_cases hlt : k < n
    · have hlt' : (k : Int) < (n : Int) := by omega
      have hk0 : (0 : Int) ≤ (k : Int) := by omega
      obtain ⟨b, o, rfl, hb, hX⟩ := HR.out (by omega)
      have p0 := hX.below HD.out hb (k * 4) (by omega)
      have p1 := hX.below HD.out hb (k * 4 + 1) (by omega)
      have p2 := hX.below HD.out hb (k * 4 + 2) (by omega)
      have p3 := hX.below HD.out hb (k * 4 + 3) (by omega)
      simp only [← Nat.add_assoc] at p1 p2 p3
      clear hX
      obtain ⟨v1, v2, v3, v4, v5, v6, v7, v8⟩ := allT_bd HV.out hlt
      have bd := load_bd (m := 1) (h := h) (allT_le (m := k) (by omega) HV.out)
      have hin : inB h (X (k * 4) + X (k * 4 + 1)) (X (k * 4) + X (k * 4 + 1) + X (k * 4 + 2) - 1) = atT 1 X k h := by unfold inB atT fstT endT; congr 1; exact propext ⟨fun q => by simp; omega, fun q => by simp at q; omega⟩
      have HL := Lib.hid (show load 1 X (k + 1) h = load 1 X k h + (if atT 1 X k h = true then X (k * 4 + 3) else 0) by rfl)
      generalize load 1 X k h = l0 at *
      cases hp : atT 1 X k h
      · rw [hp] at hin
        have HL2 := Lib.hid (show load 1 X (k + 1) h = l0 by rw [HL.out, hp]; simp)
        clear hp HL
        go_wp2_with fail
        go_quiet (fail)
        go_wp2_with (go_at_call 73; refine (in_s _ _ _ _).mono ?_; rintro e w' ⟨rfl, rfl⟩)
        go_roundw
        case rel => exact ⟨k + 1, by omega, by go_num, by rw [HL2.out], by first | exact HD.out | exact drewN_below HD.out _⟩
        case measure => simp [intOf]; omega
      · rw [hp] at hin
        have HL2 := Lib.hid (show load 1 X (k + 1) h = l0 + X (k * 4 + 3) by rw [HL.out, hp]; simp)
        clear hp HL
        go_wp2_with fail
        go_quiet (fail)
        go_wp2_with (go_at_call 73; refine (in_s _ _ _ _).mono ?_; rintro e w' ⟨rfl, rfl⟩)
        go_roundw
        case rel => exact ⟨k + 1, by omega, by go_num, by rw [HL2.out], by first | exact HD.out | exact drewN_below HD.out _⟩
        case measure => simp [intOf]; omega
    · obtain rfl : k = n := by omega
      go_wp2
      go_ret
      exact ⟨rfl, HD.out⟩

theorem stretch0_i (S K P B : Int) (w : World) (h0 : 0 ≤ S) (h1 : S ≤ 5000) (h2 : 1 ≤ K) (h3 : K ≤ 500) :
    Calls Try.prog 90 #[.agg #[.int .i64 S, .int .i64 K, .int .i64 P, .int .i64 B]] w fun e w' => e = .returned (.agg #[.int .i64 S, .int .i64 (S + K), .int .i64 B]) ∧ Below w.heap.size w w' := by
  go_enter Try.func90, Try.ntmps90
  go_wp2
  go_returns
  exact ⟨rfl, by go_grown⟩

set_option maxHeartbeats 1000000 in
set_option maxRecDepth 100000 in
theorem stretch1_i (S K P B : Int) (w : World) (h0 : 0 ≤ S) (h1 : S ≤ 5000) (h2 : 1 ≤ K) (h3 : K ≤ 500) (h4 : 1 ≤ P) (h5 : P ≤ 500) :
    Calls Try.prog 92 #[.agg #[.int .i64 S, .int .i64 K, .int .i64 P, .int .i64 B]] w fun e w' => e = .returned (.agg #[.int .i64 (S + K), .int .i64 (S + K + P), .int .i64 B]) ∧ Below w.heap.size w w' := by
  have hfd : ∀ w : World, (Instr.field 112 (.agg #[.int .i64 S, .int .i64 (S + K), .int .i64 B]) 1).run Try.prog w = .ok (.int .i64 (S + K)) w := fun _ => by kernel_rfl
  go_enter Try.func92, Try.ntmps92
  go_wp2_with fail
  go_outline

  refine (stretch0_i S K P B _ h0 h1 h2 h3).mono ?_
  rintro e w1 ⟨rfl, hb⟩
  have z1 := hb.size
  obtain ⟨hc, hf⟩ := bcell hb
  have c0 : w1.cell? ⟨w.heap.size + 1, 0, none⟩ = some (.int .i64 0) := by rw [hc _ _ (by simp)]; go_simp
  have c1 : w1.cell? ⟨w.heap.size + 1, 1, none⟩ = some (.int .i64 0) := by rw [hc _ _ (by simp)]; go_simp
  have c2 : w1.cell? ⟨w.heap.size + 1, 2, none⟩ = some (.int .i64 0) := by rw [hc _ _ (by simp)]; go_simp
  have hg : Below w.heap.size w w1 := Below.trans (by go_grown) (hb.mono (by simp <;> omega))
  clear hb
  go_wp2
  exact bodyPost_ret (v := .agg #[.int .i64 (S + K), .int .i64 (S + K + P), .int .i64 B]) (by simp [results, Try.results92, go_sem, c0, c1, c2]) rfl
    ⟨rfl, Below.setCell (Below.setCell (Below.setCell hg (by simp) _) (by simp) _) (by simp) _⟩

set_option maxHeartbeats 4000000 in
set_option maxRecDepth 100000 in
theorem countAt0_i (A : Option Addr) (n c : Nat) (X : Nat → Int) (h : Int) (w : World) (hn : n ≤ maxLen) (hr : Sl w A n 4 X) (hv : listT n X = true) (h1 : inB h 0 10000 = true) :
    Calls Try.prog 89 #[.slice A n c, .int .i64 h, .func (.func 90) #[] #[]] w fun e w' => e = .returned (.tuple #[.int .i64 (load 0 X n h), .int .i64 0]) ∧ Below w.heap.size w w' := by
  have hn10 := (listT_of hv).1
  have HV := Lib.hid (listT_of hv).2
  have HR := Lib.hid hr
  clear hr
  go_enter Try.func89, Try.ntmps89
  go_wp2_with (first
    | (go_at_call 31; refine (validT_i A n c X _ hn HR.out).mono ?_; rintro e w1 ⟨rfl, b1⟩)
    | (go_at_call 71; refine (in_i _ _ _ _).mono ?_; rintro e w' ⟨rfl, rfl⟩))
  have B1 := Lib.hid b1
  clear b1
  go_outline
  go_loopw [20, 8] (fun s t wr => ∃ k : Nat, k ≤ n ∧ s = .int .i64 k ∧ t = .int .i64 (load 0 X k h) ∧ Below w.heap.size w wr) (fun s _ _ => n - (intOf s).toNat)
  case atStart => exact ⟨0, by omega, rfl, rfl, B1.out⟩
  case round =>
    obtain ⟨k, hk, rfl, rfl, hd⟩ := hrel
    have hzz := hd.size
    have HD := Lib.hid hd
    by_cases hlt : k < n
    · have hlt' : (k : Int) < (n : Int) := by omega
      have hk0 : (0 : Int) ≤ (k : Int) := by omega
      obtain ⟨b, o, rfl, hb, hX⟩ := HR.out (by omega)
      have p0 := hX.below HD.out hb (k * 4) (by omega)
      have p1 := hX.below HD.out hb (k * 4 + 1) (by omega)
      have p2 := hX.below HD.out hb (k * 4 + 2) (by omega)
      have p3 := hX.below HD.out hb (k * 4 + 3) (by omega)
      simp only [← Nat.add_assoc] at p1 p2 p3
      clear hX
      obtain ⟨v1, v2, v3, v4, v5, v6, v7, v8⟩ := allT_bd HV.out hlt
      have bd := load_bd (m := 0) (h := h) (allT_le (m := k) (by omega) HV.out)
      have HL := Lib.hid (show load 0 X (k + 1) h = load 0 X k h + (if atT 0 X k h = true then X (k * 4 + 3) else 0) by rfl)
      generalize load 0 X k h = l0 at *
      cases hp : atT 0 X k h
      · have HL2 := Lib.hid (show load 0 X (k + 1) h = l0 by rw [HL.out, hp]; simp)
        unfold atT fstT endT at hp
        simp only [decide_eq_false_iff_not] at hp
        have hq : h < X (k * 4) ∨ ((X (k * 4)) ≤ h ∧ X (k * 4) + X (k * 4 + 1) ≤ h) := by simp at hp; omega
        clear hp HL
        rcases hq with q1 | ⟨q1, q2⟩
        · go_wp2_with fail
          refine (stretch0_i (X (k * 4)) (X (k * 4 + 1)) (X (k * 4 + 2)) (X (k * 4 + 3)) _ v1 v2 v3 v4).mono ?_
          rintro e w' ⟨rfl, hb2⟩
          have g2 : Below w.heap.size w w' := Below.trans (by go_grown) (hb2.mono (by simp <;> omega))
          have z2 := hb2.size
          have z3 := g2.size
          obtain ⟨hc, hf⟩ := bcell hb2
          clear hb2 p0 p1 p2 p3
          go_wp2
          go_roundw
          case rel => exact ⟨k + 1, by omega, by go_num, by rw [HL2.out], by go_grown⟩
          case measure => simp [intOf]; omega
        · go_wp2_with fail
          refine (stretch0_i (X (k * 4)) (X (k * 4 + 1)) (X (k * 4 + 2)) (X (k * 4 + 3)) _ v1 v2 v3 v4).mono ?_
          rintro e w' ⟨rfl, hb2⟩
          have g2 : Below w.heap.size w w' := Below.trans (by go_grown) (hb2.mono (by simp <;> omega))
          have z2 := hb2.size
          have z3 := g2.size
          obtain ⟨hc, hf⟩ := bcell hb2
          clear hb2 p0 p1 p2 p3
          go_wp2
          go_roundw
          case rel => exact ⟨k + 1, by omega, by go_num, by rw [HL2.out], by go_grown⟩
          case measure => simp [intOf]; omega
      · have HL2 := Lib.hid (show load 0 X (k + 1) h = l0 + X (k * 4 + 3) by rw [HL.out, hp]; simp)
        unfold atT fstT endT at hp
        have hq : (X (k * 4)) ≤ h ∧ h < X (k * 4) + X (k * 4 + 1) := by simp at hp; omega
        clear hp HL
        obtain ⟨q1, q2⟩ := hq
        go_wp2_with fail
        refine (stretch0_i (X (k * 4)) (X (k * 4 + 1)) (X (k * 4 + 2)) (X (k * 4 + 3)) _ v1 v2 v3 v4).mono ?_
        rintro e w' ⟨rfl, hb2⟩
        have g2 : Below w.heap.size w w' := Below.trans (by go_grown) (hb2.mono (by simp <;> omega))
        have z2 := hb2.size
        have z3 := g2.size
        obtain ⟨hc, hf⟩ := bcell hb2
        clear hb2 p0 p1 p2 p3
        go_wp2
        go_roundw
        case rel => exact ⟨k + 1, by omega, by go_num, by rw [HL2.out], by go_grown⟩
        case measure => simp [intOf]; omega
    · obtain rfl : k = n := by omega
      go_wp2
      go_ret2
      exact ⟨rfl, HD.out⟩

set_option maxHeartbeats 1000000 in
theorem countAt0_no (A : Option Addr) (n c : Nat) (X : Nat → Int) (h code : Int) (w : World) (hn : n ≤ maxLen) (hr : Sl w A n 4 X)
    (hv : listT n X = false ∧ code = 1 ∨ listT n X = true ∧ inB h 0 10000 = false ∧ code = 2) :
    Calls Try.prog 89 #[.slice A n c, .int .i64 h, .func (.func 90) #[] #[]] w fun e w' => e = .returned (.tuple #[.int .i64 0, .int .i64 code]) ∧ Below w.heap.size w w' := by
  have HR := Lib.hid hr
  clear hr
  rcases hv with ⟨hv, rfl⟩ | ⟨hv, h1, rfl⟩
  all_goals
    go_enter Try.func89, Try.ntmps89
    go_wp2_with (first
      | (go_at_call 31; refine (validT_i A n c X _ hn HR.out).mono ?_; rintro e w1 ⟨rfl, b1⟩)
      | (go_at_call 71; refine (in_i _ _ _ _).mono ?_; rintro e w' ⟨rfl, rfl⟩))
    go_ret2
    exact ⟨rfl, b1⟩

theorem tank_i (A : Option Addr) (n c : Nat) (X : Nat → Int) (h : Int) (w : World) (hn : n ≤ maxLen) (hr : Sl w A n 4 X) (hv : listT n X = true) (h1 : inB h 0 10000 = true) :
    Calls Try.prog 34 #[.slice A n c, .int .i64 h] w fun e w' => e = .returned (.tuple #[.int .i64 (load 0 X n h), .int .i64 0]) ∧ Below w.heap.size w w' := by
  have HR := Lib.hid hr
  clear hr
  go_enter Try.func34, Try.ntmps34
  go_wp2_with fail
  refine (countAt0_i A n c X h _ hn HR.out hv h1).mono ?_
  rintro e w1 ⟨rfl, b1⟩
  go_wp2
  go_ret2
  exact ⟨rfl, b1⟩

theorem tank_i_no (A : Option Addr) (n c : Nat) (X : Nat → Int) (h code : Int) (w : World) (hn : n ≤ maxLen) (hr : Sl w A n 4 X)
    (hv : listT n X = false ∧ code = 1 ∨ listT n X = true ∧ inB h 0 10000 = false ∧ code = 2) :
    Calls Try.prog 34 #[.slice A n c, .int .i64 h] w fun e w' => e = .returned (.tuple #[.int .i64 0, .int .i64 code]) ∧ Below w.heap.size w w' := by
  have HR := Lib.hid hr
  clear hr
  go_enter Try.func34, Try.ntmps34
  go_wp2_with fail
  refine (countAt0_no A n c X h code _ hn HR.out hv).mono ?_
  rintro e w1 ⟨rfl, b1⟩
  go_wp2
  go_ret2
  exact ⟨rfl, b1⟩

set_option maxHeartbeats 1000000 in
theorem tank_s (A : Option Addr) (n c : Nat) (X : Nat → Int) (h : Int) (w : World) (hn : n ≤ maxLen) (hr : Sl w A n 4 X) (hv : listT n X = true) (h1 : inB h 0 10000 = true) :
    Calls Try.prog 33 #[.slice A n c, .int .i64 h] w fun e w' => e = .returned (.tuple #[.int .i64 (load 0 X n h), .int .i64 0]) ∧ Below w.heap.size w w' := by
  have hn10 := (listT_of hv).1
  have HV := Lib.hid (listT_of hv).2
  have HR := Lib.hid hr
  clear hr
  go_enter Try.func33, Try.ntmps33
  go_wp2_with (first
    | (go_at_call 82; refine (okT_s A n c X _ hn HR.out).mono ?_; rintro e w1 ⟨rfl, b1⟩)
    | (go_at_call 87; refine (hour_s _ _).mono ?_; rintro e w' ⟨rfl, rfl⟩)
    | (go_at_call 88; refine (loadIn_s A n c X h _ (HR.out.below b1 (Nat.le_refl _)) hn10 HV.out).mono ?_; rintro e w2 ⟨rfl, b2⟩))
  go_ret2
  exact ⟨rfl, b1.trans (b2.mono b1.size)⟩

set_option maxHeartbeats 1000000 in
theorem tank_s_no (A : Option Addr) (n c : Nat) (X : Nat → Int) (h code : Int) (w : World) (hn : n ≤ maxLen) (hr : Sl w A n 4 X)
    (hv : listT n X = false ∧ code = 1 ∨ listT n X = true ∧ inB h 0 10000 = false ∧ code = 2) :
    Calls Try.prog 33 #[.slice A n c, .int .i64 h] w fun e w' => e = .returned (.tuple #[.int .i64 0, .int .i64 code]) ∧ Below w.heap.size w w' := by
  have HR := Lib.hid hr
  clear hr
  rcases hv with ⟨hv, rfl⟩ | ⟨hv, h1, rfl⟩
  all_goals
    go_enter Try.func33, Try.ntmps33
    go_wp2_with (first
      | (go_at_call 82; refine (okT_s A n c X _ hn HR.out).mono ?_; rintro e w1 ⟨rfl, b1⟩)
      | (go_at_call 87; refine (hour_s _ _).mono ?_; rintro e w' ⟨rfl, rfl⟩))
    go_ret2
    exact ⟨rfl, b1⟩

set_option maxHeartbeats 4000000 in
set_option maxRecDepth 100000 in
theorem countAt1_i (A : Option Addr) (n c : Nat) (X : Nat → Int) (h : Int) (w : World) (hn : n ≤ maxLen) (hr : Sl w A n 4 X) (hv : listT n X = true) (h1 : inB h 0 10000 = true) :
    Calls Try.prog 89 #[.slice A n c, .int .i64 h, .func (.func 92) #[] #[]] w fun e w' => e = .returned (.tuple #[.int .i64 (load 1 X n h), .int .i64 0]) ∧ Below w.heap.size w w' := by
  have hn10 := (listT_of hv).1
  have HV := Lib.hid (listT_of hv).2
  have HR := Lib.hid hr
  clear hr
  go_enter Try.func89, Try.ntmps89
  go_wp2_with (first
    | (go_at_call 31; refine (validT_i A n c X _ hn HR.out).mono ?_; rintro e w1 ⟨rfl, b1⟩)
    | (go_at_call 71; refine (in_i _ _ _ _).mono ?_; rintro e w' ⟨rfl, rfl⟩))
  have B1 := Lib.hid b1
  clear b1
  go_outline
  go_loopw [20, 8] (fun s t wr => ∃ k : Nat, k ≤ n ∧ s = .int .i64 k ∧ t = .int .i64 (load 1 X k h) ∧ Below w.heap.size w wr) (fun s _ _ => n - (intOf s).toNat)
  case atStart => exact ⟨0, by omega, rfl, rfl, B1.out⟩
  case round =>
    obtain ⟨k, hk, rfl, rfl, hd⟩ := hrel
    have hzz := hd.size
    have HD := Lib.hid hd
    by_cases hlt : k < n
    · have hlt' : (k : Int) < (n : Int) := by omega
      have hk0 : (0 : Int) ≤ (k : Int) := by omega
      obtain ⟨b, o, rfl, hb, hX⟩ := HR.out (by omega)
      have p0 := hX.below HD.out hb (k * 4) (by omega)
      have p1 := hX.below HD.out hb (k * 4 + 1) (by omega)
      have p2 := hX.below HD.out hb (k * 4 + 2) (by omega)
      have p3 := hX.below HD.out hb (k * 4 + 3) (by omega)
      simp only [← Nat.add_assoc] at p1 p2 p3
      clear hX
      obtain ⟨v1, v2, v3, v4, v5, v6, v7, v8⟩ := allT_bd HV.out hlt
      have bd := load_bd (m := 1) (h := h) (allT_le (m := k) (by omega) HV.out)
      have HL := Lib.hid (show load 1 X (k + 1) h = load 1 X k h + (if atT 1 X k h = true then X (k * 4 + 3) else 0) by rfl)
      generalize load 1 X k h = l0 at *
      cases hp : atT 1 X k h
      · have HL2 := Lib.hid (show load 1 X (k + 1) h = l0 by rw [HL.out, hp]; simp)
        unfold atT fstT endT at hp
        simp only [decide_eq_false_iff_not] at hp
        have hq : h < X (k * 4) + X (k * 4 + 1) ∨ ((X (k * 4) + X (k * 4 + 1)) ≤ h ∧ X (k * 4) + X (k * 4 + 1) + X (k * 4 + 2) ≤ h) := by simp at hp; omega
        clear hp HL
        rcases hq with q1 | ⟨q1, q2⟩
        · go_wp2_with fail
          refine (stretch1_i (X (k * 4)) (X (k * 4 + 1)) (X (k * 4 + 2)) (X (k * 4 + 3)) _ v1 v2 v3 v4 v5 v6).mono ?_
          rintro e w' ⟨rfl, hb2⟩
          have g2 : Below w.heap.size w w' := Below.trans (by go_grown) (hb2.mono (by simp <;> omega))
          have z2 := hb2.size
          have z3 := g2.size
          obtain ⟨hc, hf⟩ := bcell hb2
          clear hb2 p0 p1 p2 p3
          go_wp2
          go_roundw
          case rel => exact ⟨k + 1, by omega, by go_num, by rw [HL2.out], by go_grown⟩
          case measure => simp [intOf]; omega
        · go_wp2_with fail
          refine (stretch1_i (X (k * 4)) (X (k * 4 + 1)) (X (k * 4 + 2)) (X (k * 4 + 3)) _ v1 v2 v3 v4 v5 v6).mono ?_
          rintro e w' ⟨rfl, hb2⟩
          have g2 : Below w.heap.size w w' := Below.trans (by go_grown) (hb2.mono (by simp <;> omega))
          have z2 := hb2.size
          have z3 := g2.size
          obtain ⟨hc, hf⟩ := bcell hb2
          clear hb2 p0 p1 p2 p3
          go_wp2
          go_roundw
          case rel => exact ⟨k + 1, by omega, by go_num, by rw [HL2.out], by go_grown⟩
          case measure => simp [intOf]; omega
      · have HL2 := Lib.hid (show load 1 X (k + 1) h = l0 + X (k * 4 + 3) by rw [HL.out, hp]; simp)
        unfold atT fstT endT at hp
        have hq : (X (k * 4) + X (k * 4 + 1)) ≤ h ∧ h < X (k * 4) + X (k * 4 + 1) + X (k * 4 + 2) := by simp at hp; omega
        clear hp HL
        obtain ⟨q1, q2⟩ := hq
        go_wp2_with fail
        refine (stretch1_i (X (k * 4)) (X (k * 4 + 1)) (X (k * 4 + 2)) (X (k * 4 + 3)) _ v1 v2 v3 v4 v5 v6).mono ?_
        rintro e w' ⟨rfl, hb2⟩
        have g2 : Below w.heap.size w w' := Below.trans (by go_grown) (hb2.mono (by simp <;> omega))
        have z2 := hb2.size
        have z3 := g2.size
        obtain ⟨hc, hf⟩ := bcell hb2
        clear hb2 p0 p1 p2 p3
        go_wp2
        go_roundw
        case rel => exact ⟨k + 1, by omega, by go_num, by rw [HL2.out], by go_grown⟩
        case measure => simp [intOf]; omega
    · obtain rfl : k = n := by omega
      go_wp2
      go_ret2
      exact ⟨rfl, HD.out⟩

set_option maxHeartbeats 1000000 in
theorem countAt1_no (A : Option Addr) (n c : Nat) (X : Nat → Int) (h code : Int) (w : World) (hn : n ≤ maxLen) (hr : Sl w A n 4 X)
    (hv : listT n X = false ∧ code = 1 ∨ listT n X = true ∧ inB h 0 10000 = false ∧ code = 2) :
    Calls Try.prog 89 #[.slice A n c, .int .i64 h, .func (.func 92) #[] #[]] w fun e w' => e = .returned (.tuple #[.int .i64 0, .int .i64 code]) ∧ Below w.heap.size w w' := by
  have HR := Lib.hid hr
  clear hr
  rcases hv with ⟨hv, rfl⟩ | ⟨hv, h1, rfl⟩
  all_goals
    go_enter Try.func89, Try.ntmps89
    go_wp2_with (first
      | (go_at_call 31; refine (validT_i A n c X _ hn HR.out).mono ?_; rintro e w1 ⟨rfl, b1⟩)
      | (go_at_call 71; refine (in_i _ _ _ _).mono ?_; rintro e w' ⟨rfl, rfl⟩))
    go_ret2
    exact ⟨rfl, b1⟩

theorem supple_i (A : Option Addr) (n c : Nat) (X : Nat → Int) (h : Int) (w : World) (hn : n ≤ maxLen) (hr : Sl w A n 4 X) (hv : listT n X = true) (h1 : inB h 0 10000 = true) :
    Calls Try.prog 36 #[.slice A n c, .int .i64 h] w fun e w' => e = .returned (.tuple #[.int .i64 (load 1 X n h), .int .i64 0]) ∧ Below w.heap.size w w' := by
  have HR := Lib.hid hr
  clear hr
  go_enter Try.func36, Try.ntmps36
  go_wp2_with fail
  refine (countAt1_i A n c X h _ hn HR.out hv h1).mono ?_
  rintro e w1 ⟨rfl, b1⟩
  go_wp2
  go_ret2
  exact ⟨rfl, b1⟩

theorem supple_i_no (A : Option Addr) (n c : Nat) (X : Nat → Int) (h code : Int) (w : World) (hn : n ≤ maxLen) (hr : Sl w A n 4 X)
    (hv : listT n X = false ∧ code = 1 ∨ listT n X = true ∧ inB h 0 10000 = false ∧ code = 2) :
    Calls Try.prog 36 #[.slice A n c, .int .i64 h] w fun e w' => e = .returned (.tuple #[.int .i64 0, .int .i64 code]) ∧ Below w.heap.size w w' := by
  have HR := Lib.hid hr
  clear hr
  go_enter Try.func36, Try.ntmps36
  go_wp2_with fail
  refine (countAt1_no A n c X h code _ hn HR.out hv).mono ?_
  rintro e w1 ⟨rfl, b1⟩
  go_wp2
  go_ret2
  exact ⟨rfl, b1⟩

set_option maxHeartbeats 1000000 in
theorem supple_s (A : Option Addr) (n c : Nat) (X : Nat → Int) (h : Int) (w : World) (hn : n ≤ maxLen) (hr : Sl w A n 4 X) (hv : listT n X = true) (h1 : inB h 0 10000 = true) :
    Calls Try.prog 35 #[.slice A n c, .int .i64 h] w fun e w' => e = .returned (.tuple #[.int .i64 (load 1 X n h), .int .i64 0]) ∧ Below w.heap.size w w' := by
  have hn10 := (listT_of hv).1
  have HV := Lib.hid (listT_of hv).2
  have HR := Lib.hid hr
  clear hr
  go_enter Try.func35, Try.ntmps35
  go_wp2_with (first
    | (go_at_call 82; refine (okT_s A n c X _ hn HR.out).mono ?_; rintro e w1 ⟨rfl, b1⟩)
    | (go_at_call 87; refine (hour_s _ _).mono ?_; rintro e w' ⟨rfl, rfl⟩)
    | (go_at_call 91; refine (loadSup_s A n c X h _ (HR.out.below b1 (Nat.le_refl _)) hn10 HV.out).mono ?_; rintro e w2 ⟨rfl, b2⟩))
  go_ret2
  exact ⟨rfl, b1.trans (b2.mono b1.size)⟩

set_option maxHeartbeats 1000000 in
theorem supple_s_no (A : Option Addr) (n c : Nat) (X : Nat → Int) (h code : Int) (w : World) (hn : n ≤ maxLen) (hr : Sl w A n 4 X)
    (hv : listT n X = false ∧ code = 1 ∨ listT n X = true ∧ inB h 0 10000 = false ∧ code = 2) :
    Calls Try.prog 35 #[.slice A n c, .int .i64 h] w fun e w' => e = .returned (.tuple #[.int .i64 0, .int .i64 code]) ∧ Below w.heap.size w w' := by
  have HR := Lib.hid hr
  clear hr
  rcases hv with ⟨hv, rfl⟩ | ⟨hv, h1, rfl⟩
  all_goals
    go_enter Try.func35, Try.ntmps35
    go_wp2_with (first
      | (go_at_call 82; refine (okT_s A n c X _ hn HR.out).mono ?_; rintro e w1 ⟨rfl, b1⟩)
      | (go_at_call 87; refine (hour_s _ _).mono ?_; rintro e w' ⟨rfl, rfl⟩))
    go_ret2
    exact ⟨rfl, b1⟩

end Go.Proofs.Ytcpaenmhnoagdac.rod
