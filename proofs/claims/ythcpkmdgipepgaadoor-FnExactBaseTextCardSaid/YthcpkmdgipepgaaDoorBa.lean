/-
  Contracts of the functions on one base: validity and ends, of the model and of the program. No condition of a statement lies here.
-/
import Derived.Test.YthcpkmdgipepgaaDoorIn
namespace Go.Proofs.YthcpkmdgipepgaaDoor.ba
open Go.ChangeShapes Go.WideShapes Go.ChangeAt Go.RowKit Go.Proofs.YthcpkmdgipepgaaDoor.mem Go.Proofs.YthcpkmdgipepgaaDoor.rod
set_option linter.unusedVariables false

/-- a base is valid -/
def baseB (S M R K : Int) : Bool := inB S 1 12 && (inB M 1 12 && (inB R 10 1000 && inB K 1 50))
theorem baseB_of {S M R K : Int} (h : baseB S M R K = true) : 1 ≤ S ∧ S ≤ 12 ∧ 1 ≤ M ∧ M ≤ 12 ∧ 10 ≤ R ∧ R ≤ 1000 ∧ 1 ≤ K ∧ K ≤ 50 := by
  unfold baseB at h
  simp only [Bool.and_eq_true] at h
  obtain ⟨h1, h2, h3, h4⟩ := h
  obtain ⟨a1, a2⟩ := inB_of h1
  obtain ⟨b1, b2⟩ := inB_of h2
  obtain ⟨c1, c2⟩ := inB_of h3
  obtain ⟨d1, d2⟩ := inB_of h4
  exact ⟨a1, a2, b1, b2, c1, c2, d1, d2⟩

set_option maxHeartbeats 1000000 in
theorem ok_s (b o : Nat) (S M R K : Int) (w : World) (h0 : w.cell? ⟨b, o, none⟩ = some (.int .i64 S)) (h1 : w.cell? ⟨b, o + 1, none⟩ = some (.int .i64 M)) (h2 : w.cell? ⟨b, o + 2, none⟩ = some (.int .i64 R)) (h3 : w.cell? ⟨b, o + 3, none⟩ = some (.int .i64 K)) :
    Calls Tryd.prog 24 #[.pointer (some ⟨b, o, none⟩)] w fun e w' => e = .returned (.bool (baseB S M R K)) ∧ ∃ n, w' = w.drewN n := by
  unfold baseB
  cases k0 : inB S 1 12
  · go_enter Tryd.func24, Tryd.ntmps24
    go_wp2_with (go_at_call 37; refine (in_s _ _ _ _).mono ?_; rintro e w' ⟨rfl, rfl⟩)
    go_ret
    exact ⟨rfl, 0, rfl⟩
  · cases k1 : inB M 1 12
    · go_enter Tryd.func24, Tryd.ntmps24
      go_wp2_with (go_at_call 37; refine (in_s _ _ _ _).mono ?_; rintro e w' ⟨rfl, rfl⟩)
      go_ret
      exact ⟨rfl, 0, rfl⟩
    · cases k2 : inB R 10 1000
      · go_enter Tryd.func24, Tryd.ntmps24
        go_wp2_with (go_at_call 37; refine (in_s _ _ _ _).mono ?_; rintro e w' ⟨rfl, rfl⟩)
        go_ret
        exact ⟨rfl, 0, rfl⟩
      · cases k3 : inB K 1 50
        all_goals
          go_enter Tryd.func24, Tryd.ntmps24
          go_wp2_with (go_at_call 37; refine (in_s _ _ _ _).mono ?_; rintro e w' ⟨rfl, rfl⟩)
          go_ret
          exact ⟨rfl, 0, rfl⟩

set_option maxHeartbeats 1000000 in
theorem valid_i (S M R K : Int) (w : World) :
    Calls Tryd.prog 21 #[.agg #[.int .i64 S, .int .i64 M, .int .i64 R, .int .i64 K]] w fun e w' => e = .returned (.bool (baseB S M R K)) ∧ Below w.heap.size w w' := by
  unfold baseB
  cases k0 : inB S 1 12
  · go_enter Tryd.func21, Tryd.ntmps21
    go_wp2_with (go_at_call 36; refine (in_i _ _ _ _).mono ?_; rintro e w' ⟨rfl, rfl⟩)
    go_ret
    exact ⟨rfl, by go_grown⟩
  · cases k1 : inB M 1 12
    · go_enter Tryd.func21, Tryd.ntmps21
      go_wp2_with (go_at_call 36; refine (in_i _ _ _ _).mono ?_; rintro e w' ⟨rfl, rfl⟩)
      go_ret
      exact ⟨rfl, by go_grown⟩
    · cases k2 : inB R 10 1000
      · go_enter Tryd.func21, Tryd.ntmps21
        go_wp2_with (go_at_call 36; refine (in_i _ _ _ _).mono ?_; rintro e w' ⟨rfl, rfl⟩)
        go_ret
        exact ⟨rfl, by go_grown⟩
      · cases k3 : inB K 1 50
        all_goals
          go_enter Tryd.func21, Tryd.ntmps21
          go_wp2_with (go_at_call 36; refine (in_i _ _ _ _).mono ?_; rintro e w' ⟨rfl, rfl⟩)
          go_ret
          exact ⟨rfl, by go_grown⟩

set_option maxHeartbeats 1000000 in
theorem valid_s (S M R K : Int) (w : World) :
    Calls Tryd.prog 22 #[.agg #[.int .i64 S, .int .i64 M, .int .i64 R, .int .i64 K]] w fun e w' => e = .returned (.bool (baseB S M R K)) ∧ Below w.heap.size w w' := by
  go_enter Tryd.func22, Tryd.ntmps22
  go_wp2_with fail
  refine (ok_s _ _ S M R K _ (by go_simp) (by go_simp) (by go_simp) (by go_simp)).mono ?_
  rintro e w' ⟨rfl, n, rfl⟩
  go_wp2
  go_ret
  exact ⟨rfl, by go_grown; exact drewN_below (by go_grown) _⟩

set_option maxHeartbeats 1000000 in
theorem toBase_c (S M R K : Int) (w : World) :
    Calls Tryd.prog 6 #[.agg #[.int .i64 S, .int .i64 M, .int .i64 R, .int .i64 K]] w fun e w' => e = .returned (.agg #[.int .i64 S, .int .i64 M, .int .i64 R, .int .i64 K]) ∧ Below w.heap.size w w' := by
  go_enter Tryd.func6, Tryd.ntmps6
  go_wp2
  go_returns
  exact ⟨rfl, by go_grown⟩

set_option maxHeartbeats 1000000 in
theorem ends_s (b o : Nat) (S M R K : Int) (w : World) (hr : baseB S M R K = true) (h0 : w.cell? ⟨b, o, none⟩ = some (.int .i64 S)) (h1 : w.cell? ⟨b, o + 1, none⟩ = some (.int .i64 M)) :
    Calls Tryd.prog 39 #[.pointer (some ⟨b, o, none⟩)] w fun e w' => e = .returned (.int .i64 (2 * (S + M))) ∧ ∃ n, w' = w.drewN n := by
  obtain ⟨l1, l2, l3, l4, l5, l6, l7, l8⟩ := baseB_of hr
  have e1 : IntKind.i64.wrap (S + M) = S + M := by rw [IntKind.wrap_i64]; omega
  have e2 : IntKind.i64.wrap (2 * (S + M)) = 2 * (S + M) := by rw [IntKind.wrap_i64]; omega
  go_enter Tryd.func39, Tryd.ntmps39
  go_wp2_with fail
  go_quiet (fail)
  go_wp2
  go_ret
  exact ⟨rfl, _, rfl⟩

set_option maxHeartbeats 1000000 in
theorem ends_i (S M R K : Int) (w : World) (hr : baseB S M R K = true) :
    Calls Tryd.prog 38 #[.agg #[.int .i64 S, .int .i64 M, .int .i64 R, .int .i64 K]] w fun e w' => e = .returned (.int .i64 (2 * (S + M))) ∧ Below w.heap.size w w' := by
  obtain ⟨l1, l2, l3, l4, l5, l6, l7, l8⟩ := baseB_of hr
  have e1 : IntKind.i64.wrap (S + M) = S + M := by rw [IntKind.wrap_i64]; omega
  have e2 : IntKind.i64.wrap (2 * (S + M)) = 2 * (S + M) := by rw [IntKind.wrap_i64]; omega
  go_enter Tryd.func38, Tryd.ntmps38
  go_wp2
  go_ret
  exact ⟨rfl, by go_grown⟩

theorem okB_s (b o : Nat) (S M R K : Int) (w : World) (h0 : w.cell? ⟨b, o, none⟩ = some (.int .i64 S)) (h1 : w.cell? ⟨b, o + 1, none⟩ = some (.int .i64 M)) (h2 : w.cell? ⟨b, o + 2, none⟩ = some (.int .i64 R)) (h3 : w.cell? ⟨b, o + 3, none⟩ = some (.int .i64 K)) :
    Calls Tryd.prog 24 #[.pointer (some ⟨b, o, none⟩)] w fun e w' => e = .returned (.bool (baseB S M R K)) ∧ Below w.heap.size w w' :=
  (ok_s b o S M R K w h0 h1 h2 h3).mono fun e w' ⟨h, n, hn⟩ => ⟨h, hn ▸ drewN_below (Below.refl _ _) n⟩

theorem endsB_s (b o : Nat) (S M R K : Int) (w : World) (hr : baseB S M R K = true) (h0 : w.cell? ⟨b, o, none⟩ = some (.int .i64 S)) (h1 : w.cell? ⟨b, o + 1, none⟩ = some (.int .i64 M)) :
    Calls Tryd.prog 39 #[.pointer (some ⟨b, o, none⟩)] w fun e w' => e = .returned (.int .i64 (2 * (S + M))) ∧ Below w.heap.size w w' :=
  (ends_s b o S M R K w hr h0 h1).mono fun e w' ⟨h, n, hn⟩ => ⟨h, hn ▸ drewN_below (Below.refl _ _) n⟩

end Go.Proofs.YthcpkmdgipepgaaDoor.ba
