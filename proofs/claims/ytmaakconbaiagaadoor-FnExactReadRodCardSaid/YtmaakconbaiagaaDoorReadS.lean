/-
  The model's reading of a rod.
-/
import Derived.Test.YtmaakconbaiagaaDoorReadPure
import Derived.Test.YtmaakconbaiagaaDoorNumI
namespace Go.Proofs.YtmaakconbaiagaaDoor.num
open Go.ChangeShapes Go.WideShapes Go.ChangeAt Go.RowKit
open Go.Proofs.YtmaakconbaiagaaDoor.mem Go.Proofs.YtmaakconbaiagaaDoor.dec Go.Proofs.YtmaakconbaiagaaDoor.split Go.Proofs.YtmaakconbaiagaaDoor.rod
set_option linter.unusedVariables false

theorem owns_parts {w : World} {B : Nat} {E : TypeId} {v : Value} {ps : List (List UInt8)} (h : w.ownsRow B E 1 v ps.length (ps.map strV)) (hne : ps ≠ []) :
    ∃ g cap, v = .slice (some ⟨g, 0, none⟩) ps.length cap ∧ B ≤ g ∧ g < w.heap.size ∧ ps.length ≤ cap ∧ cap ≤ maxLen ∧ ∀ j p, ps[j]? = some p → w.cell? ⟨g, j, none⟩ = some (.string ⟨p.toArray⟩) := by
  obtain ⟨hl, h⟩ := h
  rcases h with ⟨rfl, h0⟩ | ⟨g, cap, cur, rfl, hB, hh, hc, hm, hs, ht⟩
  · exact absurd (List.eq_nil_of_length_eq_zero h0) hne
  · refine ⟨g, cap, rfl, hB, ?_, hc, hm, fun j p hj => ?_⟩
    · obtain ⟨hlt, _⟩ := Array.getElem?_eq_some_iff.1 hh
      exact hlt
    · have hj1 : j < ps.length := (List.getElem?_eq_some_iff.1 hj).1
      have e2 : cur.toList[j]? = (cur.toList.take (ps.length * 1))[j]? := by rw [List.getElem?_take_of_lt (by omega)]
      have e3 : cur[j]? = some (strV p) := by
        rw [← Array.getElem?_toList, e2, ht, List.getElem?_map, hj]
        rfl
      simp [World.cell?, hh, e3]
      rfl
theorem split_32 (s : ByteArray) (hs : s.size ≤ 1048576) (w : World) :
    Calls Tryd.prog 33 #[.string s, .int .u8 32] w fun e w' => ∃ g cap, e = .returned (.slice (some ⟨g, 0, none⟩) (split 32 s.data.toList).length cap) ∧ g < w'.heap.size ∧ (split 32 s.data.toList).length ≤ cap ∧ cap ≤ maxLen ∧ (∀ j p, (split 32 s.data.toList)[j]? = some p → w'.cell? ⟨g, j, none⟩ = some (.string ⟨p.toArray⟩)) ∧ Below w.heap.size w w' :=
  (split_s s 32 hs w).mono fun e w' ⟨v, he, ho, hb⟩ => by
    obtain ⟨g, cap, rfl, _, hg, hc, hm, hcell⟩ := owns_parts ho (splitA_ne _ _ _)
    exact ⟨g, cap, he, hg, hc, hm, hcell, hb⟩
theorem split_45 (s : ByteArray) (hs : s.size ≤ 1048576) (w : World) :
    Calls Tryd.prog 33 #[.string s, .int .u8 45] w fun e w' => ∃ g cap, e = .returned (.slice (some ⟨g, 0, none⟩) (split 45 s.data.toList).length cap) ∧ g < w'.heap.size ∧ (split 45 s.data.toList).length ≤ cap ∧ cap ≤ maxLen ∧ (∀ j p, (split 45 s.data.toList)[j]? = some p → w'.cell? ⟨g, j, none⟩ = some (.string ⟨p.toArray⟩)) ∧ Below w.heap.size w w' :=
  (split_s s 45 hs w).mono fun e w' ⟨v, he, ho, hb⟩ => by
    obtain ⟨g, cap, rfl, _, hg, hc, hm, hcell⟩ := owns_parts ho (splitA_ne _ _ _)
    exact ⟨g, cap, he, hg, hc, hm, hcell, hb⟩
theorem splitA_len (d : UInt8) (l : List UInt8) : ∀ cur p, p ∈ splitA d cur l → p.length ≤ cur.length + l.length := by
  induction l with
  | nil =>
    intro cur p h
    rw [splitA, List.mem_singleton] at h
    subst h
    simp
  | cons c r ih =>
    intro cur p h
    rw [splitA] at h
    split at h
    · rcases List.mem_cons.1 h with h | h
      · subst h; simp
      · have := ih [] p h
        simp at this ⊢
        omega
    · have := ih _ p h
      simp at this ⊢
      omega
theorem split_len {d : UInt8} {l p : List UInt8} (h : p ∈ split d l) : p.length ≤ l.length := by
  have := splitA_len d l [] p h
  simpa using this
theorem arr_size (p : List UInt8) : (⟨p.toArray⟩ : ByteArray).size = p.length := by show p.toArray.size = _; simp
theorem number_p (p : List UInt8) (n : Int) (b : Bool) (R : ByteArray) (hR : R = ⟨p.toArray⟩) (hp : p.length ≤ 1048576) (ha : ans p = (n, b)) (w : World) :
    Calls Tryd.prog 27 #[.string R] w fun e w' => e = .returned (.tuple #[.int .i64 n, .bool b]) ∧ Below w.heap.size w w' := by
  subst hR
  have h := number_s ⟨p.toArray⟩ (by rw [arr_size]; omega) w
  have e : (⟨p.toArray⟩ : ByteArray).data.toList = p := rfl
  rw [e, ha] at h
  exact h

/-- the answer: the rod and true, or no rod -/
def retV : Option (Int × Int × Int) → Value
  | some (L, B, T) => .tuple #[.agg #[.int .i64 L, .int .i64 B, .int .i64 T], .bool true]
  | none => .tuple #[.agg #[.int .i64 0, .int .i64 0, .int .i64 0], .bool false]
theorem readR_len {l : List UInt8} (h : (split 32 l).length ≠ 3) : readR l = none := by
  unfold readR
  split
  · rename_i hs; rw [hs] at h; exact absurd rfl h
  · rfl
theorem readR_mid {l a m c : List UInt8} (h : split 32 l = [a, m, c]) (hm : m ≠ [109, 109]) : readR l = none := by
  unfold readR
  rw [h]
  simp only []
  rw [if_neg hm]
theorem readR_two {l a c : List UInt8} (h : split 32 l = [a, [109, 109], c]) (h2 : (split 45 c).length ≠ 2) : readR l = none := by
  unfold readR
  rw [h]
  simp only []
  rw [if_pos trivial]
  split
  · rename_i hs; rw [hs] at h2; exact absurd rfl h2
  · rfl
theorem readR_all {l a c b t : List UInt8} (h : split 32 l = [a, [109, 109], c]) (h2 : split 45 c = [b, t]) : readR l = if (ans a).2 = true ∧ (ans b).2 = true ∧ (ans t).2 = true then rodOf (ans a).1 (ans b).1 (ans t).1 else none := by
  unfold readR
  rw [h]
  simp only []
  rw [if_pos trivial, h2]

theorem bset {B : Nat} {w w' : World} (h : Below B w w') (a : Addr) (v : Value) (ha : B ≤ a.block) : Below B w (w'.setCell a v) :=
  ⟨h.os, h.tape, h.output, by simpa using h.size, fun k hk => (Below.heap_setCell _ _ _ _ (fun e => by omega)).trans (h.block k hk)⟩

set_option maxHeartbeats 4000000 in
set_option maxRecDepth 100000 in
theorem rod_s_len (s : ByteArray) (hs : s.size ≤ 1048576) (h3 : (split 32 s.data.toList).length ≠ 3) (w : World) :
    Calls Tryd.prog 15 #[.string s] w fun e w' => e = .returned (retV (none)) ∧ Below w.heap.size w w' := by
  have HS := Lib.hid (fun W => split_32 s hs W)
  generalize (split 32 s.data.toList).length = n at *
  have h3a : ((n : Int) == 3) = false := by simp; omega
  have h3b : ((n : Int) != 3) = true := by simp; omega
  go_enter Tryd.func15, Tryd.ntmps15
  go_wp2_with fail
  refine (HS.out _).mono ?_
  rintro e w1 ⟨g, cap, rfl, hg, hc, hm, hcell, hb⟩
  have x1 := hb.size
  simp at x1
  have r0 : w1.cell? ⟨w.heap.size, 0, none⟩ = some (.int .i64 0) := by rw [(bcell hb).1 _ _ (by simp <;> omega)]; go_simp
  have r1 : w1.cell? ⟨w.heap.size, 1, none⟩ = some (.int .i64 0) := by rw [(bcell hb).1 _ _ (by simp <;> omega)]; go_simp
  have r2 : w1.cell? ⟨w.heap.size, 2, none⟩ = some (.int .i64 0) := by rw [(bcell hb).1 _ _ (by simp <;> omega)]; go_simp
  have f0 : w1.frozen? ⟨w.heap.size, 0, none⟩ = false := by rw [(bcell hb).2 _ _ (by simp <;> omega)]; go_simp
  have f1 : w1.frozen? ⟨w.heap.size, 1, none⟩ = false := by rw [(bcell hb).2 _ _ (by simp <;> omega)]; go_simp
  have f2 : w1.frozen? ⟨w.heap.size, 2, none⟩ = false := by rw [(bcell hb).2 _ _ (by simp <;> omega)]; go_simp
  have B1 : Below w.heap.size w w1 := Below.trans (by go_grown) (hb.mono (by simp))
  clear hb
  clear hcell
  go_wp2
  try simp only [Exit.inBlock, Exit.then]
  refine bodyPost_ret (by simp [results, Tryd.results15, go_sem, r0, r1, r2]; try rfl) rfl ?_
  exact ⟨rfl, bset (bset (bset B1 _ _ (by simp)) _ _ (by simp)) _ _ (by simp)⟩

set_option maxHeartbeats 4000000 in
set_option maxRecDepth 100000 in
theorem rod_s_mid (s : ByteArray) (hs : s.size ≤ 1048576) (a m c : List UInt8) (h3 : split 32 s.data.toList = [a, m, c]) (hm0 : m ≠ [109, 109]) (w : World) :
    Calls Tryd.prog 15 #[.string s] w fun e w' => e = .returned (retV (none)) ∧ Below w.heap.size w w' := by
  have HS := Lib.hid (fun W => split_32 s hs W)
  rw [h3] at HS
  obtain ⟨M, hM⟩ : ∃ M : ByteArray, M = ⟨m.toArray⟩ := ⟨_, rfl⟩
  have hMl : M.toList = m := by rw [hM, ByteArray.toList_eq]
  have e1 : (M.toList == [109, 109]) = false := by rw [hMl]; simpa using hm0
  have e2 : (M.toList != [109, 109]) = true := by rw [bne, e1]; rfl
  have e3 : ¬ M.toList = [109, 109] := by rw [hMl]; exact hm0
  go_enter Tryd.func15, Tryd.ntmps15
  go_wp2_with fail
  refine (HS.out _).mono ?_
  rintro e w1 ⟨g, cap, rfl, hg, hc, hm, hcell, hb⟩
  have x1 := hb.size
  simp at x1
  have r0 : w1.cell? ⟨w.heap.size, 0, none⟩ = some (.int .i64 0) := by rw [(bcell hb).1 _ _ (by simp <;> omega)]; go_simp
  have r1 : w1.cell? ⟨w.heap.size, 1, none⟩ = some (.int .i64 0) := by rw [(bcell hb).1 _ _ (by simp <;> omega)]; go_simp
  have r2 : w1.cell? ⟨w.heap.size, 2, none⟩ = some (.int .i64 0) := by rw [(bcell hb).1 _ _ (by simp <;> omega)]; go_simp
  have f0 : w1.frozen? ⟨w.heap.size, 0, none⟩ = false := by rw [(bcell hb).2 _ _ (by simp <;> omega)]; go_simp
  have f1 : w1.frozen? ⟨w.heap.size, 1, none⟩ = false := by rw [(bcell hb).2 _ _ (by simp <;> omega)]; go_simp
  have f2 : w1.frozen? ⟨w.heap.size, 2, none⟩ = false := by rw [(bcell hb).2 _ _ (by simp <;> omega)]; go_simp
  have B1 : Below w.heap.size w w1 := Below.trans (by go_grown) (hb.mono (by simp))
  clear hb
  have k1 := hcell 1 m rfl
  rw [← hM] at k1
  clear hcell hM hMl
  simp only [List.length_cons, List.length_nil, Nat.zero_add, Nat.reduceAdd] at hc ⊢
  go_wp2
  try simp only [Exit.inBlock, Exit.then]
  refine bodyPost_ret (by simp [results, Tryd.results15, go_sem, r0, r1, r2]; try rfl) rfl ?_
  exact ⟨rfl, bset (bset (bset B1 _ _ (by simp)) _ _ (by simp)) _ _ (by simp)⟩

set_option maxHeartbeats 4000000 in
set_option maxRecDepth 100000 in
theorem rod_s_two (s : ByteArray) (hs : s.size ≤ 1048576) (a c : List UInt8) (h3 : split 32 s.data.toList = [a, [109, 109], c]) (h2 : (split 45 c).length ≠ 2) (w : World) :
    Calls Tryd.prog 15 #[.string s] w fun e w' => e = .returned (retV (none)) ∧ Below w.heap.size w w' := by
  have HS := Lib.hid (fun W => split_32 s hs W)
  rw [h3] at HS
  obtain ⟨M, hM⟩ : ∃ M : ByteArray, M = ⟨([109, 109] : List UInt8).toArray⟩ := ⟨_, rfl⟩
  have hMl : M.toList = [109, 109] := by rw [hM, ByteArray.toList_eq]
  have e1 : (M.toList == [109, 109]) = true := by rw [hMl]; rfl
  have e2 : (M.toList != [109, 109]) = false := by rw [bne, e1]; rfl
  have hcl : c.length ≤ s.data.toList.length := split_len (d := 32) (by rw [h3]; simp)
  rw [size_len] at hcl
  obtain ⟨C, hC⟩ : ∃ C : ByteArray, C = ⟨c.toArray⟩ := ⟨_, rfl⟩
  have HC := Lib.hid (fun W => split_45 C (by rw [hC, arr_size]; omega) W)
  have hCl : C.data.toList = c := by rw [hC]
  rw [hCl] at HC
  generalize (split 45 c).length = n at *
  have h2a : ((n : Int) == 2) = false := by simp; omega
  have h2b : ((n : Int) != 2) = true := by simp; omega
  go_enter Tryd.func15, Tryd.ntmps15
  go_wp2_with fail
  refine (HS.out _).mono ?_
  rintro e w1 ⟨g, cap, rfl, hg, hc, hm, hcell, hb⟩
  have x1 := hb.size
  simp at x1
  have r0 : w1.cell? ⟨w.heap.size, 0, none⟩ = some (.int .i64 0) := by rw [(bcell hb).1 _ _ (by simp <;> omega)]; go_simp
  have r1 : w1.cell? ⟨w.heap.size, 1, none⟩ = some (.int .i64 0) := by rw [(bcell hb).1 _ _ (by simp <;> omega)]; go_simp
  have r2 : w1.cell? ⟨w.heap.size, 2, none⟩ = some (.int .i64 0) := by rw [(bcell hb).1 _ _ (by simp <;> omega)]; go_simp
  have f0 : w1.frozen? ⟨w.heap.size, 0, none⟩ = false := by rw [(bcell hb).2 _ _ (by simp <;> omega)]; go_simp
  have f1 : w1.frozen? ⟨w.heap.size, 1, none⟩ = false := by rw [(bcell hb).2 _ _ (by simp <;> omega)]; go_simp
  have f2 : w1.frozen? ⟨w.heap.size, 2, none⟩ = false := by rw [(bcell hb).2 _ _ (by simp <;> omega)]; go_simp
  have B1 : Below w.heap.size w w1 := Below.trans (by go_grown) (hb.mono (by simp))
  clear hb
  have k1 := hcell 1 _ rfl
  have k2 := hcell 2 _ rfl
  rw [← hM] at k1
  rw [← hC] at k2
  clear hcell hM hMl hC hCl
  simp only [List.length_cons, List.length_nil, Nat.zero_add, Nat.reduceAdd] at hc ⊢
  go_wp2_with fail
  refine (HC.out _).mono ?_
  rintro e w2 ⟨g2, cap2, rfl, hg2, hc2, hm2, hcell2, hb2⟩
  have x2 := hb2.size
  have r0 : w2.cell? ⟨w.heap.size, 0, none⟩ = some (.int .i64 0) := by rw [(bcell hb2).1 _ _ (by omega)]; exact r0
  have f0 : w2.frozen? ⟨w.heap.size, 0, none⟩ = false := by rw [(bcell hb2).2 _ _ (by omega)]; exact f0
  have r1 : w2.cell? ⟨w.heap.size, 1, none⟩ = some (.int .i64 0) := by rw [(bcell hb2).1 _ _ (by omega)]; exact r1
  have f1 : w2.frozen? ⟨w.heap.size, 1, none⟩ = false := by rw [(bcell hb2).2 _ _ (by omega)]; exact f1
  have r2 : w2.cell? ⟨w.heap.size, 2, none⟩ = some (.int .i64 0) := by rw [(bcell hb2).1 _ _ (by omega)]; exact r2
  have f2 : w2.frozen? ⟨w.heap.size, 2, none⟩ = false := by rw [(bcell hb2).2 _ _ (by omega)]; exact f2
  have B2 : Below w.heap.size w w2 := B1.trans (hb2.mono (by omega))
  clear hb2 hcell2
  go_wp2
  try simp only [Exit.inBlock, Exit.then]
  refine bodyPost_ret (by simp [results, Tryd.results15, go_sem, r0, r1, r2]; try rfl) rfl ?_
  exact ⟨rfl, bset (bset (bset B2 _ _ (by simp)) _ _ (by simp)) _ _ (by simp)⟩

set_option maxHeartbeats 4000000 in
set_option maxRecDepth 100000 in
theorem rod_s_bad (s : ByteArray) (hs : s.size ≤ 1048576) (a c b t : List UInt8) (h3 : split 32 s.data.toList = [a, [109, 109], c]) (h2 : split 45 c = [b, t]) (na nb nt : Int) (ha : ans a = (na, true)) (hbb : ans b = (nb, true)) (htt : ans t = (nt, true)) (hr : rodB na nb nt = false) (w : World) :
    Calls Tryd.prog 15 #[.string s] w fun e w' => e = .returned (retV (none)) ∧ Below w.heap.size w w' := by
  have HS := Lib.hid (fun W => split_32 s hs W)
  rw [h3] at HS
  obtain ⟨M, hM⟩ : ∃ M : ByteArray, M = ⟨([109, 109] : List UInt8).toArray⟩ := ⟨_, rfl⟩
  have hMl : M.toList = [109, 109] := by rw [hM, ByteArray.toList_eq]
  have e1 : (M.toList == [109, 109]) = true := by rw [hMl]; rfl
  have e2 : (M.toList != [109, 109]) = false := by rw [bne, e1]; rfl
  have hcl : c.length ≤ s.data.toList.length := split_len (d := 32) (by rw [h3]; simp)
  rw [size_len] at hcl
  obtain ⟨C, hC⟩ : ∃ C : ByteArray, C = ⟨c.toArray⟩ := ⟨_, rfl⟩
  have HC := Lib.hid (fun W => split_45 C (by rw [hC, arr_size]; omega) W)
  have hCl : C.data.toList = c := by rw [hC]
  rw [hCl] at HC
  rw [h2] at HC
  have hal : a.length ≤ s.data.toList.length := split_len (d := 32) (by rw [h3]; simp)
  have hbl : b.length ≤ c.length := split_len (d := 45) (by rw [h2]; simp)
  have htl : t.length ≤ c.length := split_len (d := 45) (by rw [h2]; simp)
  rw [size_len] at hal
  obtain ⟨A, hA⟩ : ∃ A : ByteArray, A = ⟨a.toArray⟩ := ⟨_, rfl⟩
  obtain ⟨B, hB⟩ : ∃ B : ByteArray, B = ⟨b.toArray⟩ := ⟨_, rfl⟩
  obtain ⟨T, hT⟩ : ∃ T : ByteArray, T = ⟨t.toArray⟩ := ⟨_, rfl⟩
  have HNA := Lib.hid (fun W => number_p a na _ A hA (by omega) ha W)
  have HNB := Lib.hid (fun W => number_p b nb _ B hB (by omega) hbb W)
  have HNT := Lib.hid (fun W => number_p t nt _ T hT (by omega) htt W)
  go_enter Tryd.func15, Tryd.ntmps15
  go_wp2_with fail
  refine (HS.out _).mono ?_
  rintro e w1 ⟨g, cap, rfl, hg, hc, hm, hcell, hb⟩
  have x1 := hb.size
  simp at x1
  have r0 : w1.cell? ⟨w.heap.size, 0, none⟩ = some (.int .i64 0) := by rw [(bcell hb).1 _ _ (by simp <;> omega)]; go_simp
  have r1 : w1.cell? ⟨w.heap.size, 1, none⟩ = some (.int .i64 0) := by rw [(bcell hb).1 _ _ (by simp <;> omega)]; go_simp
  have r2 : w1.cell? ⟨w.heap.size, 2, none⟩ = some (.int .i64 0) := by rw [(bcell hb).1 _ _ (by simp <;> omega)]; go_simp
  have f0 : w1.frozen? ⟨w.heap.size, 0, none⟩ = false := by rw [(bcell hb).2 _ _ (by simp <;> omega)]; go_simp
  have f1 : w1.frozen? ⟨w.heap.size, 1, none⟩ = false := by rw [(bcell hb).2 _ _ (by simp <;> omega)]; go_simp
  have f2 : w1.frozen? ⟨w.heap.size, 2, none⟩ = false := by rw [(bcell hb).2 _ _ (by simp <;> omega)]; go_simp
  have B1 : Below w.heap.size w w1 := Below.trans (by go_grown) (hb.mono (by simp))
  clear hb
  have k0 := hcell 0 _ rfl
  rw [← hA] at k0
  have k1 := hcell 1 _ rfl
  have k2 := hcell 2 _ rfl
  rw [← hM] at k1
  rw [← hC] at k2
  clear hcell hM hMl hC hCl
  simp only [List.length_cons, List.length_nil, Nat.zero_add, Nat.reduceAdd] at hc ⊢
  go_wp2_with fail
  refine (HC.out _).mono ?_
  rintro e w2 ⟨g2, cap2, rfl, hg2, hc2, hm2, hcell2, hb2⟩
  have x2 := hb2.size
  have r0 : w2.cell? ⟨w.heap.size, 0, none⟩ = some (.int .i64 0) := by rw [(bcell hb2).1 _ _ (by omega)]; exact r0
  have f0 : w2.frozen? ⟨w.heap.size, 0, none⟩ = false := by rw [(bcell hb2).2 _ _ (by omega)]; exact f0
  have r1 : w2.cell? ⟨w.heap.size, 1, none⟩ = some (.int .i64 0) := by rw [(bcell hb2).1 _ _ (by omega)]; exact r1
  have f1 : w2.frozen? ⟨w.heap.size, 1, none⟩ = false := by rw [(bcell hb2).2 _ _ (by omega)]; exact f1
  have r2 : w2.cell? ⟨w.heap.size, 2, none⟩ = some (.int .i64 0) := by rw [(bcell hb2).1 _ _ (by omega)]; exact r2
  have f2 : w2.frozen? ⟨w.heap.size, 2, none⟩ = false := by rw [(bcell hb2).2 _ _ (by omega)]; exact f2
  have B2 : Below w.heap.size w w2 := B1.trans (hb2.mono (by omega))
  have k0' : w2.cell? ⟨g, 0, none⟩ = some (.string A) := by rw [(bcell hb2).1 _ _ (by omega)]; exact k0
  have m0 := hcell2 0 _ rfl
  have m1 := hcell2 1 _ rfl
  rw [← hB] at m0
  rw [← hT] at m1
  clear hb2 hcell2 hA hB hT k0
  simp only [List.length_cons, List.length_nil, Nat.zero_add, Nat.reduceAdd] at hc2 ⊢
  go_wp2_with fail
  refine (HNA.out _).mono ?_
  rintro e w3 ⟨rfl, hb3⟩
  have x3 := hb3.size
  have m0' : w3.cell? ⟨g2, 0, none⟩ = some (.string B) := by rw [(bcell hb3).1 _ _ (by omega)]; exact m0
  have m1' : w3.cell? ⟨g2, 1, none⟩ = some (.string T) := by rw [(bcell hb3).1 _ _ (by omega)]; exact m1
  have r0 : w3.cell? ⟨w.heap.size, 0, none⟩ = some (.int .i64 0) := by rw [(bcell hb3).1 _ _ (by omega)]; exact r0
  have f0 : w3.frozen? ⟨w.heap.size, 0, none⟩ = false := by rw [(bcell hb3).2 _ _ (by omega)]; exact f0
  have r1 : w3.cell? ⟨w.heap.size, 1, none⟩ = some (.int .i64 0) := by rw [(bcell hb3).1 _ _ (by omega)]; exact r1
  have f1 : w3.frozen? ⟨w.heap.size, 1, none⟩ = false := by rw [(bcell hb3).2 _ _ (by omega)]; exact f1
  have r2 : w3.cell? ⟨w.heap.size, 2, none⟩ = some (.int .i64 0) := by rw [(bcell hb3).1 _ _ (by omega)]; exact r2
  have f2 : w3.frozen? ⟨w.heap.size, 2, none⟩ = false := by rw [(bcell hb3).2 _ _ (by omega)]; exact f2
  have B3 : Below w.heap.size w w3 := B2.trans (hb3.mono (by omega))
  clear hb3
  go_wp2_with fail
  refine (HNB.out _).mono ?_
  rintro e w4 ⟨rfl, hb4⟩
  have x4 := hb4.size
  have m1'' : w4.cell? ⟨g2, 1, none⟩ = some (.string T) := by rw [(bcell hb4).1 _ _ (by omega)]; exact m1'
  have r0 : w4.cell? ⟨w.heap.size, 0, none⟩ = some (.int .i64 0) := by rw [(bcell hb4).1 _ _ (by omega)]; exact r0
  have f0 : w4.frozen? ⟨w.heap.size, 0, none⟩ = false := by rw [(bcell hb4).2 _ _ (by omega)]; exact f0
  have r1 : w4.cell? ⟨w.heap.size, 1, none⟩ = some (.int .i64 0) := by rw [(bcell hb4).1 _ _ (by omega)]; exact r1
  have f1 : w4.frozen? ⟨w.heap.size, 1, none⟩ = false := by rw [(bcell hb4).2 _ _ (by omega)]; exact f1
  have r2 : w4.cell? ⟨w.heap.size, 2, none⟩ = some (.int .i64 0) := by rw [(bcell hb4).1 _ _ (by omega)]; exact r2
  have f2 : w4.frozen? ⟨w.heap.size, 2, none⟩ = false := by rw [(bcell hb4).2 _ _ (by omega)]; exact f2
  have B4 : Below w.heap.size w w4 := B3.trans (hb4.mono (by omega))
  clear hb4
  go_wp2_with fail
  refine (HNT.out _).mono ?_
  rintro e w5 ⟨rfl, hb5⟩
  have x5 := hb5.size
  have r0 : w5.cell? ⟨w.heap.size, 0, none⟩ = some (.int .i64 0) := by rw [(bcell hb5).1 _ _ (by omega)]; exact r0
  have f0 : w5.frozen? ⟨w.heap.size, 0, none⟩ = false := by rw [(bcell hb5).2 _ _ (by omega)]; exact f0
  have r1 : w5.cell? ⟨w.heap.size, 1, none⟩ = some (.int .i64 0) := by rw [(bcell hb5).1 _ _ (by omega)]; exact r1
  have f1 : w5.frozen? ⟨w.heap.size, 1, none⟩ = false := by rw [(bcell hb5).2 _ _ (by omega)]; exact f1
  have r2 : w5.cell? ⟨w.heap.size, 2, none⟩ = some (.int .i64 0) := by rw [(bcell hb5).1 _ _ (by omega)]; exact r2
  have f2 : w5.frozen? ⟨w.heap.size, 2, none⟩ = false := by rw [(bcell hb5).2 _ _ (by omega)]; exact f2
  have B5 : Below w.heap.size w w5 := B4.trans (hb5.mono (by omega))
  clear hb5
  have hz5 : w.heap.size ≤ w5.heap.size := by omega
  have hn5 : ¬ w.heap.size = w5.heap.size := by omega
  have hn5' : ¬ w5.heap.size = w.heap.size := by omega
  have hl5 : w.heap.size < w5.heap.size := by omega
  go_wp2_with fail
  refine (one_s _ _ na nb nt _ (by go_simp) (by go_simp) (by go_simp)).mono ?_
  rintro e w6 ⟨rfl, n, hw6⟩
  have b6 : Below w5.heap.size w5 w6 := by rw [hw6]; exact drewN_below (by go_grown) _
  have x6 := b6.size
  have q0 : w6.cell? ⟨w5.heap.size, 0, none⟩ = some (.int .i64 na) := by rw [hw6]; go_simp
  have q1 : w6.cell? ⟨w5.heap.size, 1, none⟩ = some (.int .i64 nb) := by rw [hw6]; go_simp
  have q2 : w6.cell? ⟨w5.heap.size, 2, none⟩ = some (.int .i64 nt) := by rw [hw6]; go_simp
  have r0 : w6.cell? ⟨w.heap.size, 0, none⟩ = some (.int .i64 0) := by rw [(bcell b6).1 _ _ (by omega)]; exact r0
  have f0 : w6.frozen? ⟨w.heap.size, 0, none⟩ = false := by rw [(bcell b6).2 _ _ (by omega)]; exact f0
  have r1 : w6.cell? ⟨w.heap.size, 1, none⟩ = some (.int .i64 0) := by rw [(bcell b6).1 _ _ (by omega)]; exact r1
  have f1 : w6.frozen? ⟨w.heap.size, 1, none⟩ = false := by rw [(bcell b6).2 _ _ (by omega)]; exact f1
  have r2 : w6.cell? ⟨w.heap.size, 2, none⟩ = some (.int .i64 0) := by rw [(bcell b6).1 _ _ (by omega)]; exact r2
  have f2 : w6.frozen? ⟨w.heap.size, 2, none⟩ = false := by rw [(bcell b6).2 _ _ (by omega)]; exact f2
  have B6 : Below w.heap.size w w6 := B5.trans (b6.mono (by omega))
  clear b6 hw6
  go_wp2
  try simp only [Exit.inBlock, Exit.then]
  refine bodyPost_ret (by simp [results, Tryd.results15, go_sem, r0, r1, r2]; try rfl) rfl ?_
  exact ⟨rfl, bset (bset (bset B6 _ _ (by simp)) _ _ (by simp)) _ _ (by simp)⟩

set_option maxHeartbeats 4000000 in
set_option maxRecDepth 100000 in
theorem rod_s_yes (s : ByteArray) (hs : s.size ≤ 1048576) (a c b t : List UInt8) (h3 : split 32 s.data.toList = [a, [109, 109], c]) (h2 : split 45 c = [b, t]) (na nb nt : Int) (ha : ans a = (na, true)) (hbb : ans b = (nb, true)) (htt : ans t = (nt, true)) (hr : rodB na nb nt = true) (w : World) :
    Calls Tryd.prog 15 #[.string s] w fun e w' => e = .returned (retV (some (na, nb, nt))) ∧ Below w.heap.size w w' := by
  have HS := Lib.hid (fun W => split_32 s hs W)
  rw [h3] at HS
  obtain ⟨M, hM⟩ : ∃ M : ByteArray, M = ⟨([109, 109] : List UInt8).toArray⟩ := ⟨_, rfl⟩
  have hMl : M.toList = [109, 109] := by rw [hM, ByteArray.toList_eq]
  have e1 : (M.toList == [109, 109]) = true := by rw [hMl]; rfl
  have e2 : (M.toList != [109, 109]) = false := by rw [bne, e1]; rfl
  have hcl : c.length ≤ s.data.toList.length := split_len (d := 32) (by rw [h3]; simp)
  rw [size_len] at hcl
  obtain ⟨C, hC⟩ : ∃ C : ByteArray, C = ⟨c.toArray⟩ := ⟨_, rfl⟩
  have HC := Lib.hid (fun W => split_45 C (by rw [hC, arr_size]; omega) W)
  have hCl : C.data.toList = c := by rw [hC]
  rw [hCl] at HC
  rw [h2] at HC
  have hal : a.length ≤ s.data.toList.length := split_len (d := 32) (by rw [h3]; simp)
  have hbl : b.length ≤ c.length := split_len (d := 45) (by rw [h2]; simp)
  have htl : t.length ≤ c.length := split_len (d := 45) (by rw [h2]; simp)
  rw [size_len] at hal
  obtain ⟨A, hA⟩ : ∃ A : ByteArray, A = ⟨a.toArray⟩ := ⟨_, rfl⟩
  obtain ⟨B, hB⟩ : ∃ B : ByteArray, B = ⟨b.toArray⟩ := ⟨_, rfl⟩
  obtain ⟨T, hT⟩ : ∃ T : ByteArray, T = ⟨t.toArray⟩ := ⟨_, rfl⟩
  have HNA := Lib.hid (fun W => number_p a na _ A hA (by omega) ha W)
  have HNB := Lib.hid (fun W => number_p b nb _ B hB (by omega) hbb W)
  have HNT := Lib.hid (fun W => number_p t nt _ T hT (by omega) htt W)
  go_enter Tryd.func15, Tryd.ntmps15
  go_wp2_with fail
  refine (HS.out _).mono ?_
  rintro e w1 ⟨g, cap, rfl, hg, hc, hm, hcell, hb⟩
  have x1 := hb.size
  simp at x1
  have r0 : w1.cell? ⟨w.heap.size, 0, none⟩ = some (.int .i64 0) := by rw [(bcell hb).1 _ _ (by simp <;> omega)]; go_simp
  have r1 : w1.cell? ⟨w.heap.size, 1, none⟩ = some (.int .i64 0) := by rw [(bcell hb).1 _ _ (by simp <;> omega)]; go_simp
  have r2 : w1.cell? ⟨w.heap.size, 2, none⟩ = some (.int .i64 0) := by rw [(bcell hb).1 _ _ (by simp <;> omega)]; go_simp
  have f0 : w1.frozen? ⟨w.heap.size, 0, none⟩ = false := by rw [(bcell hb).2 _ _ (by simp <;> omega)]; go_simp
  have f1 : w1.frozen? ⟨w.heap.size, 1, none⟩ = false := by rw [(bcell hb).2 _ _ (by simp <;> omega)]; go_simp
  have f2 : w1.frozen? ⟨w.heap.size, 2, none⟩ = false := by rw [(bcell hb).2 _ _ (by simp <;> omega)]; go_simp
  have B1 : Below w.heap.size w w1 := Below.trans (by go_grown) (hb.mono (by simp))
  clear hb
  have k0 := hcell 0 _ rfl
  rw [← hA] at k0
  have k1 := hcell 1 _ rfl
  have k2 := hcell 2 _ rfl
  rw [← hM] at k1
  rw [← hC] at k2
  clear hcell hM hMl hC hCl
  simp only [List.length_cons, List.length_nil, Nat.zero_add, Nat.reduceAdd] at hc ⊢
  go_wp2_with fail
  refine (HC.out _).mono ?_
  rintro e w2 ⟨g2, cap2, rfl, hg2, hc2, hm2, hcell2, hb2⟩
  have x2 := hb2.size
  have r0 : w2.cell? ⟨w.heap.size, 0, none⟩ = some (.int .i64 0) := by rw [(bcell hb2).1 _ _ (by omega)]; exact r0
  have f0 : w2.frozen? ⟨w.heap.size, 0, none⟩ = false := by rw [(bcell hb2).2 _ _ (by omega)]; exact f0
  have r1 : w2.cell? ⟨w.heap.size, 1, none⟩ = some (.int .i64 0) := by rw [(bcell hb2).1 _ _ (by omega)]; exact r1
  have f1 : w2.frozen? ⟨w.heap.size, 1, none⟩ = false := by rw [(bcell hb2).2 _ _ (by omega)]; exact f1
  have r2 : w2.cell? ⟨w.heap.size, 2, none⟩ = some (.int .i64 0) := by rw [(bcell hb2).1 _ _ (by omega)]; exact r2
  have f2 : w2.frozen? ⟨w.heap.size, 2, none⟩ = false := by rw [(bcell hb2).2 _ _ (by omega)]; exact f2
  have B2 : Below w.heap.size w w2 := B1.trans (hb2.mono (by omega))
  have k0' : w2.cell? ⟨g, 0, none⟩ = some (.string A) := by rw [(bcell hb2).1 _ _ (by omega)]; exact k0
  have m0 := hcell2 0 _ rfl
  have m1 := hcell2 1 _ rfl
  rw [← hB] at m0
  rw [← hT] at m1
  clear hb2 hcell2 hA hB hT k0
  simp only [List.length_cons, List.length_nil, Nat.zero_add, Nat.reduceAdd] at hc2 ⊢
  go_wp2_with fail
  refine (HNA.out _).mono ?_
  rintro e w3 ⟨rfl, hb3⟩
  have x3 := hb3.size
  have m0' : w3.cell? ⟨g2, 0, none⟩ = some (.string B) := by rw [(bcell hb3).1 _ _ (by omega)]; exact m0
  have m1' : w3.cell? ⟨g2, 1, none⟩ = some (.string T) := by rw [(bcell hb3).1 _ _ (by omega)]; exact m1
  have r0 : w3.cell? ⟨w.heap.size, 0, none⟩ = some (.int .i64 0) := by rw [(bcell hb3).1 _ _ (by omega)]; exact r0
  have f0 : w3.frozen? ⟨w.heap.size, 0, none⟩ = false := by rw [(bcell hb3).2 _ _ (by omega)]; exact f0
  have r1 : w3.cell? ⟨w.heap.size, 1, none⟩ = some (.int .i64 0) := by rw [(bcell hb3).1 _ _ (by omega)]; exact r1
  have f1 : w3.frozen? ⟨w.heap.size, 1, none⟩ = false := by rw [(bcell hb3).2 _ _ (by omega)]; exact f1
  have r2 : w3.cell? ⟨w.heap.size, 2, none⟩ = some (.int .i64 0) := by rw [(bcell hb3).1 _ _ (by omega)]; exact r2
  have f2 : w3.frozen? ⟨w.heap.size, 2, none⟩ = false := by rw [(bcell hb3).2 _ _ (by omega)]; exact f2
  have B3 : Below w.heap.size w w3 := B2.trans (hb3.mono (by omega))
  clear hb3
  go_wp2_with fail
  refine (HNB.out _).mono ?_
  rintro e w4 ⟨rfl, hb4⟩
  have x4 := hb4.size
  have m1'' : w4.cell? ⟨g2, 1, none⟩ = some (.string T) := by rw [(bcell hb4).1 _ _ (by omega)]; exact m1'
  have r0 : w4.cell? ⟨w.heap.size, 0, none⟩ = some (.int .i64 0) := by rw [(bcell hb4).1 _ _ (by omega)]; exact r0
  have f0 : w4.frozen? ⟨w.heap.size, 0, none⟩ = false := by rw [(bcell hb4).2 _ _ (by omega)]; exact f0
  have r1 : w4.cell? ⟨w.heap.size, 1, none⟩ = some (.int .i64 0) := by rw [(bcell hb4).1 _ _ (by omega)]; exact r1
  have f1 : w4.frozen? ⟨w.heap.size, 1, none⟩ = false := by rw [(bcell hb4).2 _ _ (by omega)]; exact f1
  have r2 : w4.cell? ⟨w.heap.size, 2, none⟩ = some (.int .i64 0) := by rw [(bcell hb4).1 _ _ (by omega)]; exact r2
  have f2 : w4.frozen? ⟨w.heap.size, 2, none⟩ = false := by rw [(bcell hb4).2 _ _ (by omega)]; exact f2
  have B4 : Below w.heap.size w w4 := B3.trans (hb4.mono (by omega))
  clear hb4
  go_wp2_with fail
  refine (HNT.out _).mono ?_
  rintro e w5 ⟨rfl, hb5⟩
  have x5 := hb5.size
  have r0 : w5.cell? ⟨w.heap.size, 0, none⟩ = some (.int .i64 0) := by rw [(bcell hb5).1 _ _ (by omega)]; exact r0
  have f0 : w5.frozen? ⟨w.heap.size, 0, none⟩ = false := by rw [(bcell hb5).2 _ _ (by omega)]; exact f0
  have r1 : w5.cell? ⟨w.heap.size, 1, none⟩ = some (.int .i64 0) := by rw [(bcell hb5).1 _ _ (by omega)]; exact r1
  have f1 : w5.frozen? ⟨w.heap.size, 1, none⟩ = false := by rw [(bcell hb5).2 _ _ (by omega)]; exact f1
  have r2 : w5.cell? ⟨w.heap.size, 2, none⟩ = some (.int .i64 0) := by rw [(bcell hb5).1 _ _ (by omega)]; exact r2
  have f2 : w5.frozen? ⟨w.heap.size, 2, none⟩ = false := by rw [(bcell hb5).2 _ _ (by omega)]; exact f2
  have B5 : Below w.heap.size w w5 := B4.trans (hb5.mono (by omega))
  clear hb5
  have hz5 : w.heap.size ≤ w5.heap.size := by omega
  have hn5 : ¬ w.heap.size = w5.heap.size := by omega
  have hn5' : ¬ w5.heap.size = w.heap.size := by omega
  have hl5 : w.heap.size < w5.heap.size := by omega
  go_wp2_with fail
  refine (one_s _ _ na nb nt _ (by go_simp) (by go_simp) (by go_simp)).mono ?_
  rintro e w6 ⟨rfl, n, hw6⟩
  have b6 : Below w5.heap.size w5 w6 := by rw [hw6]; exact drewN_below (by go_grown) _
  have x6 := b6.size
  have q0 : w6.cell? ⟨w5.heap.size, 0, none⟩ = some (.int .i64 na) := by rw [hw6]; go_simp
  have q1 : w6.cell? ⟨w5.heap.size, 1, none⟩ = some (.int .i64 nb) := by rw [hw6]; go_simp
  have q2 : w6.cell? ⟨w5.heap.size, 2, none⟩ = some (.int .i64 nt) := by rw [hw6]; go_simp
  have r0 : w6.cell? ⟨w.heap.size, 0, none⟩ = some (.int .i64 0) := by rw [(bcell b6).1 _ _ (by omega)]; exact r0
  have f0 : w6.frozen? ⟨w.heap.size, 0, none⟩ = false := by rw [(bcell b6).2 _ _ (by omega)]; exact f0
  have r1 : w6.cell? ⟨w.heap.size, 1, none⟩ = some (.int .i64 0) := by rw [(bcell b6).1 _ _ (by omega)]; exact r1
  have f1 : w6.frozen? ⟨w.heap.size, 1, none⟩ = false := by rw [(bcell b6).2 _ _ (by omega)]; exact f1
  have r2 : w6.cell? ⟨w.heap.size, 2, none⟩ = some (.int .i64 0) := by rw [(bcell b6).1 _ _ (by omega)]; exact r2
  have f2 : w6.frozen? ⟨w.heap.size, 2, none⟩ = false := by rw [(bcell b6).2 _ _ (by omega)]; exact f2
  have B6 : Below w.heap.size w w6 := B5.trans (b6.mono (by omega))
  clear b6 hw6
  go_wp2
  try simp only [Exit.inBlock, Exit.then]
  refine bodyPost_ret (by simp [results, Tryd.results15, go_sem, r0, r1, r2]; try rfl) rfl ?_
  exact ⟨rfl, bset (bset (bset B6 _ _ (by simp)) _ _ (by simp)) _ _ (by simp)⟩

set_option maxHeartbeats 4000000 in
set_option maxRecDepth 100000 in
theorem rod_s_f0 (s : ByteArray) (hs : s.size ≤ 1048576) (a c b t : List UInt8) (h3 : split 32 s.data.toList = [a, [109, 109], c]) (h2 : split 45 c = [b, t]) (na nb nt : Int) (fb : Bool) (ft : Bool) (ha : ans a = (na, false)) (hbb : ans b = (nb, fb)) (htt : ans t = (nt, ft)) (w : World) :
    Calls Tryd.prog 15 #[.string s] w fun e w' => e = .returned (retV (none)) ∧ Below w.heap.size w w' := by
  have HS := Lib.hid (fun W => split_32 s hs W)
  rw [h3] at HS
  obtain ⟨M, hM⟩ : ∃ M : ByteArray, M = ⟨([109, 109] : List UInt8).toArray⟩ := ⟨_, rfl⟩
  have hMl : M.toList = [109, 109] := by rw [hM, ByteArray.toList_eq]
  have e1 : (M.toList == [109, 109]) = true := by rw [hMl]; rfl
  have e2 : (M.toList != [109, 109]) = false := by rw [bne, e1]; rfl
  have hcl : c.length ≤ s.data.toList.length := split_len (d := 32) (by rw [h3]; simp)
  rw [size_len] at hcl
  obtain ⟨C, hC⟩ : ∃ C : ByteArray, C = ⟨c.toArray⟩ := ⟨_, rfl⟩
  have HC := Lib.hid (fun W => split_45 C (by rw [hC, arr_size]; omega) W)
  have hCl : C.data.toList = c := by rw [hC]
  rw [hCl] at HC
  rw [h2] at HC
  have hal : a.length ≤ s.data.toList.length := split_len (d := 32) (by rw [h3]; simp)
  have hbl : b.length ≤ c.length := split_len (d := 45) (by rw [h2]; simp)
  have htl : t.length ≤ c.length := split_len (d := 45) (by rw [h2]; simp)
  rw [size_len] at hal
  obtain ⟨A, hA⟩ : ∃ A : ByteArray, A = ⟨a.toArray⟩ := ⟨_, rfl⟩
  obtain ⟨B, hB⟩ : ∃ B : ByteArray, B = ⟨b.toArray⟩ := ⟨_, rfl⟩
  obtain ⟨T, hT⟩ : ∃ T : ByteArray, T = ⟨t.toArray⟩ := ⟨_, rfl⟩
  have HNA := Lib.hid (fun W => number_p a na _ A hA (by omega) ha W)
  have HNB := Lib.hid (fun W => number_p b nb _ B hB (by omega) hbb W)
  have HNT := Lib.hid (fun W => number_p t nt _ T hT (by omega) htt W)
  go_enter Tryd.func15, Tryd.ntmps15
  go_wp2_with fail
  refine (HS.out _).mono ?_
  rintro e w1 ⟨g, cap, rfl, hg, hc, hm, hcell, hb⟩
  have x1 := hb.size
  simp at x1
  have r0 : w1.cell? ⟨w.heap.size, 0, none⟩ = some (.int .i64 0) := by rw [(bcell hb).1 _ _ (by simp <;> omega)]; go_simp
  have r1 : w1.cell? ⟨w.heap.size, 1, none⟩ = some (.int .i64 0) := by rw [(bcell hb).1 _ _ (by simp <;> omega)]; go_simp
  have r2 : w1.cell? ⟨w.heap.size, 2, none⟩ = some (.int .i64 0) := by rw [(bcell hb).1 _ _ (by simp <;> omega)]; go_simp
  have f0 : w1.frozen? ⟨w.heap.size, 0, none⟩ = false := by rw [(bcell hb).2 _ _ (by simp <;> omega)]; go_simp
  have f1 : w1.frozen? ⟨w.heap.size, 1, none⟩ = false := by rw [(bcell hb).2 _ _ (by simp <;> omega)]; go_simp
  have f2 : w1.frozen? ⟨w.heap.size, 2, none⟩ = false := by rw [(bcell hb).2 _ _ (by simp <;> omega)]; go_simp
  have B1 : Below w.heap.size w w1 := Below.trans (by go_grown) (hb.mono (by simp))
  clear hb
  have k0 := hcell 0 _ rfl
  rw [← hA] at k0
  have k1 := hcell 1 _ rfl
  have k2 := hcell 2 _ rfl
  rw [← hM] at k1
  rw [← hC] at k2
  clear hcell hM hMl hC hCl
  simp only [List.length_cons, List.length_nil, Nat.zero_add, Nat.reduceAdd] at hc ⊢
  go_wp2_with fail
  refine (HC.out _).mono ?_
  rintro e w2 ⟨g2, cap2, rfl, hg2, hc2, hm2, hcell2, hb2⟩
  have x2 := hb2.size
  have r0 : w2.cell? ⟨w.heap.size, 0, none⟩ = some (.int .i64 0) := by rw [(bcell hb2).1 _ _ (by omega)]; exact r0
  have f0 : w2.frozen? ⟨w.heap.size, 0, none⟩ = false := by rw [(bcell hb2).2 _ _ (by omega)]; exact f0
  have r1 : w2.cell? ⟨w.heap.size, 1, none⟩ = some (.int .i64 0) := by rw [(bcell hb2).1 _ _ (by omega)]; exact r1
  have f1 : w2.frozen? ⟨w.heap.size, 1, none⟩ = false := by rw [(bcell hb2).2 _ _ (by omega)]; exact f1
  have r2 : w2.cell? ⟨w.heap.size, 2, none⟩ = some (.int .i64 0) := by rw [(bcell hb2).1 _ _ (by omega)]; exact r2
  have f2 : w2.frozen? ⟨w.heap.size, 2, none⟩ = false := by rw [(bcell hb2).2 _ _ (by omega)]; exact f2
  have B2 : Below w.heap.size w w2 := B1.trans (hb2.mono (by omega))
  have k0' : w2.cell? ⟨g, 0, none⟩ = some (.string A) := by rw [(bcell hb2).1 _ _ (by omega)]; exact k0
  have m0 := hcell2 0 _ rfl
  have m1 := hcell2 1 _ rfl
  rw [← hB] at m0
  rw [← hT] at m1
  clear hb2 hcell2 hA hB hT k0
  simp only [List.length_cons, List.length_nil, Nat.zero_add, Nat.reduceAdd] at hc2 ⊢
  go_wp2_with fail
  refine (HNA.out _).mono ?_
  rintro e w3 ⟨rfl, hb3⟩
  have x3 := hb3.size
  have m0' : w3.cell? ⟨g2, 0, none⟩ = some (.string B) := by rw [(bcell hb3).1 _ _ (by omega)]; exact m0
  have m1' : w3.cell? ⟨g2, 1, none⟩ = some (.string T) := by rw [(bcell hb3).1 _ _ (by omega)]; exact m1
  have r0 : w3.cell? ⟨w.heap.size, 0, none⟩ = some (.int .i64 0) := by rw [(bcell hb3).1 _ _ (by omega)]; exact r0
  have f0 : w3.frozen? ⟨w.heap.size, 0, none⟩ = false := by rw [(bcell hb3).2 _ _ (by omega)]; exact f0
  have r1 : w3.cell? ⟨w.heap.size, 1, none⟩ = some (.int .i64 0) := by rw [(bcell hb3).1 _ _ (by omega)]; exact r1
  have f1 : w3.frozen? ⟨w.heap.size, 1, none⟩ = false := by rw [(bcell hb3).2 _ _ (by omega)]; exact f1
  have r2 : w3.cell? ⟨w.heap.size, 2, none⟩ = some (.int .i64 0) := by rw [(bcell hb3).1 _ _ (by omega)]; exact r2
  have f2 : w3.frozen? ⟨w.heap.size, 2, none⟩ = false := by rw [(bcell hb3).2 _ _ (by omega)]; exact f2
  have B3 : Below w.heap.size w w3 := B2.trans (hb3.mono (by omega))
  clear hb3
  go_wp2_with fail
  refine (HNB.out _).mono ?_
  rintro e w4 ⟨rfl, hb4⟩
  have x4 := hb4.size
  have m1'' : w4.cell? ⟨g2, 1, none⟩ = some (.string T) := by rw [(bcell hb4).1 _ _ (by omega)]; exact m1'
  have r0 : w4.cell? ⟨w.heap.size, 0, none⟩ = some (.int .i64 0) := by rw [(bcell hb4).1 _ _ (by omega)]; exact r0
  have f0 : w4.frozen? ⟨w.heap.size, 0, none⟩ = false := by rw [(bcell hb4).2 _ _ (by omega)]; exact f0
  have r1 : w4.cell? ⟨w.heap.size, 1, none⟩ = some (.int .i64 0) := by rw [(bcell hb4).1 _ _ (by omega)]; exact r1
  have f1 : w4.frozen? ⟨w.heap.size, 1, none⟩ = false := by rw [(bcell hb4).2 _ _ (by omega)]; exact f1
  have r2 : w4.cell? ⟨w.heap.size, 2, none⟩ = some (.int .i64 0) := by rw [(bcell hb4).1 _ _ (by omega)]; exact r2
  have f2 : w4.frozen? ⟨w.heap.size, 2, none⟩ = false := by rw [(bcell hb4).2 _ _ (by omega)]; exact f2
  have B4 : Below w.heap.size w w4 := B3.trans (hb4.mono (by omega))
  clear hb4
  go_wp2_with fail
  refine (HNT.out _).mono ?_
  rintro e w5 ⟨rfl, hb5⟩
  have x5 := hb5.size
  have r0 : w5.cell? ⟨w.heap.size, 0, none⟩ = some (.int .i64 0) := by rw [(bcell hb5).1 _ _ (by omega)]; exact r0
  have f0 : w5.frozen? ⟨w.heap.size, 0, none⟩ = false := by rw [(bcell hb5).2 _ _ (by omega)]; exact f0
  have r1 : w5.cell? ⟨w.heap.size, 1, none⟩ = some (.int .i64 0) := by rw [(bcell hb5).1 _ _ (by omega)]; exact r1
  have f1 : w5.frozen? ⟨w.heap.size, 1, none⟩ = false := by rw [(bcell hb5).2 _ _ (by omega)]; exact f1
  have r2 : w5.cell? ⟨w.heap.size, 2, none⟩ = some (.int .i64 0) := by rw [(bcell hb5).1 _ _ (by omega)]; exact r2
  have f2 : w5.frozen? ⟨w.heap.size, 2, none⟩ = false := by rw [(bcell hb5).2 _ _ (by omega)]; exact f2
  have B5 : Below w.heap.size w w5 := B4.trans (hb5.mono (by omega))
  clear hb5
  have hz5 : w.heap.size ≤ w5.heap.size := by omega
  have hn5 : ¬ w.heap.size = w5.heap.size := by omega
  have hn5' : ¬ w5.heap.size = w.heap.size := by omega
  have hl5 : w.heap.size < w5.heap.size := by omega
  go_wp2
  try simp only [Exit.inBlock, Exit.then]
  refine bodyPost_ret (by simp [results, Tryd.results15, go_sem, r0, r1, r2, hl5]; try rfl) rfl ?_
  exact ⟨rfl, (bset (bset (bset B5 _ _ (by simp)) _ _ (by simp)) _ _ (by simp)).alloc (by simp; omega) _⟩

set_option maxHeartbeats 4000000 in
set_option maxRecDepth 100000 in
theorem rod_s_f1 (s : ByteArray) (hs : s.size ≤ 1048576) (a c b t : List UInt8) (h3 : split 32 s.data.toList = [a, [109, 109], c]) (h2 : split 45 c = [b, t]) (na nb nt : Int) (ft : Bool) (ha : ans a = (na, true)) (hbb : ans b = (nb, false)) (htt : ans t = (nt, ft)) (w : World) :
    Calls Tryd.prog 15 #[.string s] w fun e w' => e = .returned (retV (none)) ∧ Below w.heap.size w w' := by
  have HS := Lib.hid (fun W => split_32 s hs W)
  rw [h3] at HS
  obtain ⟨M, hM⟩ : ∃ M : ByteArray, M = ⟨([109, 109] : List UInt8).toArray⟩ := ⟨_, rfl⟩
  have hMl : M.toList = [109, 109] := by rw [hM, ByteArray.toList_eq]
  have e1 : (M.toList == [109, 109]) = true := by rw [hMl]; rfl
  have e2 : (M.toList != [109, 109]) = false := by rw [bne, e1]; rfl
  have hcl : c.length ≤ s.data.toList.length := split_len (d := 32) (by rw [h3]; simp)
  rw [size_len] at hcl
  obtain ⟨C, hC⟩ : ∃ C : ByteArray, C = ⟨c.toArray⟩ := ⟨_, rfl⟩
  have HC := Lib.hid (fun W => split_45 C (by rw [hC, arr_size]; omega) W)
  have hCl : C.data.toList = c := by rw [hC]
  rw [hCl] at HC
  rw [h2] at HC
  have hal : a.length ≤ s.data.toList.length := split_len (d := 32) (by rw [h3]; simp)
  have hbl : b.length ≤ c.length := split_len (d := 45) (by rw [h2]; simp)
  have htl : t.length ≤ c.length := split_len (d := 45) (by rw [h2]; simp)
  rw [size_len] at hal
  obtain ⟨A, hA⟩ : ∃ A : ByteArray, A = ⟨a.toArray⟩ := ⟨_, rfl⟩
  obtain ⟨B, hB⟩ : ∃ B : ByteArray, B = ⟨b.toArray⟩ := ⟨_, rfl⟩
  obtain ⟨T, hT⟩ : ∃ T : ByteArray, T = ⟨t.toArray⟩ := ⟨_, rfl⟩
  have HNA := Lib.hid (fun W => number_p a na _ A hA (by omega) ha W)
  have HNB := Lib.hid (fun W => number_p b nb _ B hB (by omega) hbb W)
  have HNT := Lib.hid (fun W => number_p t nt _ T hT (by omega) htt W)
  go_enter Tryd.func15, Tryd.ntmps15
  go_wp2_with fail
  refine (HS.out _).mono ?_
  rintro e w1 ⟨g, cap, rfl, hg, hc, hm, hcell, hb⟩
  have x1 := hb.size
  simp at x1
  have r0 : w1.cell? ⟨w.heap.size, 0, none⟩ = some (.int .i64 0) := by rw [(bcell hb).1 _ _ (by simp <;> omega)]; go_simp
  have r1 : w1.cell? ⟨w.heap.size, 1, none⟩ = some (.int .i64 0) := by rw [(bcell hb).1 _ _ (by simp <;> omega)]; go_simp
  have r2 : w1.cell? ⟨w.heap.size, 2, none⟩ = some (.int .i64 0) := by rw [(bcell hb).1 _ _ (by simp <;> omega)]; go_simp
  have f0 : w1.frozen? ⟨w.heap.size, 0, none⟩ = false := by rw [(bcell hb).2 _ _ (by simp <;> omega)]; go_simp
  have f1 : w1.frozen? ⟨w.heap.size, 1, none⟩ = false := by rw [(bcell hb).2 _ _ (by simp <;> omega)]; go_simp
  have f2 : w1.frozen? ⟨w.heap.size, 2, none⟩ = false := by rw [(bcell hb).2 _ _ (by simp <;> omega)]; go_simp
  have B1 : Below w.heap.size w w1 := Below.trans (by go_grown) (hb.mono (by simp))
  clear hb
  have k0 := hcell 0 _ rfl
  rw [← hA] at k0
  have k1 := hcell 1 _ rfl
  have k2 := hcell 2 _ rfl
  rw [← hM] at k1
  rw [← hC] at k2
  clear hcell hM hMl hC hCl
  simp only [List.length_cons, List.length_nil, Nat.zero_add, Nat.reduceAdd] at hc ⊢
  go_wp2_with fail
  refine (HC.out _).mono ?_
  rintro e w2 ⟨g2, cap2, rfl, hg2, hc2, hm2, hcell2, hb2⟩
  have x2 := hb2.size
  have r0 : w2.cell? ⟨w.heap.size, 0, none⟩ = some (.int .i64 0) := by rw [(bcell hb2).1 _ _ (by omega)]; exact r0
  have f0 : w2.frozen? ⟨w.heap.size, 0, none⟩ = false := by rw [(bcell hb2).2 _ _ (by omega)]; exact f0
  have r1 : w2.cell? ⟨w.heap.size, 1, none⟩ = some (.int .i64 0) := by rw [(bcell hb2).1 _ _ (by omega)]; exact r1
  have f1 : w2.frozen? ⟨w.heap.size, 1, none⟩ = false := by rw [(bcell hb2).2 _ _ (by omega)]; exact f1
  have r2 : w2.cell? ⟨w.heap.size, 2, none⟩ = some (.int .i64 0) := by rw [(bcell hb2).1 _ _ (by omega)]; exact r2
  have f2 : w2.frozen? ⟨w.heap.size, 2, none⟩ = false := by rw [(bcell hb2).2 _ _ (by omega)]; exact f2
  have B2 : Below w.heap.size w w2 := B1.trans (hb2.mono (by omega))
  have k0' : w2.cell? ⟨g, 0, none⟩ = some (.string A) := by rw [(bcell hb2).1 _ _ (by omega)]; exact k0
  have m0 := hcell2 0 _ rfl
  have m1 := hcell2 1 _ rfl
  rw [← hB] at m0
  rw [← hT] at m1
  clear hb2 hcell2 hA hB hT k0
  simp only [List.length_cons, List.length_nil, Nat.zero_add, Nat.reduceAdd] at hc2 ⊢
  go_wp2_with fail
  refine (HNA.out _).mono ?_
  rintro e w3 ⟨rfl, hb3⟩
  have x3 := hb3.size
  have m0' : w3.cell? ⟨g2, 0, none⟩ = some (.string B) := by rw [(bcell hb3).1 _ _ (by omega)]; exact m0
  have m1' : w3.cell? ⟨g2, 1, none⟩ = some (.string T) := by rw [(bcell hb3).1 _ _ (by omega)]; exact m1
  have r0 : w3.cell? ⟨w.heap.size, 0, none⟩ = some (.int .i64 0) := by rw [(bcell hb3).1 _ _ (by omega)]; exact r0
  have f0 : w3.frozen? ⟨w.heap.size, 0, none⟩ = false := by rw [(bcell hb3).2 _ _ (by omega)]; exact f0
  have r1 : w3.cell? ⟨w.heap.size, 1, none⟩ = some (.int .i64 0) := by rw [(bcell hb3).1 _ _ (by omega)]; exact r1
  have f1 : w3.frozen? ⟨w.heap.size, 1, none⟩ = false := by rw [(bcell hb3).2 _ _ (by omega)]; exact f1
  have r2 : w3.cell? ⟨w.heap.size, 2, none⟩ = some (.int .i64 0) := by rw [(bcell hb3).1 _ _ (by omega)]; exact r2
  have f2 : w3.frozen? ⟨w.heap.size, 2, none⟩ = false := by rw [(bcell hb3).2 _ _ (by omega)]; exact f2
  have B3 : Below w.heap.size w w3 := B2.trans (hb3.mono (by omega))
  clear hb3
  go_wp2_with fail
  refine (HNB.out _).mono ?_
  rintro e w4 ⟨rfl, hb4⟩
  have x4 := hb4.size
  have m1'' : w4.cell? ⟨g2, 1, none⟩ = some (.string T) := by rw [(bcell hb4).1 _ _ (by omega)]; exact m1'
  have r0 : w4.cell? ⟨w.heap.size, 0, none⟩ = some (.int .i64 0) := by rw [(bcell hb4).1 _ _ (by omega)]; exact r0
  have f0 : w4.frozen? ⟨w.heap.size, 0, none⟩ = false := by rw [(bcell hb4).2 _ _ (by omega)]; exact f0
  have r1 : w4.cell? ⟨w.heap.size, 1, none⟩ = some (.int .i64 0) := by rw [(bcell hb4).1 _ _ (by omega)]; exact r1
  have f1 : w4.frozen? ⟨w.heap.size, 1, none⟩ = false := by rw [(bcell hb4).2 _ _ (by omega)]; exact f1
  have r2 : w4.cell? ⟨w.heap.size, 2, none⟩ = some (.int .i64 0) := by rw [(bcell hb4).1 _ _ (by omega)]; exact r2
  have f2 : w4.frozen? ⟨w.heap.size, 2, none⟩ = false := by rw [(bcell hb4).2 _ _ (by omega)]; exact f2
  have B4 : Below w.heap.size w w4 := B3.trans (hb4.mono (by omega))
  clear hb4
  go_wp2_with fail
  refine (HNT.out _).mono ?_
  rintro e w5 ⟨rfl, hb5⟩
  have x5 := hb5.size
  have r0 : w5.cell? ⟨w.heap.size, 0, none⟩ = some (.int .i64 0) := by rw [(bcell hb5).1 _ _ (by omega)]; exact r0
  have f0 : w5.frozen? ⟨w.heap.size, 0, none⟩ = false := by rw [(bcell hb5).2 _ _ (by omega)]; exact f0
  have r1 : w5.cell? ⟨w.heap.size, 1, none⟩ = some (.int .i64 0) := by rw [(bcell hb5).1 _ _ (by omega)]; exact r1
  have f1 : w5.frozen? ⟨w.heap.size, 1, none⟩ = false := by rw [(bcell hb5).2 _ _ (by omega)]; exact f1
  have r2 : w5.cell? ⟨w.heap.size, 2, none⟩ = some (.int .i64 0) := by rw [(bcell hb5).1 _ _ (by omega)]; exact r2
  have f2 : w5.frozen? ⟨w.heap.size, 2, none⟩ = false := by rw [(bcell hb5).2 _ _ (by omega)]; exact f2
  have B5 : Below w.heap.size w w5 := B4.trans (hb5.mono (by omega))
  clear hb5
  have hz5 : w.heap.size ≤ w5.heap.size := by omega
  have hn5 : ¬ w.heap.size = w5.heap.size := by omega
  have hn5' : ¬ w5.heap.size = w.heap.size := by omega
  have hl5 : w.heap.size < w5.heap.size := by omega
  go_wp2
  try simp only [Exit.inBlock, Exit.then]
  refine bodyPost_ret (by simp [results, Tryd.results15, go_sem, r0, r1, r2, hl5]; try rfl) rfl ?_
  exact ⟨rfl, (bset (bset (bset B5 _ _ (by simp)) _ _ (by simp)) _ _ (by simp)).alloc (by simp; omega) _⟩

set_option maxHeartbeats 4000000 in
set_option maxRecDepth 100000 in
theorem rod_s_f2 (s : ByteArray) (hs : s.size ≤ 1048576) (a c b t : List UInt8) (h3 : split 32 s.data.toList = [a, [109, 109], c]) (h2 : split 45 c = [b, t]) (na nb nt : Int) (ha : ans a = (na, true)) (hbb : ans b = (nb, true)) (htt : ans t = (nt, false)) (w : World) :
    Calls Tryd.prog 15 #[.string s] w fun e w' => e = .returned (retV (none)) ∧ Below w.heap.size w w' := by
  have HS := Lib.hid (fun W => split_32 s hs W)
  rw [h3] at HS
  obtain ⟨M, hM⟩ : ∃ M : ByteArray, M = ⟨([109, 109] : List UInt8).toArray⟩ := ⟨_, rfl⟩
  have hMl : M.toList = [109, 109] := by rw [hM, ByteArray.toList_eq]
  have e1 : (M.toList == [109, 109]) = true := by rw [hMl]; rfl
  have e2 : (M.toList != [109, 109]) = false := by rw [bne, e1]; rfl
  have hcl : c.length ≤ s.data.toList.length := split_len (d := 32) (by rw [h3]; simp)
  rw [size_len] at hcl
  obtain ⟨C, hC⟩ : ∃ C : ByteArray, C = ⟨c.toArray⟩ := ⟨_, rfl⟩
  have HC := Lib.hid (fun W => split_45 C (by rw [hC, arr_size]; omega) W)
  have hCl : C.data.toList = c := by rw [hC]
  rw [hCl] at HC
  rw [h2] at HC
  have hal : a.length ≤ s.data.toList.length := split_len (d := 32) (by rw [h3]; simp)
  have hbl : b.length ≤ c.length := split_len (d := 45) (by rw [h2]; simp)
  have htl : t.length ≤ c.length := split_len (d := 45) (by rw [h2]; simp)
  rw [size_len] at hal
  obtain ⟨A, hA⟩ : ∃ A : ByteArray, A = ⟨a.toArray⟩ := ⟨_, rfl⟩
  obtain ⟨B, hB⟩ : ∃ B : ByteArray, B = ⟨b.toArray⟩ := ⟨_, rfl⟩
  obtain ⟨T, hT⟩ : ∃ T : ByteArray, T = ⟨t.toArray⟩ := ⟨_, rfl⟩
  have HNA := Lib.hid (fun W => number_p a na _ A hA (by omega) ha W)
  have HNB := Lib.hid (fun W => number_p b nb _ B hB (by omega) hbb W)
  have HNT := Lib.hid (fun W => number_p t nt _ T hT (by omega) htt W)
  go_enter Tryd.func15, Tryd.ntmps15
  go_wp2_with fail
  refine (HS.out _).mono ?_
  rintro e w1 ⟨g, cap, rfl, hg, hc, hm, hcell, hb⟩
  have x1 := hb.size
  simp at x1
  have r0 : w1.cell? ⟨w.heap.size, 0, none⟩ = some (.int .i64 0) := by rw [(bcell hb).1 _ _ (by simp <;> omega)]; go_simp
  have r1 : w1.cell? ⟨w.heap.size, 1, none⟩ = some (.int .i64 0) := by rw [(bcell hb).1 _ _ (by simp <;> omega)]; go_simp
  have r2 : w1.cell? ⟨w.heap.size, 2, none⟩ = some (.int .i64 0) := by rw [(bcell hb).1 _ _ (by simp <;> omega)]; go_simp
  have f0 : w1.frozen? ⟨w.heap.size, 0, none⟩ = false := by rw [(bcell hb).2 _ _ (by simp <;> omega)]; go_simp
  have f1 : w1.frozen? ⟨w.heap.size, 1, none⟩ = false := by rw [(bcell hb).2 _ _ (by simp <;> omega)]; go_simp
  have f2 : w1.frozen? ⟨w.heap.size, 2, none⟩ = false := by rw [(bcell hb).2 _ _ (by simp <;> omega)]; go_simp
  have B1 : Below w.heap.size w w1 := Below.trans (by go_grown) (hb.mono (by simp))
  clear hb
  have k0 := hcell 0 _ rfl
  rw [← hA] at k0
  have k1 := hcell 1 _ rfl
  have k2 := hcell 2 _ rfl
  rw [← hM] at k1
  rw [← hC] at k2
  clear hcell hM hMl hC hCl
  simp only [List.length_cons, List.length_nil, Nat.zero_add, Nat.reduceAdd] at hc ⊢
  go_wp2_with fail
  refine (HC.out _).mono ?_
  rintro e w2 ⟨g2, cap2, rfl, hg2, hc2, hm2, hcell2, hb2⟩
  have x2 := hb2.size
  have r0 : w2.cell? ⟨w.heap.size, 0, none⟩ = some (.int .i64 0) := by rw [(bcell hb2).1 _ _ (by omega)]; exact r0
  have f0 : w2.frozen? ⟨w.heap.size, 0, none⟩ = false := by rw [(bcell hb2).2 _ _ (by omega)]; exact f0
  have r1 : w2.cell? ⟨w.heap.size, 1, none⟩ = some (.int .i64 0) := by rw [(bcell hb2).1 _ _ (by omega)]; exact r1
  have f1 : w2.frozen? ⟨w.heap.size, 1, none⟩ = false := by rw [(bcell hb2).2 _ _ (by omega)]; exact f1
  have r2 : w2.cell? ⟨w.heap.size, 2, none⟩ = some (.int .i64 0) := by rw [(bcell hb2).1 _ _ (by omega)]; exact r2
  have f2 : w2.frozen? ⟨w.heap.size, 2, none⟩ = false := by rw [(bcell hb2).2 _ _ (by omega)]; exact f2
  have B2 : Below w.heap.size w w2 := B1.trans (hb2.mono (by omega))
  have k0' : w2.cell? ⟨g, 0, none⟩ = some (.string A) := by rw [(bcell hb2).1 _ _ (by omega)]; exact k0
  have m0 := hcell2 0 _ rfl
  have m1 := hcell2 1 _ rfl
  rw [← hB] at m0
  rw [← hT] at m1
  clear hb2 hcell2 hA hB hT k0
  simp only [List.length_cons, List.length_nil, Nat.zero_add, Nat.reduceAdd] at hc2 ⊢
  go_wp2_with fail
  refine (HNA.out _).mono ?_
  rintro e w3 ⟨rfl, hb3⟩
  have x3 := hb3.size
  have m0' : w3.cell? ⟨g2, 0, none⟩ = some (.string B) := by rw [(bcell hb3).1 _ _ (by omega)]; exact m0
  have m1' : w3.cell? ⟨g2, 1, none⟩ = some (.string T) := by rw [(bcell hb3).1 _ _ (by omega)]; exact m1
  have r0 : w3.cell? ⟨w.heap.size, 0, none⟩ = some (.int .i64 0) := by rw [(bcell hb3).1 _ _ (by omega)]; exact r0
  have f0 : w3.frozen? ⟨w.heap.size, 0, none⟩ = false := by rw [(bcell hb3).2 _ _ (by omega)]; exact f0
  have r1 : w3.cell? ⟨w.heap.size, 1, none⟩ = some (.int .i64 0) := by rw [(bcell hb3).1 _ _ (by omega)]; exact r1
  have f1 : w3.frozen? ⟨w.heap.size, 1, none⟩ = false := by rw [(bcell hb3).2 _ _ (by omega)]; exact f1
  have r2 : w3.cell? ⟨w.heap.size, 2, none⟩ = some (.int .i64 0) := by rw [(bcell hb3).1 _ _ (by omega)]; exact r2
  have f2 : w3.frozen? ⟨w.heap.size, 2, none⟩ = false := by rw [(bcell hb3).2 _ _ (by omega)]; exact f2
  have B3 : Below w.heap.size w w3 := B2.trans (hb3.mono (by omega))
  clear hb3
  go_wp2_with fail
  refine (HNB.out _).mono ?_
  rintro e w4 ⟨rfl, hb4⟩
  have x4 := hb4.size
  have m1'' : w4.cell? ⟨g2, 1, none⟩ = some (.string T) := by rw [(bcell hb4).1 _ _ (by omega)]; exact m1'
  have r0 : w4.cell? ⟨w.heap.size, 0, none⟩ = some (.int .i64 0) := by rw [(bcell hb4).1 _ _ (by omega)]; exact r0
  have f0 : w4.frozen? ⟨w.heap.size, 0, none⟩ = false := by rw [(bcell hb4).2 _ _ (by omega)]; exact f0
  have r1 : w4.cell? ⟨w.heap.size, 1, none⟩ = some (.int .i64 0) := by rw [(bcell hb4).1 _ _ (by omega)]; exact r1
  have f1 : w4.frozen? ⟨w.heap.size, 1, none⟩ = false := by rw [(bcell hb4).2 _ _ (by omega)]; exact f1
  have r2 : w4.cell? ⟨w.heap.size, 2, none⟩ = some (.int .i64 0) := by rw [(bcell hb4).1 _ _ (by omega)]; exact r2
  have f2 : w4.frozen? ⟨w.heap.size, 2, none⟩ = false := by rw [(bcell hb4).2 _ _ (by omega)]; exact f2
  have B4 : Below w.heap.size w w4 := B3.trans (hb4.mono (by omega))
  clear hb4
  go_wp2_with fail
  refine (HNT.out _).mono ?_
  rintro e w5 ⟨rfl, hb5⟩
  have x5 := hb5.size
  have r0 : w5.cell? ⟨w.heap.size, 0, none⟩ = some (.int .i64 0) := by rw [(bcell hb5).1 _ _ (by omega)]; exact r0
  have f0 : w5.frozen? ⟨w.heap.size, 0, none⟩ = false := by rw [(bcell hb5).2 _ _ (by omega)]; exact f0
  have r1 : w5.cell? ⟨w.heap.size, 1, none⟩ = some (.int .i64 0) := by rw [(bcell hb5).1 _ _ (by omega)]; exact r1
  have f1 : w5.frozen? ⟨w.heap.size, 1, none⟩ = false := by rw [(bcell hb5).2 _ _ (by omega)]; exact f1
  have r2 : w5.cell? ⟨w.heap.size, 2, none⟩ = some (.int .i64 0) := by rw [(bcell hb5).1 _ _ (by omega)]; exact r2
  have f2 : w5.frozen? ⟨w.heap.size, 2, none⟩ = false := by rw [(bcell hb5).2 _ _ (by omega)]; exact f2
  have B5 : Below w.heap.size w w5 := B4.trans (hb5.mono (by omega))
  clear hb5
  have hz5 : w.heap.size ≤ w5.heap.size := by omega
  have hn5 : ¬ w.heap.size = w5.heap.size := by omega
  have hn5' : ¬ w5.heap.size = w.heap.size := by omega
  have hl5 : w.heap.size < w5.heap.size := by omega
  go_wp2
  try simp only [Exit.inBlock, Exit.then]
  refine bodyPost_ret (by simp [results, Tryd.results15, go_sem, r0, r1, r2, hl5]; try rfl) rfl ?_
  exact ⟨rfl, (bset (bset (bset B5 _ _ (by simp)) _ _ (by simp)) _ _ (by simp)).alloc (by simp; omega) _⟩

theorem rod_s (s : ByteArray) (hs : s.size ≤ 1048576) (w : World) :
    Calls Tryd.prog 15 #[.string s] w fun e w' => e = .returned (retV (readR s.data.toList)) ∧ Below w.heap.size w w' := by
  by_cases h3 : (split 32 s.data.toList).length = 3
  · obtain ⟨a, m, c, h3⟩ : ∃ a m c, split 32 s.data.toList = [a, m, c] := by
      generalize split 32 s.data.toList = ps at h3
      match ps, h3 with
      | [a, m, c], _ => exact ⟨a, m, c, rfl⟩
    by_cases hm : m = [109, 109]
    · subst hm
      by_cases h2 : (split 45 c).length = 2
      · obtain ⟨b, t, h2⟩ : ∃ b t, split 45 c = [b, t] := by
          generalize split 45 c = ps at h2
          match ps, h2 with
          | [b, t], _ => exact ⟨b, t, rfl⟩
        rw [readR_all h3 h2]
        obtain ⟨⟨na, fa⟩, ha⟩ : ∃ x, ans a = x := ⟨_, rfl⟩
        obtain ⟨⟨nb, fb⟩, hb⟩ : ∃ x, ans b = x := ⟨_, rfl⟩
        obtain ⟨⟨nt, ft⟩, ht⟩ : ∃ x, ans t = x := ⟨_, rfl⟩
        rw [ha, hb, ht]
        cases fa
        · rw [if_neg (by simp)]
          exact rod_s_f0 s hs a c b t h3 h2 na nb nt fb ft ha hb ht w
        · cases fb
          · rw [if_neg (by simp)]
            exact rod_s_f1 s hs a c b t h3 h2 na nb nt ft ha hb ht w
          · cases ft
            · rw [if_neg (by simp)]
              exact rod_s_f2 s hs a c b t h3 h2 na nb nt ha hb ht w
            · rw [if_pos ⟨rfl, rfl, rfl⟩]
              unfold rodOf
              cases hr : rodB na nb nt
              · rw [if_neg (by simp)]
                exact rod_s_bad s hs a c b t h3 h2 na nb nt ha hb ht hr w
              · rw [if_pos rfl]
                exact rod_s_yes s hs a c b t h3 h2 na nb nt ha hb ht hr w
      · rw [readR_two h3 h2]
        exact rod_s_two s hs a c h3 h2 w
    · rw [readR_mid h3 hm]
      exact rod_s_mid s hs a m c h3 hm w
  · rw [readR_len h3]
    exact rod_s_len s hs h3 w

end Go.Proofs.YtmaakconbaiagaaDoor.num
