/-
  The best plan from a place upwards, by the program: by induction on the levels above. No condition of a statement lies here.
-/
import Derived.Test.YtldeeilgmogjjaaHt
import Derived.Test.YtldeeilgmogjjaaOpen
import Derived.Test.YtldeeilgmogjjaaNums
import Derived.Test.YtldeeilgmogjjaaIn
namespace Go.Proofs.Ytldeeilgmogjjaa.shp
open Go.ChangeShapes Go.WideShapes Go.ChangeAt Go.RowKit Go.Proofs.Ytldeeilgmogjjaa.mem Go.Proofs.Ytldeeilgmogjjaa.rod Go.Proofs.Ytldeeilgmogjjaa.nums
set_option linter.unusedVariables false
set_option maxRecDepth 100000

/-- the plan of a place -/
def Fp (n : Nat) (X : Nat → Int) (lo up : Int) (i : Nat) (s : Int) : Option (List Int) := pl X lo up (n - 1 - i) i s
theorem Fp_at {n i r : Nat} {X : Nat → Int} {lo up s : Int} (h : i + r + 1 = n) : Fp n X lo up i s = pl X lo up r i s := by unfold Fp; rw [show n - 1 - i = r by omega]
theorem plan_of_owns {w : World} {B K b n : Nat} {v : Value} {l : List Int} (h : w.ownsRow B 2 1 v n (l.map (Value.int .i64))) (hn : n = l.length) (h0 : 0 < n) (hK : K ≤ B) (hb : b < B) : PlanV w K b v l := by
  obtain ⟨A, c, e, k1, k2, hrow⟩ := row_of_owns h
  subst hn
  obtain ⟨g, e2, g0, g1, ho⟩ := hrow h0
  rw [Nat.mul_one] at ho
  exact ⟨g, c, by rw [e, e2], k1, k2, by omega, by omega, ho⟩
theorem rdL_of {w : World} {K b N : Nat} {v : Value} {r : Nat} {s : Int} {l : List Int} (h : PlanV w K b v l) (hp : PlanB r s l) (hN : N = r + 1) : RdL w v N l := by
  obtain ⟨g, c, e, h1, h2, h3, h4, ho⟩ := h
  obtain ⟨p1, p2, p3⟩ := hp
  subst hN
  rw [p1] at e ho
  exact ⟨_, c, e, p1, fun j hj => p3 j (by omega), fun _ => ⟨g, 0, rfl, ho.lt, fun j hj => by rw [Nat.zero_add]; exact ho.cell (by omega)⟩⟩

set_option maxHeartbeats 2000000 in
theorem planFrom_0 (K rb rc b n i : Nat) (s : Int) (X : Nat → Int) (lo up : Int) (w : World) (hst : Stand w K rb b n (fun j => (rsp X lo up j).v) (Fp n X lo up)) (hi : i + 1 = n) :
    Calls Try.prog 34 #[.agg #[.slice (some ⟨rb, 0, none⟩) n rc, .map (some b)], .agg #[.int .i64 (i : Int), .int .i64 s]] w (Got K rb b n (fun j => (rsp X lo up j).v) (Fp n X lo up) w (some [s])) := by
  have hn12 := hst.n12
  have hbl := hst.memo.lt
  have hKw := hst.base
  have HS := Lib.hid hst
  have e0 : IntKind.i64.wrap ((n : Int) - 1) = (i : Int) := by rw [IntKind.wrap_i64]; omega
  have e2 : ((n : Int) - 1) = (i : Int) := by omega
  have HE := Lib.hid e2
  clear hst
  obtain rfl : n = i + 1 := hi.symm
  have e1 : ((i : Int) == (i : Int)) = true := by simp
  clear e0 e2 hi
  go_enter Try.func34, Try.ntmps34
  go_wp2
  go_ret
  have hB : Below w.heap.size w (((w.alloc (Obj.cells #[.slice (some ⟨rb, 0, none⟩) (i + 1) rc, .map (some b)] 49)).alloc (Obj.cells #[.int .i64 (i : Int), .int .i64 s] 72)).alloc (Obj.cells #[.int .i64 s] 2)) := by go_grown
  exact ⟨_, rfl, ⟨w.heap.size + 1 + 1, 1, by simp, by simp, by unfold maxLen; omega, by omega, by omega, by
    have := own_new ((w.alloc (Obj.cells #[.slice (some ⟨rb, 0, none⟩) (i + 1) rc, .map (some b)] 49)).alloc (Obj.cells #[.int .i64 (i : Int), .int .i64 s] 72)) s 2
    refine (show Own _ (w.heap.size + 1 + 1) _ 1 _ by simpa using this).congr fun j hj => ?_
    obtain rfl : j = 0 := by omega
    rfl⟩, HS.out.below hB, wrote_new hB⟩

theorem map_take {ps : List (List Int)} {k : Nat} {s : Int} (hk : k < ps.length) : (ps.take (k + 1)).map (s :: ·) = (ps.take k).map (s :: ·) ++ [s :: ps.getD k []] := by
  rw [take_snoc' hk, List.map_append]
  rfl
theorem mem_getD {ps : List (List Int)} {k : Nat} (hk : k < ps.length) : ps.getD k [] ∈ ps := by simp [List.getD, List.getElem?_eq_getElem hk]
theorem WroteIn.below' {a b' c : World} {b : Nat} (h : WroteIn a b' b (b + 1)) (k : Below b'.heap.size b' c) : WroteIn a c b (b + 1) := h.then (wrote_new k)

set_option maxHeartbeats 8000000 in
set_option maxRecDepth 100000 in
theorem planFrom_s (K rb rc b n r i : Nat) (s : Int) (X : Nat → Int) (lo up : Int) (w : World) (hst : Stand w K rb b n (fun j => (rsp X lo up j).v) (Fp n X lo up)) (hi : i + (r + 1) + 1 = n) (s0 : 3 ≤ s) (s1 : s ≤ 60)
    (hps : ∀ (w : World) (ao : Option Addr), Stand w K rb b n (fun j => (rsp X lo up j).v) (Fp n X lo up) → PreV w (some s) ao → Calls Try.prog 22 #[.agg #[.slice (some ⟨rb, 0, none⟩) n rc, .map (some b)], .int .i64 ((i : Int) + 1), .slice ao 1 1] w fun e w' => ∃ v, e = .returned v ∧ PlansV w' K b v (plans X lo up r (i + 1) (nearP s)) ∧ Stand w' K rb b n (fun j => (rsp X lo up j).v) (Fp n X lo up) ∧ WroteIn w w' b (b + 1)) :
    Calls Try.prog 34 #[.agg #[.slice (some ⟨rb, 0, none⟩) n rc, .map (some b)], .agg #[.int .i64 (i : Int), .int .i64 s]] w (Got K rb b n (fun j => (rsp X lo up j).v) (Fp n X lo up) w (pl X lo up (r + 1) i s)) := by
  have hn12 := hst.n12
  have hbl := hst.memo.lt
  have hKw := hst.base
  have HPS := Lib.hid hps
  have HS := Lib.hid hst
  obtain ⟨i0, hi0, hz0, hz1, hz2⟩ := info_parts info_num
  obtain ⟨j0, hj0, hy0, hy1, hy2⟩ := info_parts info_plan
  have e1 : ((i : Int) == (n : Int) - 1) = false := by simp; omega
  have hr12 : r + 2 ≤ 12 := by omega
  have HI := Lib.hid hi
  have hin : (i : Int) + 1 ≤ 12 := by omega
  have hB2 : Below w.heap.size w (((w.alloc (Obj.cells #[.slice (some ⟨rb, 0, none⟩) n rc, .map (some b)] 49)).alloc (Obj.cells #[.int .i64 (i : Int), .int .i64 s] 72)).alloc (Obj.cells #[.iface 81 (.int .i64 s)] 69)) := by go_grown
  have S2 := Lib.hid (hst.below hB2)
  have HB2 := Lib.hid hB2
  clear hps hst hi hB2
  go_enter Try.func34, Try.ntmps34
  go_wp2_with fail
  refine (HPS.out _ (some ⟨w.heap.size + 1 + 1, 0, none⟩) S2.out ⟨s0, s1, w.heap.size + 1 + 1, rfl, by simp, by go_simp⟩).mono ?_
  rintro e w3 ⟨v3, rfl, hpv, hs3, hw3⟩
  obtain ⟨A3, c3, V, rfl, k1, k2, hrow, hpl⟩ := hpv
  have z3 := hw3.size
  simp at z3
  have P2 : w3.cell? ⟨w.heap.size + 1, 1, none⟩ = some (.int .i64 s) := by rw [hw3.cell (by simp) (by omega)]; go_simp
  have hbd : ∀ l, l ∈ plans X lo up r (i + 1) (nearP s) → l.length = r + 1 ∧ PlanB (r + 1) s (s :: l) := fun l hl => by
    obtain ⟨t, t0, t1, hp⟩ := plans_bd hl
    exact ⟨hp.1, planB_cons s0 s1 hp⟩
  have hln := plans_len X lo up r (i + 1) (nearP s)
  have hps2 := pl_succ X lo up r i s
  generalize plans X lo up r (i + 1) (nearP s) = ps at *
  have QP2 := Lib.hid P2
  have HROW := Lib.hid hrow
  have HPL := Lib.hid hpl
  have HBD := Lib.hid hbd
  have HP2 := Lib.hid hps2
  have S3 := Lib.hid hs3
  have W3 := Lib.hid (WroteIn.then (wrote_new (b := b) HB2.out) hw3)
  clear hrow hpl hbd hps2 hs3 hw3 P2
  go_wp2_with fail
  go_loopw [28, 5] (fun t u wr => ∃ (k : Nat) (vals : List Value), k ≤ ps.length ∧ t = .int .i64 k ∧ Hid (wr.ownsRow w3.heap.size 50 1 u k vals) ∧ Hid (ValsV wr K b k vals ((ps.take k).map (s :: ·))) ∧ Hid (Stand wr K rb b n (fun j => (rsp X lo up j).v) (Fp n X lo up)) ∧ Hid (WroteIn w3 wr b (b + 1))) (fun t _ _ => ps.length - (intOf t).toNat)
  case atStart => exact ⟨0, [], by omega, rfl, ⟨rfl, .inl ⟨rfl, rfl⟩⟩, ValsV.nil _ _ _, S3.out, WroteIn.refl _ _ _⟩
  case round =>
    obtain ⟨k, vals, hk, rfl, HO, HV, HSr, HW⟩ := hrel
    have zr := HW.out.size
    by_cases hlt : k < ps.length
    · have hlt' : (k : Int) < (ps.length : Int) := by omega
      have hk0 : (0 : Int) ≤ (k : Int) := by omega
      obtain ⟨g, rfl, g0, gne, ho⟩ := HROW.out (by omega)
      have hgl := ho.lt
      have h0 : wr.cell? ⟨g, k, none⟩ = some (V k) := (HW.out.cell (b := g) (o := k) hgl (by omega)).trans (ho.cell hlt)
      have P2 : wr.cell? ⟨w.heap.size + 1, 1, none⟩ = some (.int .i64 s) := (HW.out.cell (by omega) (by omega)).trans QP2.out
      have hpk := (HPL.out k hlt).keep (w' := wr) fun g hg hne => HW.out.block g hg (by omega)
      obtain ⟨hll, hpb⟩ := HBD.out _ (mem_getD hlt)
      have HMT := Lib.hid (map_take (s := s) hlt)
      clear ho
      generalize ps.getD k [] = l at *
      obtain ⟨gk, ck, ek, q1, q2, q3, q4, ok⟩ := hpk
      rw [ek] at h0
      have HOK := Lib.hid ok
      have okl := ok.lt
      have hl0 : 0 < l.length := by omega
      generalize hLL : l.length = L at *
      have HLL := Lib.hid hLL
      have HLR := Lib.hid hll
      have HPB := Lib.hid hpb
      have hL12 : L ≤ 12 := by omega
      clear hll hpb
      have hfull : 1 < 1 + L := by omega
      have hb1 : 1 + L ≤ maxLen := by unfold maxLen; omega
      have hb2 : (1 + L) * 8 ≤ 140737488355328 := by omega
      clear ok ek hLL
      go_wp2_with (at_builtin; refine wpList_append_grows _ rfl _ _ 50 rfl 2 i0 (.int .i64 0) 1 8 Try.underlying50 hi0 hz0 hz1 hz2 rfl (by decide) (some ⟨wr.heap.size, 0, none⟩) 1 1 [.int .i64 s] rfl ?c0 ?c1 ?c2 ⟨gk, 0, none⟩ L ck (l.map (Value.int .i64)) rfl ?c5 ?c3 ?c4 hfull hb1 hb2 ?_)
      case c5 => exact HLL.out
      case c3 =>
        intro j u hj
        have hjl : j < l.length := by
          rcases Nat.lt_or_ge j l.length with h | h
          · exact h
          · rw [List.getElem?_eq_none h] at hj; cases hj
        have hj2 : j < L := by rw [← HLL.out]; exact hjl
        have hj3 : l.getD j 0 = u := by simp [List.getD, hj]
        rw [← hj3]
        exact HOK.out.cell hj2
      case c4 => intro u hu; rfl
      intro v6 w6 hown6 hgrow6
      have hp6 : PlanV w6 K b v6 (s :: l) := plan_of_owns (l := s :: l) (n := 1 + L) hown6 (by rw [List.length_cons, HLL.out]; omega) (by omega) (by first | omega | (simp; omega)) (by first | omega | (simp; omega))
      obtain ⟨g6, c6, rfl⟩ := hp6.slice
      have gB6 : Below wr.heap.size wr w6 := Below.grown (B := wr.heap.size) (by go_grown) hgrow6 (by simp) (fun g hg => by cases hg)
      have z6 := gB6.size
      have O6 := Lib.hid (owns_keep HO.out (w' := w6) (fun g hg => gB6.block g (owns_lt HO.out g hg)))
      have V6 := Lib.hid (HV.out.wrote (wrote_new gB6))
      have S6 := Lib.hid (HSr.out.below gB6)
      have W6 := Lib.hid (WroteIn.below' HW.out gB6)
      have HP6 := Lib.hid hp6
      generalize hLs : (s :: l).length = Ls at *
      have HLs := Lib.hid hLs
      have hm1 : k + 1 ≤ maxLen := by unfold maxLen; omega
      have hm2 : (k + 1) * 24 ≤ 140737488355328 := by omega
      clear hown6 hgrow6 hp6 hLs gB6 h0 P2
      go_wp2_with (at_builtin; refine wpList_append_own _ rfl _ _ 52 rfl w3.heap.size 50 j0 (.slice none 0 0) 1 24 Try.underlying52 hj0 hy0 hy1 hy2 rfl (by decide) _ _ _ rfl (O6.out.alloc _) ⟨w6.heap.size, 0, none⟩ 1 1 [.slice (some ⟨g6, 0, none⟩) Ls c6] rfl rfl ?d1 ?d2 hm1 hm2 ?d5 ?_)
      case d1 => intro j u hj; rcases j with _ | j <;> simp at hj; subst hj; go_simp
      case d2 => intro u hu; simp at hu; subst hu; rfl
      case d5 => simp <;> omega
      intro v7 w7 hown7 hgrow7 _
      have hA := Lib.hid (show Below w6.heap.size w6 (w6.alloc (Obj.cells #[.slice (some ⟨g6, 0, none⟩) Ls c6] 50)) by go_grown)
      have S7 := Lib.hid ((S6.out.below hA.out).grows (O6.out.alloc _) hgrow7)
      have W7 := Lib.hid (grown_far (WroteIn.below' W6.out hA.out) (owns_block O6.out) hgrow7)
      have V7 := Lib.hid (((V6.out.wrote (wrote_new hA.out)).add (HP6.out.keep fun g hg _ => hA.out.block g hg)).grown (O6.out.alloc _) hgrow7)
      have O7 := Lib.hid hown7
      clear hown7 hgrow7 hA
      go_wp2
      go_roundw
      case rel => exact ⟨k + 1, _, by omega, by go_num, O7.out, by rw [HMT.out]; exact V7.out, S7.out, W7.out⟩
      case measure => simp [intOf]; omega
    · obtain rfl : k = ps.length := by omega
      have hpv := HV.out.plans HO.out S3.out.base HSr.out.memo
      rw [List.take_of_length_le (Nat.le_refl _)] at hpv
      obtain ⟨A9, c9, V9, he, h1, h2, h3, h4⟩ := hpv
      rw [List.length_map] at he h1 h3 h4
      subst he
      have hg9 : ∀ j, j < ps.length → (ps.map (s :: ·)).getD j [] = s :: ps.getD j [] := fun j hj => by simp [List.getD, List.getElem?_eq_getElem hj]
      have hV9 : 0 < ps.length → ∃ b' o, A9 = some ⟨b', o, none⟩ ∧ b' < wr.heap.size ∧ ∀ j, j < ps.length → wr.cell? ⟨b', o + j, none⟩ = some (V9 j) ∧ RdL wr (V9 j) (r + 2) ((ps.map (s :: ·)).getD j []) := fun hn => by
        obtain ⟨g, e, g0, gne, ho⟩ := h3 hn
        refine ⟨g, 0, e, ho.lt, fun j hj => ⟨by rw [Nat.zero_add]; exact ho.cell hj, ?_⟩⟩
        exact rdL_of (h4 j hj) (by rw [hg9 j hj]; exact (HBD.out _ (mem_getD hj)).2) rfl
      have HV9 := Lib.hid hV9
      have H4 := Lib.hid h4
      have HPL9 := Lib.hid (show (ps.map (s :: ·)).length = ps.length from List.length_map ..)
      clear hV9 h3 h4 hg9
      go_wp2_with fail
      refine (bestPlan_i A9 ps.length c9 (r + 2) V9 (ps.map (s :: ·)) _ hln (by omega) HPL9.out HV9.out).mono ?_
      rintro e w9 ⟨hor, hb9⟩
      have S9 := Lib.hid (HSr.out.below hb9)
      have W9 := Lib.hid (W3.out.then (WroteIn.below' HW.out hb9))
      have HB9 := Lib.hid hb9
      clear hb9
      rcases hor with ⟨hz, rfl⟩ | ⟨j, hj, rfl, hbest⟩
      · have HR := Lib.hid (show pl X lo up (r + 1) i s = none by rw [HP2.out, List.length_eq_zero_iff.1 hz]; rfl)
        clear hz
        go_wp2
        go_ret
        exact ⟨_, rfl, by rw [HR.out]; exact rfl, S9.out, W9.out⟩
      · have HR := Lib.hid (show pl X lo up (r + 1) i s = some ((ps.map (s :: ·)).getD j []) by rw [HP2.out, hbest])
        have hpj := (H4.out j hj).keep (w' := w9) fun g hg _ => HB9.out.block g hg
        have HPJ := Lib.hid hpj
        generalize V9 j = vj at *
        clear hbest hpj
        go_wp2
        go_ret
        exact ⟨_, rfl, by rw [HR.out]; exact HPJ.out, S9.out, W9.out⟩

theorem planFrom_i (K rb rc b n : Nat) (X : Nat → Int) (lo up : Int) (hwf : ∀ j, j < n → (rsp X lo up j).wf) (r : Nat) : ∀ (i : Nat) (s : Int) (w : World), i + r + 1 = n → 3 ≤ s → s ≤ 60 → Stand w K rb b n (fun j => (rsp X lo up j).v) (Fp n X lo up) →
    Calls Try.prog 34 #[.agg #[.slice (some ⟨rb, 0, none⟩) n rc, .map (some b)], .agg #[.int .i64 (i : Int), .int .i64 s]] w (Got K rb b n (fun j => (rsp X lo up j).v) (Fp n X lo up) w (Fp n X lo up i s)) := by
  induction r with
  | zero =>
    intro i s w hi s0 s1 hst
    rw [Fp_at (r := 0) hi, pl_zero]
    exact planFrom_0 K rb rc b n i s X lo up w hst (by omega)
  | succ r ih =>
    intro i s w hi s0 s1 hst
    rw [Fp_at (r := r + 1) hi]
    exact planFrom_s K rb rc b n r i s X lo up w hst hi s0 s1 fun w ao hst hp =>
      plansFrom_i K rb rc b n r (i + 1) X lo up (Fp n X lo up) (some s) ao w hst (by omega) hwf (fun t => Fp_at (by omega)) hp
        fun t w t0 t1 hst => value_i K rb b n (fun j => (rsp X lo up j).v) (Fp n X lo up) (i + 1) t (.agg #[.slice (some ⟨rb, 0, none⟩) n rc, .map (some b)]) w hst (by omega) t0 t1 fun w hst => ih (i + 1) t w (by omega) t0 t1 hst

theorem plansTop_i (K rb rc b n : Nat) (X : Nat → Int) (lo up : Int) (hn : 0 < n) (hwf : ∀ j, j < n → (rsp X lo up j).wf) (w : World) (hst : Stand w K rb b n (fun j => (rsp X lo up j).v) (Fp n X lo up)) :
    Calls Try.prog 22 #[.agg #[.slice (some ⟨rb, 0, none⟩) n rc, .map (some b)], .int .i64 0, .slice none 0 0] w fun e w' => ∃ v, e = .returned v ∧ PlansV w' K b v (plans X lo up (n - 1) 0 (fun _ => true)) ∧ Stand w' K rb b n (fun j => (rsp X lo up j).v) (Fp n X lo up) ∧ WroteIn w w' b (b + 1) :=
  plansFrom_i K rb rc b n (n - 1) 0 X lo up (Fp n X lo up) none none w hst hn hwf (fun t => Fp_at (by omega)) rfl
    fun t w t0 t1 hst => value_i K rb b n (fun j => (rsp X lo up j).v) (Fp n X lo up) 0 t (.agg #[.slice (some ⟨rb, 0, none⟩) n rc, .map (some b)]) w hst hn t0 t1 fun w hst => planFrom_i K rb rc b n X lo up hwf (n - 1) 0 t w (by omega) t0 t1 hst

/-- the best plan of a shape -/
def topPlan (n : Nat) (X : Nat → Int) (lo up : Int) : Option (List Int) := bestL (plans X lo up (n - 1) 0 (fun _ => true))

end Go.Proofs.Ytldeeilgmogjjaa.shp
