/-
  The model's copy of numbers, whatever the source; lists of beds of the call's own whose rows may grow.
-/
import Derived.Test.YtcpaenmhnoagdacDrawL
import Derived.Test.YtcpaenmhnoagdacAppend
import Derived.OwnWalk
namespace Go.Proofs.Ytcpaenmhnoagdac.src
open Go.ChangeShapes Go.WideShapes Go.ChangeAt Go.RowKit Go.Proofs.Ytcpaenmhnoagdac.mem
set_option linter.unusedVariables false

/-- append of a nil slice: nothing turns -/
theorem wpList_append_nothing {P : Program} {w : World} {ops : Array Oper} {rest : List Oper} {o : Oper} {a : Act} {Q : Exit → Act → World → Prop} (hgd : o.guard = none) (s x : Operand) (t : TypeId)
    (ho : o.op = .call { callee := .builtin .append, args := #[s, x], argTypes := #[t, t] }) (B : Nat) (E : TypeId) (i : TypeInfo) (size : Nat) (ht : P.underlying t = some (.slice E)) (hi : P.info? E = some i)
    (v : Value) (n c : Nat) (xs : List Value) (hs : a.eval s = v) (hown : w.ownsRow B E size v n xs) (hx : a.eval x = .slice none 0 c)
    (h : wpList P ops Q rest (a.put o.dst v) w) : wpList P ops Q (o :: rest) a w := by
  have hrun : (Builtin.append_ #[t, t] o.type #[v, .slice none 0 c]).run P w = .ok v w := by
    rcases hown.2 with ⟨rfl, rfl⟩ | ⟨g, cap, cur, rfl, _, _, hnc, _⟩
    · simp [Builtin.append_, run_underlying ht, sizeOf, typeInfo, hi, Builtin.lenOf, Builtin.firstCells]
    · simp [Builtin.append_, run_underlying ht, sizeOf, typeInfo, hi, Builtin.lenOf, Builtin.firstCells, hnc, storeCells]
  refine wpList_plain hgd fun K hK => ?_
  unfold Oper.wp
  simp [execOp, ho, resolve, invoke, builtin, hs, hx, hrun, Result.andThen]
  exact hK _ _ h

theorem iC_at {X : Nat → Int} {n j : Nat} {u : Value} (h : (iC X n)[j]? = some u) : j < n ∧ u = .int .i64 (X j) := by
  unfold iC at h
  rw [List.getElem?_map] at h
  by_cases hj : j < n
  · rw [List.getElem?_range hj] at h
    exact ⟨hj, by simpa using h.symm⟩
  · rw [List.getElem?_eq_none (by simp; omega)] at h
    cases h
theorem add_at (b o j : Nat) : (⟨b, o, none⟩ : Addr).add j = ⟨b, o + j, none⟩ := by
  unfold Addr.add
  split
  · rename_i e; rw [e]; rfl
  · rfl
/-- the answer is a new row of numbers, whose room is known -/
def NewOwn (w : World) (n : Nat) (X : Nat → Int) (e : Ending) (w' : World) : Prop :=
  ∃ A c, e = .returned (.slice A n c) ∧ n ≤ c ∧ c ≤ maxLen ∧ w'.ownsRow w.heap.size 2 1 (.slice A n c) n (iC X n) ∧ Below w.heap.size w w'
theorem newOwn_of {w w' : World} {n : Nat} {X : Nat → Int} {v : Value} (h : w'.ownsRow w.heap.size 2 1 v n (iC X n)) (hb : Below w.heap.size w w') : NewOwn w n X (.returned v) w' := by
  obtain ⟨A, c, rfl, h1, h2, _⟩ := own_of_owns h
  exact ⟨A, c, rfl, h1, h2, h, hb⟩

set_option maxHeartbeats 2000000 in
set_option maxRecDepth 100000 in
theorem own_any (A : Option Addr) (n c : Nat) (X : Nat → Int) (w : World) (hn : n ≤ 1048576) (h : Sl w A n 1 X) :
    Calls Try.prog 75 #[.slice A n c] w (NewOwn w n X) := by
  obtain ⟨i0, hi0, hz0, hz1, hz2⟩ := info_parts nums.info_num
  rcases A with _ | ad
  · obtain rfl : n = 0 := by
      rcases Nat.eq_zero_or_pos n with h0 | h0
      · exact h0
      · obtain ⟨b, o, e, _⟩ := h h0
        cases e
    go_enter Try.func75, Try.ntmps75
    go_wp2_with (at_builtin; refine wpList_append_nothing rfl _ _ 24 rfl w.heap.size 2 i0 1 Try.underlying24 hi0 _ 0 c _ rfl (owns_new0 w 2 1 w.heap.size (Nat.le_refl _)) rfl ?_)
    go_ret
    exact newOwn_of (owns_new0 w 2 1 w.heap.size (Nat.le_refl _)) (by go_grown)
  · have H := Lib.hid h
    clear h
    go_enter Try.func75, Try.ntmps75
    go_wp2_with (at_builtin; refine wpList_append_own _ rfl _ _ 24 rfl w.heap.size 2 i0 (.int .i64 0) 1 8 Try.underlying24 hi0 hz0 hz1 hz2 rfl (by decide) _ _ _ rfl (owns_new0 w 2 1 w.heap.size (Nat.le_refl _)) ad n c (iC X n) rfl (by rw [iC_len]; omega) ?c1 ?c2 ?c3 ?c4 ?c5 ?_)
    case c1 =>
      intro j u hj
      obtain ⟨h1, rfl⟩ := iC_at hj
      obtain ⟨b, o, e, hb, hI⟩ := H.out (by omega)
      cases e
      rw [add_at]
      exact (Below.cell (B := w.heap.size) (p := ⟨b, o + j, none⟩) (by go_grown) hb).trans (hI j (by omega))
    case c2 => intro u hu; obtain ⟨j, hj⟩ := List.getElem?_of_mem hu; obtain ⟨_, rfl⟩ := iC_at hj; rfl
    case c3 => unfold maxLen; omega
    case c4 => omega
    case c5 => simp
    intro v' w1 hown1 hgrow1 _
    try simp only [Nat.zero_add, List.nil_append] at hown1
    have g1 : Below w.heap.size w w1 := Below.grown (by go_grown) hgrow1 (by simp) (fun g hg => by simp [Value.ownBlock] at hg; omega)
    have N1 := Lib.hid (newOwn_of hown1 g1)
    clear hown1 hgrow1
    go_wp2
    go_ret
    exact N1.out

-- a list of beds of the call's own, whose rows of numbers may grow
theorem owns_lt {w : World} {B n size : Nat} {E : TypeId} {v : Value} {xs : List Value} (h : w.ownsRow B E size v n xs) : ∀ g, v.ownBlock = some g → g < w.heap.size := fun j e => by
  rcases h.2 with ⟨rfl, _⟩ | ⟨g, cap, cur, rfl, hB, hh, _⟩
  · simp [Value.ownBlock] at e
  · simp [Value.ownBlock] at e
    subst e
    exact (Array.getElem?_eq_some_iff.1 hh).1
theorem owns_at {w : World} {B n size : Nat} {E : TypeId} {v : Value} {xs : List Value} (h : w.ownsRow B E size v n xs) : ∀ g, v.ownBlock = some g → ∃ c, w.heap[g]? = some (.cells c E (0, 0)) := fun j e => by
  rcases h.2 with ⟨rfl, _⟩ | ⟨g, cap, cur, rfl, hB, hh, _⟩
  · simp [Value.ownBlock] at e
  · simp [Value.ownBlock] at e
    subst e
    exact ⟨cur, hh⟩
theorem owns_base {w : World} {B B' n size : Nat} {E : TypeId} {v : Value} {xs : List Value} (h : w.ownsRow B E size v n xs) (hB : B' ≤ B) : w.ownsRow B' E size v n xs := by
  rcases h with ⟨hl, h | ⟨g, cap, cur, e, hg, r⟩⟩
  · exact ⟨hl, .inl h⟩
  · exact ⟨hl, .inr ⟨g, cap, cur, e, by omega, r⟩⟩
structure Cop (w : World) (B : Nat) (v : Value) (i : Nat) (P : Nat → Option Addr) (M C : Nat → Nat) (Y : Nat → Nat → Int) (G : Nat → Int) : Prop where
  owns : w.ownsRow B 26 2 v i ((List.range (i * 2)).map (rod.bedV P M C G))
  row : ∀ j, j < i → w.ownsRow B 2 1 (.slice (P j) (M j) (C j)) (M j) (iC (Y j) (M j))
  apart : ∀ j k, j < k → k < i → ∀ g, (Value.slice (P j) (M j) (C j)).ownBlock = some g → (Value.slice (P k) (M k) (C k)).ownBlock ≠ some g
section
variable {w w' : World} {B i : Nat} {v : Value} {P : Nat → Option Addr} {M C : Nat → Nat} {Y : Nat → Nat → Int} {G : Nat → Int}
theorem Cop.keep (h : Cop w B v i P M C Y G) (hk : ∀ k, k < w.heap.size → B ≤ k → w'.heap[k]? = w.heap[k]?) : Cop w' B v i P M C Y G :=
  ⟨owns_of_block h.owns fun g e hg => hk g hg (owns_ge h.owns g e), fun j hj => owns_of_block (h.row j hj) fun g e hg => hk g hg (owns_ge (h.row j hj) g e), h.apart⟩
theorem Cop.new (w : World) (P : Nat → Option Addr) (M C : Nat → Nat) (Y : Nat → Nat → Int) (G : Nat → Int) : Cop (w.alloc (.cells #[] 26)) w.heap.size (.slice (some ⟨w.heap.size, 0, none⟩) 0 0) 0 P M C Y G :=
  ⟨owns_new0 w 26 2 w.heap.size (Nat.le_refl _), fun j hj => absurd hj (by omega), fun j k _ hk => absurd hk (by omega)⟩
/-- a row of one's own as a slice to be read -/
theorem owns_sl {w : World} {B n c : Nat} {A : Option Addr} {X : Nat → Int} (h : w.ownsRow B 2 1 (.slice A n c) n (iC X n)) : Sl w A n 1 X := by
  obtain ⟨A', c', e, _, _, hr⟩ := own_of_owns h
  cases e
  exact hr.sl
theorem Cop.add {wx w5 : World} {A : Option Addr} {m c : Nat} {Z : Nat → Int} {a : Int} {v' : Value} (h : Cop w B v i P M C Y G) (hB : B ≤ w.heap.size) (hb : Below w.heap.size w wx) (hn : wx.ownsRow w.heap.size 2 1 (.slice A m c) m (iC Z m))
    (h5 : w5.ownsRow B 26 2 v' (i + 1) ((List.range (i * 2)).map (rod.bedV P M C G) ++ [.slice A m c, .int .i64 a])) (hk : ∀ k, k < wx.heap.size → v.ownBlock ≠ some k → w5.heap[k]? = wx.heap[k]?) :
    Cop w5 B v' (i + 1) (fun j => if j = i then A else P j) (fun j => if j = i then m else M j) (fun j => if j = i then c else C j) (fun j => if j = i then Z else Y j) (fun j => if j = i then a else G j) := by
  have hx := h.keep (w' := wx) fun k hk _ => hb.block k hk
  have keep : ∀ {B' n : Nat} {u : Value} {xs : List Value}, wx.ownsRow B' 2 1 u n xs → w5.ownsRow B' 2 1 u n xs := fun {B' n u xs} ho =>
    owns_of_block ho fun g e hg => hk g hg (by obtain ⟨cs, hh⟩ := owns_at ho g e; exact owns_ne hx.owns hh (by decide))
  refine ⟨by rw [list_new]; exact h5, fun j hj => ?_, fun j k hjk hk1 g hg => ?_⟩
  · by_cases e : j = i
    · subst e; simp only [if_true]; exact owns_base (keep hn) hB
    · simp only [if_neg e]; exact keep (hx.row j (by omega))
  · have e1 : ¬ j = i := by omega
    simp only [if_neg e1] at hg
    by_cases e2 : k = i
    · subst e2
      simp only [if_true]
      intro e3
      have h1 := owns_lt (h.row j (by omega)) g hg
      have h2 := owns_ge hn g e3
      omega
    · simp only [if_neg e2]
      exact h.apart j k hjk (by omega) g hg
theorem Cop.block {Q : Option Addr} {d : Nat} (h : Cop w B (.slice Q i d) i P M C Y G) (hi : 0 < i) : ∃ g, Q = some ⟨g, 0, none⟩ ∧ B ≤ g ∧ OwnV w g 26 (i * 2) (rod.bedV P M C G) := by
  obtain ⟨A, c, e, _, _, h3⟩ := ownV_of_owns h.owns
  cases e
  obtain ⟨g, e, hg, _, ho⟩ := h3 hi
  exact ⟨g, e, hg, ho⟩
/-- the list, where some of its cells and rows have turned -/
theorem beds_of {g i : Nat} {P : Nat → Option Addr} {M C : Nat → Nat} {Y : Nat → Nat → Int} {G : Nat → Int} (ho : OwnV w g 26 (i * 2) (rod.bedV P M C G)) (hr : ∀ j, j < i → Sl w (P j) (M j) 1 (Y j)) : rod.Beds w (some ⟨g, 0, none⟩) i M Y G := fun hn => by
  refine ⟨g, 0, rfl, ho.lt, fun j hj => ⟨⟨P j, C j, ?_, hr j hj⟩, ?_⟩⟩
  · have := ho.cell (j := j * 2) (by omega)
    rw [rod.bedV_0] at this
    simpa using this
  · have := ho.cell (j := j * 2 + 1) (by omega)
    rw [rod.bedV_1] at this
    simpa using this
theorem Cop.beds {Q : Option Addr} {d : Nat} (h : Cop w B (.slice Q i d) i P M C Y G) : rod.Beds w Q i M Y G := fun hn => by
  obtain ⟨g, rfl, hg, ho⟩ := h.block hn
  exact beds_of ho (fun j hj => owns_sl (h.row j hj)) hn
theorem Cop.old {Q : Option Addr} {d g : Nat} (h : Cop w B (.slice Q i d) i P M C Y G) (ho : OwnV w g 26 (i * 2) (rod.bedV P M C G)) (x : Nat) (y : Value) : ∀ j, j < i → Sl (w.setCell ⟨g, x, none⟩ y) (P j) (M j) 1 (Y j) := fun j hj =>
  owns_sl (owns_set (h.row j hj) (by obtain ⟨c, hh, _⟩ := ho; exact owns_ne (h.row j hj) hh (by decide)) y)
theorem bedV_age {x : Int} (j : Nat) : (if j = 1 then Value.int .i64 x else rod.bedV P M C G j) = rod.bedV P M C (fun k => if k = 0 then x else G k) j := by
  unfold rod.bedV
  by_cases e : j = 1
  · subst e; rfl
  · rw [if_neg e]
    by_cases e2 : j % 2 = 0
    · rw [if_pos e2, if_pos e2]
    · rw [if_neg e2, if_neg e2]
      have : ¬ j / 2 = 0 := by omega
      simp only [if_neg this]
theorem bedV_row {A : Option Addr} {m c : Nat} (j : Nat) : (if j = 0 then Value.slice A m c else rod.bedV P M C G j) = rod.bedV (fun k => if k = 0 then A else P k) (fun k => if k = 0 then m else M k) (fun k => if k = 0 then c else C k) G j := by
  unfold rod.bedV
  by_cases e : j = 0
  · subst e; rfl
  · rw [if_neg e]
    by_cases e2 : j % 2 = 0
    · rw [if_pos e2, if_pos e2]
      have : ¬ j / 2 = 0 := by omega
      simp only [if_neg this]
    · rw [if_neg e2, if_neg e2]
/-- the first bed is older -/
theorem Cop.age {d g : Nat} (h : Cop w B (.slice (some ⟨g, 0, none⟩) i d) i P M C Y G) (ho : OwnV w g 26 (i * 2) (rod.bedV P M C G)) (x : Int) : rod.Beds (w.setCell ⟨g, 1, none⟩ (.int .i64 x)) (some ⟨g, 0, none⟩) i M Y (fun k => if k = 0 then x else G k) :=
  beds_of ((ho.set 1 _).congr fun j _ => bedV_age j) (h.old ho 1 _)
/-- the first bed has one number more -/
theorem Cop.more {w5 : World} {d g d6 : Nat} {A6 : Option Addr} {x : Int} {o : Obj} (h : Cop w B (.slice (some ⟨g, 0, none⟩) i d) i P M C Y G) (hi : 0 < i) (ho : OwnV w g 26 (i * 2) (rod.bedV P M C G)) (h5 : w5.ownsRow B 2 1 (.slice A6 (M 0 + 1) d6) (M 0 + 1) (iC (Y 0) (M 0) ++ [.int .i64 x]))
    (hg : (w.alloc o).grownBy w5 (Value.slice (P 0) (M 0) (C 0)).ownBlock) : OwnV w5 g 26 (i * 2) (rod.bedV P M C G) ∧
    rod.Beds (w5.setCell ⟨g, 0, none⟩ (.slice A6 (M 0 + 1) d6)) (some ⟨g, 0, none⟩) i (fun k => if k = 0 then M 0 + 1 else M k) (fun k => if k = 0 then snoc (Y 0) (M 0) x else Y k) G := by
  have hal : ∀ k, k < w.heap.size → (Value.slice (P 0) (M 0) (C 0)).ownBlock ≠ some k → w5.heap[k]? = w.heap[k]? := fun k hk hne => (hg.block k (by simp; omega) (fun e => hne e.symm)).trans (Go.Deep.blk_alloc_lt _ _ _ hk)
  have hw5 : OwnV w5 g 26 (i * 2) (rod.bedV P M C G) := ho.of_block (hal g ho.lt (by obtain ⟨c, hh, _⟩ := ho; exact owns_ne (h.row 0 hi) hh (by decide)))
  refine ⟨hw5, beds_of (C := fun k => if k = 0 then d6 else C k) ((hw5.set 0 _).congr fun j _ => bedV_row j) fun j hj => ?_⟩
  have hne : ∀ {n : Nat} {u : Value} {xs : List Value}, w5.ownsRow B 2 1 u n xs → u.ownBlock ≠ some g := fun h => by obtain ⟨c, hh, _⟩ := hw5; exact owns_ne h hh (by decide)
  by_cases e : j = 0
  · subst e
    simp only [if_true]
    rw [← iC_snoc] at h5
    exact owns_sl (owns_set h5 (hne h5) _)
  · simp only [if_neg e]
    have h6 : w5.ownsRow B 2 1 (.slice (P j) (M j) (C j)) (M j) (iC (Y j) (M j)) := owns_of_block (h.row j hj) fun g' e' hg' => hal g' hg' (fun e2 => h.apart 0 j (by omega) hj g' e2 e')
    exact owns_sl (owns_set h6 (hne h6) _)
end
end Go.Proofs.Ytcpaenmhnoagdac.src
