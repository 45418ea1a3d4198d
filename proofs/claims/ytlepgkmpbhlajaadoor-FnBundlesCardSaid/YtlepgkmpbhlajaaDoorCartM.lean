/-
  Bundles for a cart: the mathematics of all loads and the best one; what an append leaves of the old row. No function of the program lies here.
-/
import Derived.Test.YtlepgkmpbhlajaaDoorChoice
import Derived.Test.YtlepgkmpbhlajaaDoorBunM
import Derived.Test.YtlepgkmpbhlajaaDoorOwnV
import Derived.Deep.AppendLies
namespace Go.Proofs.YtlepgkmpbhlajaaDoor.rod
open Go.ChangeShapes Go.WideShapes Go.ChangeAt Go.RowKit Go.Proofs.YtlepgkmpbhlajaaDoor.mem
set_option linter.unusedVariables false

/-- what the bundles of a set weigh, of the first n -/
def sb (X : Nat → Int) (B : Nat) : Nat → Int
  | 0 => 0
  | i + 1 => sb X B i + if B.testBit i then X (i * 3 + 2) else 0
theorem sb_yes {X : Nat → Int} {B i : Nat} (h : B.testBit i = true) : sb X B (i + 1) = sb X B i + X (i * 3 + 2) := by simp only [sb, if_pos h]
theorem sb_no {X : Nat → Int} {B i : Nat} (h : B.testBit i = false) : sb X B (i + 1) = sb X B i := by simp [sb, h]
theorem sb_bd {X : Nat → Int} {B n : Nat} (hv : allU X n = true) : ∀ i, i ≤ n → 0 ≤ sb X B i ∧ sb X B i ≤ 50000 * i
  | 0, _ => by simp [sb]
  | i + 1, h => by
    have ih := sb_bd (B := B) hv i (by omega)
    have hb := allU_bd hv (i := i) (by omega)
    simp only [sb]
    split <;> omega
theorem sb_congr {X : Nat → Int} {B C : Nat} : ∀ i, (∀ j, j < i → B.testBit j = C.testBit j) → sb X B i = sb X C i
  | 0, _ => rfl
  | i + 1, h => by simp only [sb, sb_congr i (fun j hj => h j (by omega)), h i (by omega)]
theorem sb_more {X : Nat → Int} {B m : Nat} (hB : B < 2 ^ m) : ∀ i, m ≤ i → sb X B i = sb X B m
  | 0, h => by obtain rfl : m = 0 := by omega
               rfl
  | i + 1, h => by
    by_cases e : m = i + 1
    · rw [e]
    · rw [sb_no (bit_out hB (by omega)), sb_more hB i (by omega)]
/-- the next table: with one bundle more -/
theorem add_or {i b : Nat} (hb : b < 2 ^ i) : b ||| 2 ^ i = 2 ^ i + b := by
  rw [Nat.or_two_pow_eq_add_of_lt hb, Nat.add_comm]
theorem sb_add {X : Nat → Int} {i b : Nat} (hb : b < 2 ^ i) : sb X (2 ^ i + b) (i + 1) = sb X b i + X (i * 3 + 2) := by
  rw [← add_or hb, sb_yes (by rw [Nat.testBit_or, Nat.testBit_two_pow_self, Bool.or_true])]
  congr 1
  exact sb_congr i fun j hj => by rw [Nat.testBit_or, Nat.testBit_two_pow, decide_eq_false (by omega), Bool.or_false]

/-- a set is a better load -/
def btC (X : Nat → Int) (n : Nat) (h : Int) (b : Nat) (p : Nat × Int) : Bool := decide (sb X b n ≤ h) && (if sb X b n = p.2 then befB n b p.1 else decide (p.2 < sb X b n))
/-- the best of the first b sets that are not too heavy -/
def bstC (X : Nat → Int) (n : Nat) (h : Int) : Nat → Nat × Int
  | 0 => (0, 0)
  | b + 1 => if btC X n h b (bstC X n h b) = true then (b, sb X b n) else bstC X n h b
theorem bstC_new {X : Nat → Int} {n b : Nat} {h : Int} (c : btC X n h b (bstC X n h b) = true) : bstC X n h (b + 1) = (b, sb X b n) := by simp only [bstC, if_pos c]
theorem bstC_old {X : Nat → Int} {n b : Nat} {h : Int} (c : btC X n h b (bstC X n h b) = false) : bstC X n h (b + 1) = bstC X n h b := by simp [bstC, c]
theorem bstC_lt {X : Nat → Int} {n : Nat} {h : Int} : ∀ b, b ≤ 2 ^ n → (bstC X n h b).1 < 2 ^ n
  | 0, _ => Nat.two_pow_pos n
  | b + 1, hb => by
    have ih := bstC_lt (X := X) (n := n) (h := h) b (by omega)
    cases c : btC X n h b (bstC X n h b)
    · rw [bstC_old c]; exact ih
    · rw [bstC_new c]; show b < 2 ^ n; omega
theorem bstC_bd {X : Nat → Int} {n : Nat} {h : Int} (hv : allU X n = true) : ∀ b, 0 ≤ (bstC X n h b).2 ∧ (bstC X n h b).2 ≤ 50000 * n
  | 0 => ⟨Int.le_refl _, by show (0 : Int) ≤ _; omega⟩
  | b + 1 => by
    have ih := bstC_bd (h := h) hv b
    have hb := sb_bd (B := b) hv n (Nat.le_refl _)
    cases c : btC X n h b (bstC X n h b)
    · rw [bstC_old c]; exact ih
    · rw [bstC_new c]; exact hb
/-- which list, or number, says no -/
def CartNo (n : Nat) (X : Nat → Int) (h code : Int) : Prop := (listU n X = false ∧ code = 1) ∨ (listU n X = true ∧ inB h 0 1000000 = false ∧ code = 2) ∨ (listU n X = true ∧ inB h 0 1000000 = true ∧ 10 < n ∧ code = 5)

/-- onto a row of the call's own: the old cells stay where they were, whether the row grows or not -/
theorem run_append_keeps {P : Program} (w : World) (t ty : TypeId) (base : Nat) (e : TypeId) (i : TypeInfo) (z : Value) (size bytes : Nat) (ht : P.underlying t = some (.slice e)) (hi : P.info? e = some i) (hz : i.zero = some z)
    (hsize : i.size = size) (hby : i.bytes = bytes) (hzs : z.cells.size = size) (hsz : 0 < size)
    (v : Value) (n : Nat) (xs : List Value) (hown : w.ownsRow base e size v n xs)
    (ad : Addr) (m c : Nat) (news : List Value) (hl : news.length = m * size) (hnews : ∀ j u, news[j]? = some u → w.cell? (ad.add j) = some u) (h1 : ∀ u ∈ news, u.oneCell' = true)
    (h63 : n + m ≤ maxLen) (hbytes : (n + m) * bytes ≤ 140737488355328) (hbase : base ≤ w.heap.size) (v' : Value) (w' : World)
    (hr : (Builtin.append_ #[t, t] ty #[v, .slice (some ad) m c]).run P w = .ok v' w') (g0 : Nat) (hg0 : v.ownBlock = some g0) :
    ∀ j, j < n * size → w'.cell? ⟨g0, j, none⟩ = w.cell? ⟨g0, j, none⟩ := by
  obtain ⟨v2, w2, hr2, hown2, hgb, hnil, hat⟩ := run_append_own_at (P := P) w base t ty e i z size bytes ht hi hz hsize hby hzs hsz v n xs hown ad m c news hl hnews h1 h63 hbytes hbase
  rw [hr] at hr2
  injection hr2 with e1 e2
  subst e1 e2
  have hown' := hown
  rcases hown.2 with ⟨rfl, _⟩ | ⟨g, cap, cur, rfl, hbg, hg, hnc, hcm, hcs, htake⟩
  · simp [Value.ownBlock] at hg0
  · have hgg : g = g0 := by simpa [Value.ownBlock] using hg0
    subst hgg
    intro j hj
    have hxl : j < xs.length := by rw [hown.1]; exact hj
    have hold : w.cell? ⟨g, j, none⟩ = xs[j]? := by
      have h0 := hown.cells (g := g) rfl
      have h2 := h0 j xs[j] (by rw [List.getElem?_eq_getElem hxl])
      have ha : (⟨g, 0, none⟩ : Addr).add j = ⟨g, j, none⟩ := by unfold Addr.add; split <;> simp_all
      rw [ha] at h2
      rw [h2, List.getElem?_eq_getElem hxl]
    by_cases hroom : n + m ≤ cap
    · subst hsize
      have hfit : n * i.size + news.length ≤ cur.size := by rw [hl, hcs, ← Nat.add_mul]; exact Nat.mul_le_mul_right _ hroom
      have hr3 := run_append_room (P := P) w t ty e i ht hi g n cap cur hg ad m c news hl hnews h1 hroom hfit
      rw [hr] at hr3
      injection hr3 with e1 e2
      subst e1
      have h3 := hown2.cells (g := g) rfl
      have h4 := h3 j xs[j] (by rw [List.getElem?_append_left hxl, List.getElem?_eq_getElem hxl])
      have ha : (⟨g, 0, none⟩ : Addr).add j = ⟨g, j, none⟩ := by unfold Addr.add; split <;> simp_all
      rw [ha] at h4
      rw [h4, hold, List.getElem?_eq_getElem hxl]
    · subst hsize
      subst hby
      have hsmall : n + m ≤ 9223372036854775807 := by simp only [maxLen] at h63; omega
      have holds : ∀ j u, xs[j]? = some u → w.cell? ((⟨g, 0, none⟩ : Addr).add j) = some u := hown.cells (g := g) rfl
      have hr3 := run_append_grow (P := P) w t ty e i z ht hi hz ⟨g, 0, none⟩ n cap xs hown.1 holds ad m c news hl hnews (by omega) (by omega) (growslice_fits (by omega) hbytes)
      rw [hr] at hr3
      injection hr3 with e1 e2
      subst e2
      have hlt : g < w.heap.size := by
        obtain ⟨hlt, _⟩ := Array.getElem?_eq_some_iff.1 hg
        exact hlt
      exact World.cell?_of_block (Go.Deep.blk_alloc_lt w.drew _ _ hlt)

/-- the same at the walk: as wpList_append_own, and the old cells stay -/
theorem wpList_append_keeps {P : Program} {w : World} {ops : Array Oper} {rest : List Oper} {o : Oper} {a : Act} {Q : Exit → Act → World → Prop} (hgd : o.guard = none) (s x : Operand) (t : TypeId)
    (ho : o.op = .call { callee := .builtin .append, args := #[s, x], argTypes := #[t, t] })
    (base : Nat) (e : TypeId) (i : TypeInfo) (z : Value) (size bytes : Nat) (ht : P.underlying t = some (.slice e)) (hi : P.info? e = some i) (hz : i.zero = some z)
    (hsize : i.size = size) (hby : i.bytes = bytes) (hzs : z.cells.size = size) (hsz : 0 < size)
    (v : Value) (n : Nat) (xs : List Value) (hs : a.eval s = v) (hown : w.ownsRow base e size v n xs)
    (ad : Addr) (m c : Nat) (news : List Value) (hx : a.eval x = .slice (some ad) m c) (hl : news.length = m * size) (hnews : ∀ j u, news[j]? = some u → w.cell? (ad.add j) = some u) (h1 : ∀ u ∈ news, u.oneCell' = true)
    (h63 : n + m ≤ maxLen) (hbytes : (n + m) * bytes ≤ 140737488355328) (hbase : base ≤ w.heap.size)
    (h : ∀ v' w', w'.ownsRow base e size v' (n + m) (xs ++ news) → w.grownBy w' v.ownBlock → (v'.ownBlock = v.ownBlock ∨ v'.ownBlock = some w.heap.size) → (∀ g0, v.ownBlock = some g0 → ∀ j, j < n * size → w'.cell? ⟨g0, j, none⟩ = w.cell? ⟨g0, j, none⟩) → wpList P ops Q rest (a.put o.dst v') w') :
    wpList P ops Q (o :: rest) a w := by
  refine wpList_plain hgd fun K hK => ?_
  obtain ⟨v', w', hr, h2, h3, h4, h5⟩ := run_append_own_at (P := P) w base t o.type e i z size bytes ht hi hz hsize hby hzs hsz v n xs hown ad m c news hl hnews h1 h63 hbytes hbase
  have hk := run_append_keeps w t o.type base e i z size bytes ht hi hz hsize hby hzs hsz v n xs hown ad m c news hl hnews h1 h63 hbytes hbase v' w' hr
  unfold Oper.wp execOp
  simp only [ho, resolve, invoke, builtin, Sem.run_bind, Sem.run_pure, Result.andThen_ok, List.map_toArray, List.map_cons, List.map_nil, hs, hx, hr]
  exact hK _ _ (h v' w' h2 h3 h5 hk)

end Go.Proofs.YtlepgkmpbhlajaaDoor.rod
