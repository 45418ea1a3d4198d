/-
  A stable order: the mathematics. No function of the program lies here.
-/
import Derived.Test.YtlepgkmpbhlajaaDoorMem
open Go.ChangeShapes Go.WideShapes Go.ChangeAt Go.RowKit
namespace Go.Proofs.YtlepgkmpbhlajaaDoor.stab
set_option linter.unusedVariables false

/-- what two calls write, one behind the other -/
theorem _root_.Go.Proofs.YtlepgkmpbhlajaaDoor.mem.WroteIn.trans1 {a b c : World} {lo hi : Nat} (h : mem.WroteIn a b lo hi) (k : mem.WroteIn b c lo hi) : mem.WroteIn a c lo hi :=
  ⟨k.os.trans h.os, k.tape.trans h.tape, k.output.trans h.output, Nat.le_trans h.size k.size, fun i hi' hn => (k.block i (Nat.lt_of_lt_of_le hi' h.size) hn).trans (h.block i hi' hn)⟩

theorem wrote_below {w w' : World} {lo hi : Nat} (h : Below w.heap.size w w') : mem.WroteIn w w' lo hi := ⟨h.os, h.tape, h.output, h.size, fun k hk _ => h.block k hk⟩

/-- the strict order: by lt, then by number -/
def T (lt : Nat → Nat → Bool) (x y : Nat) : Prop := lt x y = true ∨ lt y x = false ∧ x < y

/-- less is a strict weak order -/
structure Swo (lt : Nat → Nat → Bool) : Prop where
  asymm : ∀ x y, lt x y = true → lt y x = false
  ntrans : ∀ x y z, lt x y = false → lt y z = false → lt x z = false

section
variable {lt : Nat → Nat → Bool} (h : Swo lt)
include h
theorem T_irrefl {x : Nat} (t : T lt x x) : False := by
  rcases t with t | ⟨_, t⟩
  · have := h.asymm x x t; rw [t] at this; cases this
  · omega
theorem T_trans {x y z : Nat} (t : T lt x y) (u : T lt y z) : T lt x z := by
  rcases t with t | ⟨t, t2⟩ <;> rcases u with u | ⟨u, u2⟩
  · left
    cases e : lt x z
    · have := h.ntrans x z y e (h.asymm y z u); rw [t] at this; cases this
    · rfl
  · left
    cases e : lt x z
    · have := h.ntrans x z y e u; rw [t] at this; cases this
    · rfl
  · left
    cases e : lt x z
    · have := h.ntrans y x z t e; rw [u] at this; cases this
    · rfl
  · exact .inr ⟨h.ntrans z y x u t, by omega⟩
omit h in
theorem T_total {x y : Nat} (ne : x ≠ y) : T lt x y ∨ T lt y x := by
  cases e : lt x y
  · cases e2 : lt y x
    · rcases Nat.lt_trichotomy x y with g | g | g
      · exact .inl (.inr ⟨e2, g⟩)
      · exact absurd g ne
      · exact .inr (.inr ⟨e, g⟩)
    · exact .inr (.inl e2)
  · exact .inl (.inl e)
omit h in
theorem T_of {x y : Nat} (e : lt x y = true) : T lt x y := .inl e
omit h in
theorem T_no {x y : Nat} (e : lt x y = false) (g : y < x) : T lt y x := .inr ⟨e, g⟩
end

/-- Q is P with the places from a to less than b mixed up -/
structure Sh (a b : Nat) (P Q : Nat → Nat) : Prop where
  out : ∀ i, ¬ (a ≤ i ∧ i < b) → Q i = P i
  frm : ∀ i, a ≤ i → i < b → ∃ j, a ≤ j ∧ j < b ∧ Q i = P j
  to : ∀ j, a ≤ j → j < b → ∃ i, a ≤ i ∧ i < b ∧ Q i = P j
theorem Sh.refl (a b : Nat) (P : Nat → Nat) : Sh a b P P := ⟨fun _ _ => rfl, fun i h1 h2 => ⟨i, h1, h2, rfl⟩, fun i h1 h2 => ⟨i, h1, h2, rfl⟩⟩
theorem Sh.trans {a b : Nat} {P Q R : Nat → Nat} (h : Sh a b P Q) (k : Sh a b Q R) : Sh a b P R where
  out := fun i hi => (k.out i hi).trans (h.out i hi)
  frm := fun i h1 h2 => by
    obtain ⟨j, j1, j2, e⟩ := k.frm i h1 h2
    obtain ⟨l, l1, l2, e2⟩ := h.frm j j1 j2
    exact ⟨l, l1, l2, e.trans e2⟩
  to := fun j h1 h2 => by
    obtain ⟨i, i1, i2, e⟩ := h.to j h1 h2
    obtain ⟨l, l1, l2, e2⟩ := k.to i i1 i2
    exact ⟨l, l1, l2, e2.trans e⟩
theorem Sh.wide {a b a' b' : Nat} {P Q : Nat → Nat} (h : Sh a b P Q) (ha : a' ≤ a) (hb : b ≤ b') : Sh a' b' P Q where
  out := fun i hi => h.out i (by omega)
  frm := fun i h1 h2 => by
    by_cases g : a ≤ i ∧ i < b
    · obtain ⟨j, j1, j2, e⟩ := h.frm i g.1 g.2; exact ⟨j, by omega, by omega, e⟩
    · exact ⟨i, h1, h2, h.out i g⟩
  to := fun i h1 h2 => by
    by_cases g : a ≤ i ∧ i < b
    · obtain ⟨j, j1, j2, e⟩ := h.to i g.1 g.2; exact ⟨j, by omega, by omega, e⟩
    · exact ⟨i, h1, h2, h.out i g⟩
theorem Sh.congr {a b : Nat} {P Q R : Nat → Nat} (h : Sh a b P Q) (e : ∀ i, R i = Q i) : Sh a b P R := by rw [show R = Q from funext e]; exact h

theorem Sh.one {a : Nat} {P R : Nat → Nat} (h : Sh a (a + 1) P R) (x : Nat) : R x = P x := by
  by_cases e : a ≤ x ∧ x < a + 1
  · obtain ⟨j, j1, j2, ej⟩ := h.frm x e.1 e.2
    rw [ej]; congr 1; omega
  · exact h.out x e
theorem Sh.none (a : Nat) {P R : Nat → Nat} (h : ∀ x, R x = P x) : Sh a a P R := ⟨fun x _ => h x, fun i h1 h2 => absurd h2 (by omega), fun i h1 h2 => absurd h2 (by omega)⟩

/-- two places exchanged -/
def swp (P : Nat → Nat) (i j : Nat) (x : Nat) : Nat := if x = i then P j else if x = j then P i else P x
theorem Sh.swap {a b i j : Nat} (P : Nat → Nat) (i1 : a ≤ i) (i2 : i < b) (j1 : a ≤ j) (j2 : j < b) : Sh a b P (swp P i j) where
  out := fun x hx => by unfold swp; rw [if_neg (by omega), if_neg (by omega)]
  frm := fun x h1 h2 => by
    unfold swp
    by_cases e : x = i
    · exact ⟨j, j1, j2, by rw [if_pos e]⟩
    · by_cases e2 : x = j
      · exact ⟨i, i1, i2, by rw [if_neg e, if_pos e2]⟩
      · exact ⟨x, h1, h2, by rw [if_neg e, if_neg e2]⟩
  to := fun x h1 h2 => by
    unfold swp
    by_cases e : x = i
    · refine ⟨j, j1, j2, ?_⟩
      by_cases e2 : j = i
      · rw [if_pos e2, e, e2]
      · rw [if_neg e2, if_pos rfl, e]
    · by_cases e2 : x = j
      · exact ⟨i, i1, i2, by rw [if_pos rfl, e2]⟩
      · exact ⟨x, h1, h2, by rw [if_neg e, if_neg e2]⟩

/-- the places from a to less than b rise -/
def Srt (lt : Nat → Nat → Bool) (P : Nat → Nat) (a b : Nat) : Prop := ∀ i j, a ≤ i → i < j → j < b → T lt (P i) (P j)
theorem Srt.sub {lt : Nat → Nat → Bool} {P : Nat → Nat} {a b a' b' : Nat} (h : Srt lt P a b) (ha : a ≤ a') (hb : b' ≤ b) : Srt lt P a' b' := fun i j h1 h2 h3 => h i j (by omega) h2 (by omega)
theorem Srt.congr {lt : Nat → Nat → Bool} {P Q : Nat → Nat} {a b : Nat} (h : Srt lt P a b) (e : ∀ i, a ≤ i → i < b → Q i = P i) : Srt lt Q a b := fun i j h1 h2 h3 => by
  rw [e i h1 (by omega), e j (by omega) h3]; exact h i j h1 h2 h3

/-- Q is the order of the first n numbers -/
structure Ord (lt : Nat → Nat → Bool) (n : Nat) (Q : Nat → Nat) : Prop where
  bnd : ∀ i, i < n → Q i < n
  all : ∀ t, t < n → ∃ i, i < n ∧ Q i = t
  srt : Srt lt Q 0 n
theorem Ord.of_sh {lt : Nat → Nat → Bool} {n : Nat} {Q : Nat → Nat} (h : Sh 0 n (fun i => i) Q) (hs : Srt lt Q 0 n) : Ord lt n Q where
  bnd := fun i hi => by obtain ⟨j, _, j2, e⟩ := h.frm i (Nat.zero_le _) hi; rw [e]; exact j2
  all := fun t ht => by obtain ⟨i, _, i2, e⟩ := h.to t (Nat.zero_le _) ht; exact ⟨i, i2, e⟩
  srt := hs
/-- there is one order -/
theorem Ord.uniq {lt : Nat → Nat → Bool} (hw : Swo lt) {n : Nat} {Q R : Nat → Nat} (h : Ord lt n Q) (k : Ord lt n R) : ∀ i, i < n → Q i = R i := by
  have key : ∀ (Q R : Nat → Nat), Ord lt n Q → Ord lt n R → ∀ i, i < n → (∀ j, j < i → Q j = R j) → Q i = R i ∨ T lt (R i) (Q i) := by
    intro Q R h k i hi ih
    obtain ⟨j, hj, e⟩ := k.all (Q i) (h.bnd i hi)
    rcases Nat.lt_trichotomy j i with g | g | g
    · exfalso
      have h1 := h.srt j i (Nat.zero_le _) g hi
      rw [ih j g, e] at h1
      exact T_irrefl hw h1
    · subst g; exact .inl e.symm
    · right
      have := k.srt i j (Nat.zero_le _) g hj
      rwa [e] at this
  intro i
  induction i using Nat.strongRecOn with
  | ind i ih =>
    intro hi
    have ih' : ∀ j, j < i → Q j = R j := fun j hj => ih j hj (by omega)
    rcases key Q R h k i hi ih' with e | e
    · exact e
    · rcases key R Q k h i hi (fun j hj => (ih' j hj).symm) with e2 | e2
      · exact e2.symm
      · exact (T_irrefl hw (T_trans hw e e2)).elim

/-- the number m put at place k -/
def put (Q : Nat → Nat) (k m : Nat) (x : Nat) : Nat := if x < k then Q x else if x = k then m else Q (x - 1)
theorem Ord.put {lt : Nat → Nat → Bool} (hw : Swo lt) {m k : Nat} {Q : Nat → Nat} (h : Ord lt m Q) (hk : k ≤ m) (h1 : k = 0 ∨ lt m (Q (k - 1)) = false) (h2 : ∀ x, k ≤ x → x < m → lt m (Q x) = true) : Ord lt (m + 1) (put Q k m) where
  bnd := fun i hi => by
    unfold stab.put
    split
    · have := h.bnd i (by omega); omega
    · split
      · omega
      · have := h.bnd (i - 1) (by omega); omega
  all := fun t ht => by
    by_cases e : t = m
    · exact ⟨k, by omega, by unfold stab.put; rw [if_neg (by omega), if_pos rfl, e]⟩
    · obtain ⟨i, hi, e2⟩ := h.all t (by omega)
      by_cases g : i < k
      · exact ⟨i, by omega, by unfold stab.put; rw [if_pos g, e2]⟩
      · exact ⟨i + 1, by omega, by unfold stab.put; rw [if_neg (by omega), if_neg (by omega)]; exact e2⟩
  srt := fun i j _ hij hj => by
    have hlow : ∀ x, x < k → T lt (Q x) m := by
      intro x hx
      have hk0 : k ≠ 0 := by omega
      have hb : lt m (Q (k - 1)) = false := h1.resolve_left hk0
      have t1 : T lt (Q (k - 1)) m := T_no hb (h.bnd (k - 1) (by omega))
      by_cases e : x = k - 1
      · rw [e]; exact t1
      · exact T_trans hw (h.srt x (k - 1) (Nat.zero_le _) (by omega) (by omega)) t1
    unfold stab.put
    by_cases g1 : i < k
    · rw [if_pos g1]
      by_cases g2 : j < k
      · rw [if_pos g2]; exact h.srt i j (Nat.zero_le _) hij (by omega)
      · rw [if_neg g2]
        by_cases g3 : j = k
        · rw [if_pos g3]; exact hlow i g1
        · rw [if_neg g3]; exact h.srt i (j - 1) (Nat.zero_le _) (by omega) (by omega)
    · rw [if_neg g1, if_neg (show ¬ j < k by omega)]
      by_cases g3 : i = k
      · rw [if_pos g3, if_neg (show ¬ j = k by omega)]
        exact T_of (h2 (j - 1) (by omega) (by omega))
      · rw [if_neg g3, if_neg (show ¬ j = k by omega)]
        exact h.srt (i - 1) (j - 1) (Nat.zero_le _) (by omega) (by omega)
theorem Ord.none (lt : Nat → Nat → Bool) (Q : Nat → Nat) : Ord lt 0 Q := ⟨fun i h => absurd h (by omega), fun i h => absurd h (by omega), fun i j _ _ h => absurd h (by omega)⟩

/-- there is an order -/
theorem Ord.ex {lt : Nat → Nat → Bool} (hw : Swo lt) : ∀ n, ∃ Q, Ord lt n Q
  | 0 => ⟨fun _ => 0, Ord.none _ _⟩
  | n + 1 => by
    obtain ⟨Q, hQ⟩ := Ord.ex hw n
    have key : ∀ k, k ≤ n → (∀ x, k ≤ x → x < n → lt n (Q x) = true) → ∃ Q', Ord lt (n + 1) Q' := by
      intro k
      induction k with
      | zero => intro hk h; exact ⟨_, hQ.put hw hk (.inl rfl) h⟩
      | succ k ih =>
        intro hk h
        cases e : lt n (Q k)
        · exact ⟨_, hQ.put hw hk (.inr e) h⟩
        · exact ih (by omega) fun x h1 h2 => by
            by_cases e2 : x = k
            · rw [e2]; exact e
            · exact h x (by omega) h2
    exact key n (Nat.le_refl _) fun x h1 h2 => absurd h2 (by omega)

/-- tags rise with the places -/
def Up (P : Nat → Nat) (a b : Nat) : Prop := ∀ i j, a ≤ i → i < j → j < b → P i < P j

/-- within an insertion: R is P but for the places from a to i; the number being put in lies at place j -/
structure Ins (lt : Nat → Nat → Bool) (P R : Nat → Nat) (a i j : Nat) : Prop where
  sh : Sh a (i + 1) P R
  srt : ∀ x y, a ≤ x → x < y → y ≤ i → x ≠ j → y ≠ j → T lt (R x) (R y)
  big : ∀ y, j < y → y ≤ i → T lt (R j) (R y)
  tag : ∀ y, a ≤ y → y ≤ i → y ≠ j → R y < R j
theorem Ins.start {lt : Nat → Nat → Bool} {P R : Nat → Nat} {a b i : Nat} (hup : Up P a b) (hi : i < b) (hai : a ≤ i) (hs : Sh a i P R) (hr : Srt lt R a i) : Ins lt P R a i i where
  sh := hs.wide (Nat.le_refl _) (by omega)
  srt := fun x y h1 h2 h3 _ h5 => hr x y h1 h2 (by omega)
  big := fun y h1 h2 => absurd h2 (by omega)
  tag := fun y h1 h2 h3 => by
    obtain ⟨z, z1, z2, e⟩ := hs.frm y h1 (by omega)
    rw [e, hs.out i (by omega)]
    exact hup z i z1 z2 hi
theorem Ins.step {lt : Nat → Nat → Bool} {P R : Nat → Nat} {a i j : Nat} (h : Ins lt P R a i j) (hja : a < j) (hj : j ≤ i) (hl : lt (R j) (R (j - 1)) = true) : Ins lt P (swp R j (j - 1)) a i (j - 1) where
  sh := h.sh.trans (Sh.swap R (by omega) (by omega) (by omega) (by omega))
  srt := fun x y h1 h2 h3 h4 h5 => by
    unfold swp
    rw [if_neg h4, if_neg h5]
    by_cases e1 : x = j
    · rw [if_pos e1, if_neg (show ¬ y = j by omega)]
      exact h.srt (j - 1) y (by omega) (by omega) h3 (by omega) (by omega)
    · rw [if_neg e1]
      by_cases e2 : y = j
      · rw [if_pos e2]; exact h.srt x (j - 1) h1 (by omega) (by omega) e1 (by omega)
      · rw [if_neg e2]; exact h.srt x y h1 h2 h3 e1 e2
  big := fun y h1 h2 => by
    unfold swp
    rw [if_neg (show ¬ j - 1 = j by omega), if_pos rfl]
    by_cases e : y = j
    · rw [if_pos e]; exact T_of hl
    · rw [if_neg e, if_neg (by omega)]; exact h.big y (by omega) h2
  tag := fun y h1 h2 h3 => by
    unfold swp
    rw [if_neg (show ¬ j - 1 = j by omega), if_pos rfl, if_neg h3]
    by_cases e : y = j
    · rw [if_pos e]; exact h.tag (j - 1) (by omega) (by omega) (by omega)
    · rw [if_neg e]; exact h.tag y h1 h2 e
theorem Ins.done {lt : Nat → Nat → Bool} (hw : Swo lt) {P R : Nat → Nat} {a i j : Nat} (h : Ins lt P R a i j) (hja : a ≤ j) (hj : j ≤ i) (hl : j = a ∨ lt (R j) (R (j - 1)) = false) : Srt lt R a (i + 1) := by
  intro x y h1 h2 h3
  by_cases e1 : x = j
  · subst e1; exact h.big y h2 (by omega)
  · by_cases e2 : y = j
    · subst e2
      have hb : lt (R y) (R (y - 1)) = false := hl.resolve_left (by omega)
      have t1 : T lt (R (y - 1)) (R y) := T_no hb (h.tag (y - 1) (by omega) (by omega) (by omega))
      by_cases e3 : x = y - 1
      · rw [e3]; exact t1
      · exact T_trans hw (h.srt x (y - 1) h1 (by omega) (by omega) e1 (by omega)) t1
    · exact h.srt x y h1 h2 (by omega) e1 e2

/-- two ranges of one length exchanged -/
def swr (R : Nat → Nat) (a b n : Nat) (x : Nat) : Nat := if a ≤ x ∧ x < a + n then R (x - a + b) else if b ≤ x ∧ x < b + n then R (x - b + a) else R x
theorem swr_zero (R : Nat → Nat) (a b : Nat) (x : Nat) : swr R a b 0 x = R x := by unfold swr; rw [if_neg (by omega), if_neg (by omega)]
theorem swr_succ (R : Nat → Nat) {a b n : Nat} (h : a + n < b) (x : Nat) : swp (swr R a b n) (a + n) (b + n) x = swr R a b (n + 1) x := by
  unfold swp
  by_cases e1 : x = a + n
  · rw [if_pos e1]
    unfold swr
    rw [if_neg (by omega), if_neg (by omega), if_pos (by omega)]
    congr 1; omega
  · rw [if_neg e1]
    by_cases e2 : x = b + n
    · rw [if_pos e2]
      unfold swr
      rw [if_neg (by omega), if_neg (by omega), if_neg (by omega), if_pos (by omega)]
      congr 1; omega
    · rw [if_neg e2]
      unfold swr
      by_cases g1 : a ≤ x ∧ x < a + n
      · rw [if_pos g1, if_pos (by omega)]
      · by_cases g2 : b ≤ x ∧ x < b + n
        · rw [if_neg g1, if_pos g2, if_neg (by omega), if_pos (by omega)]
        · rw [if_neg g1, if_neg g2, if_neg (by omega), if_neg (by omega)]

/-- the places from l to less than m behind those from m to less than r -/
def rot (R : Nat → Nat) (l m r : Nat) (x : Nat) : Nat := if l ≤ x ∧ x < r then (if x < l + (r - m) then R (x + (m - l)) else R (x - (r - m))) else R x
theorem rot_more {R : Nat → Nat} {m i j : Nat} (hi : i ≤ m) (hj : 0 < j) (hij : j < i) (x : Nat) : rot (swr R (m - i) m j) (m - (i - j)) m (m + j) x = rot R (m - i) m (m + j) x := by
  unfold rot swr
  by_cases g1 : m - i ≤ x ∧ x < m + j
  · rw [if_pos g1]
    by_cases g2 : m - (i - j) ≤ x
    · rw [if_pos (show m - (i - j) ≤ x ∧ x < m + j by omega)]
      by_cases g3 : x < m - (i - j) + (m + j - m)
      · rw [if_pos g3, if_neg (by omega)]
        by_cases g4 : m ≤ x + (m - (m - (i - j))) ∧ x + (m - (m - (i - j))) < m + j
        · rw [if_pos g4, if_neg (by omega)]; congr 1; omega
        · omega
      · rw [if_neg g3, if_neg (by omega), if_neg (by omega), if_neg (by omega)]
    · rw [if_neg (by omega), if_pos (by omega), if_pos (by omega)]
      congr 1; omega
  · rw [if_neg g1, if_neg (by omega), if_neg (by omega), if_neg (by omega)]
theorem rot_less {R : Nat → Nat} {m i j : Nat} (hi : i ≤ m) (h0 : 0 < i) (hij : i < j) (x : Nat) : rot (swr R (m - i) (m + j - i) i) (m - i) m (m + (j - i)) x = rot R (m - i) m (m + j) x := by
  unfold rot swr
  by_cases g1 : m - i ≤ x ∧ x < m + j
  · rw [if_pos g1]
    by_cases g2 : x < m + (j - i)
    · rw [if_pos (show m - i ≤ x ∧ x < m + (j - i) by omega)]
      by_cases g3 : x < m - i + (m + (j - i) - m)
      · rw [if_pos g3, if_neg (by omega), if_neg (by omega), if_pos (by omega)]
      · rw [if_neg g3, if_pos (by omega), if_pos (by omega)]
        congr 1; omega
    · rw [if_neg (by omega), if_neg (by omega), if_pos (by omega), if_neg (by omega)]
      congr 1; omega
  · rw [if_neg g1, if_neg (by omega), if_neg (by omega), if_neg (by omega)]
theorem rot_same {R : Nat → Nat} {m i : Nat} (hi : i ≤ m) (x : Nat) : swr R (m - i) m i x = rot R (m - i) m (m + i) x := by
  unfold rot swr
  by_cases g1 : m - i ≤ x ∧ x < m - i + i
  · rw [if_pos g1, if_pos (by omega), if_pos (by omega)]; congr 1; omega
  · rw [if_neg g1]
    by_cases g2 : m ≤ x ∧ x < m + i
    · rw [if_pos g2, if_pos (by omega), if_neg (by omega)]; congr 1; omega
    · rw [if_neg g2, if_neg (by omega)]
theorem Sh.rot {R : Nat → Nat} {l m r : Nat} (h1 : l ≤ m) (h2 : m ≤ r) : Sh l r R (rot R l m r) where
  out := fun i hi => by unfold stab.rot; rw [if_neg hi]
  frm := fun i i1 i2 => by
    unfold stab.rot
    rw [if_pos ⟨i1, i2⟩]
    by_cases g : i < l + (r - m)
    · exact ⟨i + (m - l), by omega, by omega, by rw [if_pos g]⟩
    · exact ⟨i - (r - m), by omega, by omega, by rw [if_neg g]⟩
  to := fun j j1 j2 => by
    unfold stab.rot
    by_cases g : j < m
    · exact ⟨j + (r - m), by omega, by omega, by rw [if_pos (by omega), if_neg (by omega)]; congr 1; omega⟩
    · exact ⟨j - (m - l), by omega, by omega, by rw [if_pos (by omega), if_pos (by omega)]; congr 1; omega⟩

/-- two sorted parts side by side, those of the left part with the lesser tags -/
structure Two (lt : Nat → Nat → Bool) (P : Nat → Nat) (a m b : Nat) : Prop where
  left : Srt lt P a m
  right : Srt lt P m b
  tag : ∀ i j, a ≤ i → i < m → m ≤ j → j < b → P i < P j
/-- what a merge gives -/
structure Mgd (lt : Nat → Nat → Bool) (P Q : Nat → Nat) (a b : Nat) : Prop where
  sh : Sh a b P Q
  srt : Srt lt Q a b
section
variable {lt : Nat → Nat → Bool} (hw : Swo lt) {P : Nat → Nat} {a m b : Nat}
include hw
omit hw in
theorem Two.lt_iff (h : Two lt P a m b) {i j : Nat} (i1 : a ≤ i) (i2 : i < m) (j1 : m ≤ j) (j2 : j < b) : (lt (P j) (P i) = true → T lt (P j) (P i)) ∧ (lt (P j) (P i) = false → T lt (P i) (P j)) :=
  ⟨fun e => T_of e, fun e => T_no e (h.tag i j i1 i2 j1 j2)⟩
/-- how the middle of a merge parts: nothing before mid lies behind anything from mid on -/
theorem Two.parts (h : Two lt P a m b) {s e : Nat} (hs : a ≤ s) (hsm : s ≤ m) (hme : m ≤ e) (he : e ≤ b)
    (c1 : s = a ∨ e = b ∨ lt (P e) (P (s - 1)) = false) (c2 : s = m ∨ e = m ∨ lt (P (e - 1)) (P s) = true) :
    ∀ i j, (a ≤ i ∧ i < s ∨ m ≤ i ∧ i < e) → (s ≤ j ∧ j < m ∨ e ≤ j ∧ j < b) → T lt (P i) (P j) := by
  rintro i j (⟨i1, i2⟩ | ⟨i1, i2⟩) (⟨j1, j2⟩ | ⟨j1, j2⟩)
  · exact h.left i j i1 (by omega) j2
  · have hb : lt (P e) (P (s - 1)) = false := by
      rcases c1 with c | c | c
      · omega
      · omega
      · exact c
    have t := (h.lt_iff (i := s - 1) (j := e) (by omega) (by omega) (by omega) (by omega)).2 hb
    have t1 : T lt (P i) (P e) := by
      by_cases q : i = s - 1
      · rw [q]; exact t
      · exact T_trans hw (h.left i (s - 1) i1 (by omega) (by omega)) t
    by_cases q : j = e
    · rw [q]; exact t1
    · exact T_trans hw t1 (h.right e j (by omega) (by omega) j2)
  · have hb : lt (P (e - 1)) (P s) = true := by
      rcases c2 with c | c | c
      · omega
      · omega
      · exact c
    have t := T_of hb
    have t1 : T lt (P i) (P s) := by
      by_cases q : i = e - 1
      · rw [q]; exact t
      · exact T_trans hw (h.right i (e - 1) i1 (by omega) (by omega)) t
    by_cases q : j = s
    · rw [q]; exact t1
    · exact T_trans hw t1 (h.left s j (by omega) (by omega) j2)
  · exact h.right i j i1 (by omega) j2
end

/-- behind the rotation: both halves are again two parts, and nothing of the first one lies behind anything of the second one -/
structure Halves (lt : Nat → Nat → Bool) (P : Nat → Nat) (a s d e b : Nat) : Prop where
  one : Two lt P a s d
  two : Two lt P d e b
  cross : ∀ i j, a ≤ i → i < d → d ≤ j → j < b → T lt (P i) (P j)
theorem Two.halves {lt : Nat → Nat → Bool} (hw : Swo lt) {P : Nat → Nat} {a m b s d e : Nat} (h : Two lt P a m b) (hs : a ≤ s) (hsm : s ≤ m) (hme : m ≤ e) (he : e ≤ b) (hd : d + m = s + e)
    (c1 : s = a ∨ e = b ∨ lt (P e) (P (s - 1)) = false) (c2 : s = m ∨ e = m ∨ lt (P (e - 1)) (P s) = true) : Halves lt (rot P s m e) a s d e b := by
  have hp := h.parts hw hs hsm hme he c1 c2
  have r1 : ∀ i, i < s → rot P s m e i = P i := fun i hi => by unfold rot; rw [if_neg (by omega)]
  have r2 : ∀ i, s ≤ i → i < d → rot P s m e i = P (i + (m - s)) := fun i h1 h2 => by unfold rot; rw [if_pos (by omega), if_pos (by omega)]
  have r3 : ∀ i, d ≤ i → i < e → rot P s m e i = P (i - (e - m)) := fun i h1 h2 => by unfold rot; rw [if_pos (by omega), if_neg (by omega)]
  have r4 : ∀ i, e ≤ i → rot P s m e i = P i := fun i hi => by unfold rot; rw [if_neg (by omega)]
  refine ⟨⟨?_, ?_, ?_⟩, ⟨?_, ?_, ?_⟩, ?_⟩
  · intro i j h1 h2 h3; rw [r1 i (by omega), r1 j h3]; exact h.left i j h1 h2 (by omega)
  · intro i j h1 h2 h3; rw [r2 i h1 (by omega), r2 j (by omega) h3]; exact h.right _ _ (by omega) (by omega) (by omega)
  · intro i j h1 h2 h3 h4; rw [r1 i h2, r2 j h3 h4]; exact h.tag _ _ (by omega) (by omega) (by omega) (by omega)
  · intro i j h1 h2 h3; rw [r3 i h1 (by omega), r3 j (by omega) h3]; exact h.left _ _ (by omega) (by omega) (by omega)
  · intro i j h1 h2 h3; rw [r4 i h1, r4 j (by omega)]; exact h.right _ _ (by omega) (by omega) (by omega)
  · intro i j h1 h2 h3 h4; rw [r3 i h1 h2, r4 j h3]; exact h.tag _ _ (by omega) (by omega) (by omega) (by omega)
  · intro i j h1 h2 h3 h4
    have ei : ∃ x, rot P s m e i = P x ∧ (a ≤ x ∧ x < s ∨ m ≤ x ∧ x < e) := by
      by_cases g : i < s
      · exact ⟨i, r1 i g, .inl ⟨h1, g⟩⟩
      · exact ⟨_, r2 i (by omega) h2, .inr ⟨by omega, by omega⟩⟩
    have ej : ∃ x, rot P s m e j = P x ∧ (s ≤ x ∧ x < m ∨ e ≤ x ∧ x < b) := by
      by_cases g : j < e
      · exact ⟨_, r3 j h3 g, .inl ⟨by omega, by omega⟩⟩
      · exact ⟨j, r4 j (by omega), .inr ⟨by omega, h4⟩⟩
    obtain ⟨x, e1, hx⟩ := ei
    obtain ⟨y, e2, hy⟩ := ej
    rw [e1, e2]
    exact hp x y hx hy
theorem Two.id_left {lt : Nat → Nat → Bool} {P : Nat → Nat} {a m b : Nat} (h : Two lt P a m b) (e : m = b) : Srt lt P a b := by subst e; exact h.left
theorem Two.id_right {lt : Nat → Nat → Bool} {P : Nat → Nat} {a m b : Nat} (h : Two lt P a m b) (e : m = a) : Srt lt P a b := by subst e; exact h.right
/-- both halves merged: all is merged -/
theorem Halves.join {lt : Nat → Nat → Bool} {P P1 Q R : Nat → Nat} {a s d e b : Nat} (h : Halves lt P1 a s d e b) (had : a ≤ d) (hdb : d ≤ b) (hr : Sh a b P P1) (h1 : Mgd lt P1 Q a d) (h2 : Mgd lt Q R d b) : Mgd lt P R a b where
  sh := (hr.trans (h1.sh.wide (Nat.le_refl _) hdb)).trans (h2.sh.wide had (Nat.le_refl _))
  srt := fun i j i1 hij j2 => by
    by_cases g1 : j < d
    · rw [h2.sh.out i (by omega), h2.sh.out j (by omega)]; exact h1.srt i j i1 hij g1
    · by_cases g2 : d ≤ i
      · exact h2.srt i j g2 hij j2
      · obtain ⟨x, x1, x2, e1⟩ := h1.sh.frm i i1 (by omega)
        obtain ⟨y, y1, y2, e2⟩ := h2.sh.frm j (by omega) j2
        rw [h2.sh.out i (by omega), e1, e2, h1.sh.out y (by omega)]
        exact h.cross x y x1 x2 y1 y2
theorem Mgd.refl {lt : Nat → Nat → Bool} {P : Nat → Nat} {a b : Nat} (h : Srt lt P a b) : Mgd lt P P a b := ⟨Sh.refl _ _ _, h⟩
/-- the second half is as it was while the first one is merged -/
theorem Two.keep {lt : Nat → Nat → Bool} {P Q : Nat → Nat} {a d e b : Nat} (h : Two lt P d e b) (hs : Sh a d P Q) (h1 : d ≤ e) : Two lt Q d e b := by
  have hq : ∀ i, d ≤ i → Q i = P i := fun i hi => hs.out i (by omega)
  refine ⟨?_, ?_, ?_⟩
  · intro i j h1 h2 h3; rw [hq i (by omega), hq j (by omega)]; exact h.left i j h1 h2 h3
  · intro i j h1 h2 h3; rw [hq i (by omega), hq j (by omega)]; exact h.right i j h1 h2 h3
  · intro i j h1 h2 h3 h4; rw [hq i (by omega), hq j (by omega)]; exact h.tag i j h1 h2 h3 h4

/-- one number moved from the left end to the right, to place i - 1 -/
def mvR (P : Nat → Nat) (a k : Nat) (x : Nat) : Nat := if x < a then P x else if x < k then P (x + 1) else if x = k then P a else P x
theorem mvR_zero (P : Nat → Nat) (a : Nat) (x : Nat) : mvR P a a x = P x := by
  unfold mvR
  by_cases g : x < a
  · rw [if_pos g]
  · by_cases g2 : x = a
    · rw [if_neg g, if_neg g, if_pos g2, g2]
    · rw [if_neg g, if_neg g, if_neg g2]
theorem mvR_succ (P : Nat → Nat) {a k : Nat} (h : a ≤ k) (x : Nat) : swp (mvR P a k) k (k + 1) x = mvR P a (k + 1) x := by
  unfold swp
  by_cases e1 : x = k
  · rw [if_pos e1]; unfold mvR
    rw [if_neg (by omega), if_neg (by omega), if_neg (by omega), if_neg (by omega), if_pos (by omega)]
    congr 1; omega
  · rw [if_neg e1]
    by_cases e2 : x = k + 1
    · rw [if_pos e2]; unfold mvR
      rw [if_neg (by omega), if_neg (by omega), if_pos rfl, if_neg (by omega), if_neg (by omega), if_pos e2]
    · rw [if_neg e2]; unfold mvR
      by_cases g1 : x < a
      · rw [if_pos g1, if_pos g1]
      · rw [if_neg g1, if_neg g1]
        by_cases g2 : x < k
        · rw [if_pos g2, if_pos (by omega)]
        · rw [if_neg g2, if_neg e1, if_neg (by omega), if_neg e2]
theorem sh_mvR (P : Nat → Nat) {a k b : Nat} (h1 : a ≤ k) (h2 : k < b) : Sh a b P (mvR P a k) where
  out := fun i hi => by
    unfold mvR
    by_cases g : i < a
    · rw [if_pos g]
    · rw [if_neg g, if_neg (by omega), if_neg (by omega)]
  frm := fun i i1 i2 => by
    unfold mvR
    rw [if_neg (show ¬ i < a by omega)]
    by_cases g : i < k
    · exact ⟨i + 1, by omega, by omega, by rw [if_pos g]⟩
    · by_cases g2 : i = k
      · exact ⟨a, by omega, by omega, by rw [if_neg g, if_pos g2]⟩
      · exact ⟨i, i1, i2, by rw [if_neg g, if_neg g2]⟩
  to := fun j j1 j2 => by
    unfold mvR
    by_cases g : j = a
    · exact ⟨k, h1, h2, by rw [if_neg (by omega), if_neg (by omega), if_pos rfl, g]⟩
    · by_cases g2 : j ≤ k
      · exact ⟨j - 1, by omega, by omega, by rw [if_neg (by omega), if_pos (by omega)]; congr 1; omega⟩
      · exact ⟨j, j1, j2, by rw [if_neg (by omega), if_neg (by omega), if_neg (by omega)]⟩
/-- the left part is one number: it goes in front of the first one that is not less -/
theorem Two.one_left {lt : Nat → Nat → Bool} (hw : Swo lt) {P : Nat → Nat} {a m b i : Nat} (h : Two lt P a m b) (hm : m = a + 1) (i1 : m ≤ i) (i2 : i ≤ b)
    (c1 : i = m ∨ lt (P (i - 1)) (P a) = true) (c2 : i = b ∨ lt (P i) (P a) = false) : Mgd lt P (mvR P a (i - 1)) a b where
  sh := sh_mvR P (by omega) (by omega)
  srt := fun x y x1 hxy y2 => by
    have lo : ∀ z, m ≤ z → z < i → T lt (P z) (P a) := fun z z1 z2 => by
      have t := T_of (c1.resolve_left (by omega))
      by_cases q : z = i - 1
      · rw [q]; exact t
      · exact T_trans hw (h.right z (i - 1) z1 (by omega) (by omega)) t
    have hi : ∀ z, i ≤ z → z < b → T lt (P a) (P z) := fun z z1 z2 => by
      have t := T_no (c2.resolve_left (by omega)) (h.tag a i (Nat.le_refl _) (by omega) i1 (by omega))
      by_cases q : z = i
      · rw [q]; exact t
      · exact T_trans hw t (h.right i z i1 (by omega) z2)
    unfold mvR
    rw [if_neg (show ¬ x < a by omega), if_neg (show ¬ y < a by omega)]
    by_cases g1 : y < i - 1
    · rw [if_pos g1, if_pos (show x < i - 1 by omega)]; exact h.right _ _ (by omega) (by omega) (by omega)
    · rw [if_neg g1]
      by_cases g2 : y = i - 1
      · rw [if_pos g2, if_pos (show x < i - 1 by omega)]; exact lo _ (by omega) (by omega)
      · rw [if_neg g2]
        by_cases g3 : x < i - 1
        · rw [if_pos g3]; exact h.right _ _ (by omega) (by omega) y2
        · rw [if_neg g3]
          by_cases g4 : x = i - 1
          · rw [if_pos g4]; exact hi y (by omega) y2
          · rw [if_neg g4]; exact h.right _ _ (by omega) hxy y2

/-- one number moved from place m to the left, to place k -/
def mvL (P : Nat → Nat) (m k : Nat) (x : Nat) : Nat := if x < k then P x else if x = k then P m else if x ≤ m then P (x - 1) else P x
theorem mvL_zero (P : Nat → Nat) (m : Nat) (x : Nat) : mvL P m m x = P x := by
  unfold mvL
  by_cases g : x < m
  · rw [if_pos g]
  · rw [if_neg g]
    by_cases g2 : x = m
    · rw [if_pos g2, g2]
    · rw [if_neg g2, if_neg (by omega)]
theorem mvL_succ (P : Nat → Nat) {m k : Nat} (h : k < m) (x : Nat) : swp (mvL P m (k + 1)) (k + 1) k x = mvL P m k x := by
  unfold swp
  by_cases e1 : x = k + 1
  · rw [if_pos e1]; unfold mvL
    rw [if_pos (by omega), if_neg (by omega), if_neg (by omega), if_pos (by omega)]
    congr 1; omega
  · rw [if_neg e1]
    by_cases e2 : x = k
    · rw [if_pos e2]; unfold mvL
      rw [if_neg (by omega), if_pos rfl, if_neg (by omega), if_pos e2]
    · rw [if_neg e2]; unfold mvL
      by_cases g1 : x < k
      · rw [if_pos (by omega), if_pos g1]
      · rw [if_neg (by omega), if_neg e1, if_neg g1, if_neg e2]
theorem sh_mvL (P : Nat → Nat) {a m k b : Nat} (h0 : a ≤ k) (h1 : k ≤ m) (h2 : m < b) : Sh a b P (mvL P m k) where
  out := fun i hi => by
    unfold mvL
    by_cases g : i < k
    · rw [if_pos g]
    · rw [if_neg g, if_neg (by omega), if_neg (by omega)]
  frm := fun i i1 i2 => by
    unfold mvL
    by_cases g : i < k
    · exact ⟨i, i1, i2, by rw [if_pos g]⟩
    · by_cases g2 : i = k
      · exact ⟨m, by omega, by omega, by rw [if_neg g, if_pos g2]⟩
      · by_cases g3 : i ≤ m
        · exact ⟨i - 1, by omega, by omega, by rw [if_neg g, if_neg g2, if_pos g3]⟩
        · exact ⟨i, i1, i2, by rw [if_neg g, if_neg g2, if_neg g3]⟩
  to := fun j j1 j2 => by
    unfold mvL
    by_cases g : j < k
    · exact ⟨j, j1, j2, by rw [if_pos g]⟩
    · by_cases g2 : j = m
      · exact ⟨k, h0, by omega, by rw [if_neg (by omega), if_pos rfl, g2]⟩
      · by_cases g3 : j < m
        · exact ⟨j + 1, by omega, by omega, by rw [if_neg (by omega), if_neg (by omega), if_pos (by omega)]; congr 1⟩
        · exact ⟨j, j1, j2, by rw [if_neg g, if_neg (by omega), if_neg (by omega)]⟩
/-- the right part is one number: it goes in front of the first one that is greater -/
theorem Two.one_right {lt : Nat → Nat → Bool} (hw : Swo lt) {P : Nat → Nat} {a m b i : Nat} (h : Two lt P a m b) (hm : b = m + 1) (i1 : a ≤ i) (i2 : i ≤ m)
    (c1 : i = a ∨ lt (P m) (P (i - 1)) = false) (c2 : i = m ∨ lt (P m) (P i) = true) : Mgd lt P (mvL P m i) a b where
  sh := sh_mvL P i1 i2 (by omega)
  srt := fun x y x1 hxy y2 => by
    have lo : ∀ z, a ≤ z → z < i → T lt (P z) (P m) := fun z z1 z2 => by
      have t := T_no (c1.resolve_left (by omega)) (h.tag (i - 1) m (by omega) (by omega) (Nat.le_refl _) (by omega))
      by_cases q : z = i - 1
      · rw [q]; exact t
      · exact T_trans hw (h.left z (i - 1) z1 (by omega) (by omega)) t
    have hi : ∀ z, i ≤ z → z < m → T lt (P m) (P z) := fun z z1 z2 => by
      have t := T_of (c2.resolve_left (by omega))
      by_cases q : z = i
      · rw [q]; exact t
      · exact T_trans hw t (h.left i z i1 (by omega) z2)
    unfold mvL
    by_cases g1 : y < i
    · rw [if_pos g1, if_pos (show x < i by omega)]; exact h.left _ _ x1 hxy (by omega)
    · rw [if_neg g1]
      by_cases g2 : y = i
      · rw [if_pos g2, if_pos (show x < i by omega)]; exact lo x x1 (by omega)
      · rw [if_neg g2, if_pos (show y ≤ m by omega)]
        by_cases g3 : x < i
        · rw [if_pos g3]; exact h.left _ _ x1 (by omega) (by omega)
        · rw [if_neg g3]
          by_cases g4 : x = i
          · rw [if_pos g4]; exact hi _ (by omega) (by omega)
          · rw [if_neg g4, if_pos (show x ≤ m by omega)]; exact h.left _ _ (by omega) (by omega) (by omega)

end Go.Proofs.YtlepgkmpbhlajaaDoor.stab
