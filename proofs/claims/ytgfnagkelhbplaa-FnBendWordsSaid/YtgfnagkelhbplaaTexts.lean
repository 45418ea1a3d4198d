/-
  Rows of texts of the call's own: the marks that the law writes over them, and how it finds them again.
-/
import Derived.Test.YtgfnagkelhbplaaMark
import Derived.Test.YtgfnagkelhbplaaOwnV
import Derived.Handy
import Derived.Lib.Hide
namespace Go.Proofs.Ytgfnagkelhbplaa.split
open Go.ChangeShapes Go.WideShapes Go.ChangeAt Go.RowKit
open Go.Proofs.Ytgfnagkelhbplaa.mem
set_option linter.unusedVariables false

/-- a slice value of the call's own: n texts in a block from lo to less than hi -/
def RowT (w : World) (lo hi : Nat) (A : Option Addr) (n : Nat) (T : Nat → ByteArray) : Prop :=
  0 < n → ∃ g, A = some ⟨g, 0, none⟩ ∧ lo ≤ g ∧ g < hi ∧ OwnV w g 9 n (fun j => .string (T j))
section
variable {w w' : World} {A : Option Addr} {n lo hi : Nat} {T U : Nat → ByteArray}
theorem RowT.below {K : Nat} (h : RowT w lo hi A n T) (hb : Below K w w') (hK : hi ≤ K) : RowT w' lo hi A n T := fun hn => by
  obtain ⟨g, e, h1, h2, ho⟩ := h hn
  exact ⟨g, e, h1, h2, ho.below hb (by omega)⟩
theorem RowT.wrote {lo' hi' : Nat} (h : RowT w lo hi A n T) (hw : WroteIn w w' lo' hi') (hd : hi ≤ lo' ∨ hi' ≤ lo) : RowT w' lo hi A n T := fun hn => by
  obtain ⟨g, e, h1, h2, ho⟩ := h hn
  exact ⟨g, e, h1, h2, ho.wrote hw (by omega)⟩
theorem RowT.wide {lo' hi' : Nat} (h : RowT w lo hi A n T) (h1 : lo' ≤ lo) (h2 : hi ≤ hi') : RowT w lo' hi' A n T := fun hn => by
  obtain ⟨g, e, a, b, ho⟩ := h hn
  exact ⟨g, e, by omega, by omega, ho⟩
theorem RowT.sl (h : RowT w lo hi A n T) : SlS w A n T := fun hn => by
  obtain ⟨g, e, h1, h2, ho⟩ := h hn
  exact ⟨g, e, ho.lt, fun j hj => ho.cell hj⟩
theorem RowT.congr (h : RowT w lo hi A n T) (e : ∀ j, j < n → T j = U j) : RowT w lo hi A n U := fun hn => by
  obtain ⟨g, e', a, b, ho⟩ := h hn
  exact ⟨g, e', a, b, ho.congr fun j hj => by rw [e j hj]⟩
end
/-- the j-th text of a list -/
def txt (ps : List (List UInt8)) (j : Nat) : ByteArray := ⟨(ps.getD j []).toArray⟩
theorem rowT_of {w : World} {B : Nat} {v : Value} {ps : List (List UInt8)} (h : w.ownsRow B 9 1 v ps.length (ps.map strV)) :
    ∃ A c, v = .slice A ps.length c ∧ ps.length ≤ c ∧ c ≤ maxLen ∧ RowT w B w.heap.size A ps.length (txt ps) := by
  have e : ps.map strV = (List.range (ps.length * 1)).map (fun j => Value.string (txt ps j)) := by
    apply List.ext_getElem?
    intro i
    by_cases hi : i < ps.length
    · rw [List.getElem?_map, List.getElem?_map, List.getElem?_range (by omega), List.getElem?_eq_getElem hi]
      simp [strV, txt, List.getD, List.getElem?_eq_getElem hi]
    · rw [List.getElem?_eq_none (by simp; omega), List.getElem?_eq_none (by simp; omega)]
  rw [e] at h
  obtain ⟨A, c, e1, h1, h2, h3⟩ := ownV_of_owns h
  refine ⟨A, c, e1, h1, h2, fun hn => ?_⟩
  obtain ⟨g, e2, a, b, ho⟩ := h3 hn
  exact ⟨g, e2, a, b, by rwa [Nat.mul_one] at ho⟩

set_option maxHeartbeats 2000000 in
theorem markStrs_c (A : Option Addr) (n c lo hi : Nat) (T : Nat → ByteArray) (w : World) (hn : n ≤ 1048577) (hr : RowT w lo hi A n T) (hhi : hi ≤ w.heap.size) :
    Calls Try.prog 35 #[.slice A n c, .int .i64 1] w fun e w' => e = .returned (.int .i64 ((1 + n : Nat) : Int)) ∧ RowT w' lo hi A n (fun j => markB (1 + j)) ∧ WroteIn w w' lo hi := by
  have HR := Lib.hid hr
  clear hr
  go_enter Try.func35, Try.ntmps35
  go_wp2_with fail
  go_loopw [5, 1] (fun s t wr => ∃ k : Nat, k ≤ n ∧ s = .int .i64 k ∧ t = .int .i64 ((1 + k : Nat) : Int) ∧ Hid (RowT wr lo hi A n (fun j => if j < k then markB (1 + j) else T j)) ∧ WroteIn w wr lo hi) (fun s _ _ => n - (intOf s).toNat)
  case atStart => exact ⟨0, by omega, rfl, rfl, HR.out.congr (fun j _ => by simp), WroteIn.refl _ _ _⟩
  case round =>
    obtain ⟨k, hk, rfl, rfl, hrow, hw⟩ := hrel
    have hzz := hw.size
    by_cases hlt : k < n
    · have hlt' : (k : Int) < (n : Int) := by omega
      obtain ⟨g, rfl, g1, g2, ho⟩ := hrow.out (by omega)
      have hgl := ho.lt
      have HO := Lib.hid ho
      have HW := Lib.hid hw
      clear ho hw
      go_wp2_with fail
      refine (mark_c (1 + k) (by omega) (by omega) _).mono ?_
      rintro e w2 ⟨rfl, hb⟩
      have o2 := HO.out.below hb hgl
      have c0 := o2.cell hlt
      have f0 := o2.frozen k
      have HO2 := Lib.hid o2
      have HB := Lib.hid hb
      have hsz := hb.size
      clear o2 hb
      go_wp2
      go_roundw
      case rel =>
        refine ⟨k + 1, by omega, by go_num, by congr 1 <;> omega, fun _ => ⟨g, rfl, g1, g2, (HO2.out.set k (.string (markB (1 + k)))).congr ?_⟩, ?_⟩
        · intro j hj
          by_cases e0 : j = k
          · subst e0
            show (if j = j then Value.string (markB (1 + j)) else Value.string (if j < j then markB (1 + j) else T j)) = Value.string (if j < j + 1 then markB (1 + j) else T j)
            rw [if_pos rfl, if_pos (by omega)]
          rw [if_neg e0]
          show Value.string (if j < k then markB (1 + j) else T j) = Value.string (if j < k + 1 then markB (1 + j) else T j)
          by_cases e3 : j < k
          · rw [if_pos e3, if_pos (by omega)]
          · rw [if_neg e3, if_neg (by omega)]
        · have h1 : WroteIn w w2 lo hi := ⟨HB.out.os.trans HW.out.os, HB.out.tape.trans HW.out.tape, HB.out.output.trans HW.out.output, by omega, fun j hj hd => (HB.out.block j (by omega)).trans (HW.out.block j hj hd)⟩
          exact h1.set g1 g2 _
      case measure => simp [intOf]; omega
    · obtain rfl : k = n := by omega
      have HW := Lib.hid hw
      clear hw
      go_wp2
      go_ret
      exact ⟨rfl, hrow.out.congr (fun j hj => by rw [if_pos (by omega)]), HW.out⟩

set_option maxHeartbeats 2000000 in
theorem heldStrs_c (A : Option Addr) (n c : Nat) (w : World) (hn : n ≤ 1048577) (hr : SlS w A n (fun j => markB (1 + j))) :
    Calls Try.prog 36 #[.slice A n c, .int .i64 1] w fun e w' => e = .returned (.int .i64 ((1 + n : Nat) : Int)) ∧ Below w.heap.size w w' := by
  have HR := Lib.hid hr
  clear hr
  go_enter Try.func36, Try.ntmps36
  go_wp2_with fail
  go_loopw [5, 1] (fun s t wr => ∃ k : Nat, k ≤ n ∧ s = .int .i64 k ∧ t = .int .i64 ((1 + k : Nat) : Int) ∧ Below w.heap.size w wr) (fun s _ _ => n - (intOf s).toNat)
  case atStart => exact ⟨0, by omega, rfl, rfl, Below.refl _ _⟩
  case round =>
    obtain ⟨k, hk, rfl, rfl, hbl⟩ := hrel
    have hzz := hbl.size
    by_cases hlt : k < n
    · have hlt' : (k : Int) < (n : Int) := by omega
      have hk0 : (0 : Int) ≤ (k : Int) := by omega
      obtain ⟨g, rfl, hg, hX⟩ := HR.out (by omega)
      have p0 : wr.cell? ⟨g, k, none⟩ = some (.string (markB (1 + k))) := (hbl.cell (p := ⟨g, k, none⟩) hg).trans (hX k hlt)
      have HM := Lib.hid (fun W => mark_c (1 + k) (by omega) (by omega) W)
      clear hX
      generalize markB (1 + k) = R at *
      have e1 : (R.toList == R.toList) = true := by simp
      have e2 : (R.toList != R.toList) = false := by simp
      go_wp2_with fail
      go_region_held3 (fun x => x.cell? ⟨g, k, none⟩ = some (.string R)) (first | exact p0 | go_keep)
        (first
          | (go_at_call 71; refine (HM.out _).mono ?_; rintro e w2 ⟨rfl, hb⟩
             have hz2 := hb.size
             simp at hz2
             have g2 : Below w.heap.size w w2 := Below.trans hbl.drew (hb.mono (by simp <;> omega))
             replace p0 := (hb.cell (p := ⟨g, k, none⟩) (by simp; omega)).trans p0
             clear hb))
      go_wp2
      go_roundw
      case rel => exact ⟨k + 1, by omega, by go_num, by congr 1 <;> omega, g2⟩
      case measure => simp [intOf]; omega
    · obtain rfl : k = n := by omega
      go_wp2
      go_ret
      exact ⟨rfl, hbl⟩

end Go.Proofs.Ytgfnagkelhbplaa.split
