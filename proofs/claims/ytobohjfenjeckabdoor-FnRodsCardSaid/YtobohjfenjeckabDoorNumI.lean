/-
  ReadDecimal: the model's at every text, and the program's by the library's contract.
-/
import Derived.Test.YtobohjfenjeckabDoorNumS
import Derived.Lib.ParseIntBTie
import Derived.Lib.Strings
import Derived.Stop.LaidErr
namespace Go.Proofs.YtobohjfenjeckabDoor.num
open Go.ChangeShapes Go.WideShapes Go.ChangeAt Go.RowKit
open Go.Proofs.YtobohjfenjeckabDoor.mem Go.Proofs.YtobohjfenjeckabDoor.dec
set_option linter.unusedVariables false

theorem ans_nil : ans [] = (0, false) := ans_no (fun h => by have := h.len.1; simp [body] at this)
theorem head_get {s : ByteArray} (h : 0 < s.size) : s.data.toList.head? = some (s[0]'h) := by rw [← getB s 0 h]; exact List.head?_eq_getElem?
def ErrAt (n : String) (w : World) : Prop := ∃ tp p, w.var? Tryd.prog n = some #[.iface tp p]
structure Errs (w : World) : Prop where
  syn : ErrAt "strconv.ErrSyntax" w
  ran : ErrAt "strconv.ErrRange" w
theorem errAt_below {n : String} {g : Nat} (hg : Tryd.prog.globalNamed n = some g) {w w' : World} (h : ErrAt n w) (hb : Below w.heap.size w w') : ErrAt n w' := by
  obtain ⟨tp, p, hv⟩ := h
  refine ⟨tp, p, var?_below hb hg ?_ hv⟩
  have hc := World.var?_cell hg hv 0
  rcases Nat.lt_or_ge g w.heap.size with hlt | hge
  · exact hlt
  · have e : w.heap[g]? = none := Array.getElem?_eq_none hge
    simp [World.cell?, e] at hc
theorem errs_below {w w' : World} (h : Errs w) (hb : Below w.heap.size w w') : Errs w' :=
  ⟨errAt_below (g := 2) (by kernel_rfl) h.syn hb, errAt_below (g := 3) (by kernel_rfl) h.ran hb⟩

/-- what the library's ParseInt gives: a number, or an error that is not nil -/
theorem parse_c (s : ByteArray) (hs : s.size ≤ 140737488355328) (w : World) (he : Errs w) :
    Calls Tryd.prog 34 #[.string s, .int .i64 10, .int .i64 64] w fun e w' => Below w.heap.size w w' ∧
      ((∃ v, Lib.parseIntB 64 s.data.toList = .ok v ∧ e = .returned (.tuple #[.int .i64 v, .nilIface])) ∨
       (∃ v tp p, (∀ n, Lib.parseIntB 64 s.data.toList ≠ .ok n) ∧ -9223372036854775808 ≤ v ∧ v ≤ 9223372036854775807 ∧ e = .returned (.tuple #[.int .i64 v, .iface tp (.pointer (some p))]))) := by
  cases h : Lib.parseIntB 64 s.data.toList
  · rename_i v
    refine (Any.strconv_ParseInt_10_at64_ok Tryd.laysC174 s (by omega) v h w).mono ?_
    rintro e w' ⟨rfl, hW⟩
    refine ⟨?_, .inl ⟨v, rfl, rfl⟩⟩
    rcases hW with rfl | ⟨t, rfl⟩
    · exact Below.refl _ _
    · exact Lib.bytesWorld_below _ _ _
  · obtain ⟨tp, p, hv⟩ := he.syn
    refine (Any.strconv_ParseInt_10_at64_syntax_var Tryd.laysC174 s (by omega) h tp p w hv).mono ?_
    rintro e w' ⟨N, rfl, _, _, hb⟩
    exact ⟨hb, .inr ⟨0, _, ⟨N, 0, none⟩, fun n hn => (by cases hn), by omega, by omega, rfl⟩⟩
  · obtain ⟨tp, p, hv⟩ := he.ran
    refine (Any.strconv_ParseInt_10_at64_range_var Tryd.laysC174 s (by omega) h tp p w hv).mono ?_
    rintro e w' ⟨N, rfl, _, _, hb⟩
    refine ⟨hb, .inr ⟨Lib.intSat 64 s.data.toList, _, ⟨N, 0, none⟩, fun n hn => (by cases hn), ?_, ?_, rfl⟩⟩
    all_goals
      unfold Lib.intSat
      split
      all_goals simp

def btB (n a b : Int) : Bool := decide (a ≤ n) && decide (n ≤ b)
theorem between_i (n a b : Int) (w : World) :
    Calls Tryd.prog 16 #[.int .i64 n, .int .i64 a, .int .i64 b] w fun e w' => e = .returned (.bool (btB n a b)) ∧ w = w' := by
  unfold btB
  by_cases h : a ≤ n
  · by_cases h' : n ≤ b
    all_goals
      go_enter Tryd.func16, Tryd.ntmps16
      go_wp2
      go_ret
      exact ⟨by simp [h, h'], rfl⟩
  · go_enter Tryd.func16, Tryd.ntmps16
    go_wp2
    go_ret
    exact ⟨by simp; omega, rfl⟩

set_option maxHeartbeats 4000000 in
theorem read_i (s : ByteArray) (hs : s.size ≤ 140737488355328) (w : World) (ht : Tab w) (he : Errs w) :
    Calls Tryd.prog 30 #[.string s] w fun e w' => e = .returned (.tuple #[.int .i64 (ans s.data.toList).1, .bool (ans s.data.toList).2]) ∧ Below w.heap.size w w' := by
  have HP := Lib.hid (fun W (h : Errs W) => parse_c s hs W h)
  have HT := Lib.hid ht
  have HE := Lib.hid he
  clear ht he hs
  go_enter Tryd.func30, Tryd.ntmps30
  go_wp2_with fail
  refine (HP.out _ HE.out).mono ?_
  rintro e w1 ⟨b1, hh⟩
  have B1 := Lib.hid b1
  have T1 := Lib.hid (tab_below HT.out b1)
  clear b1
  rcases hh with ⟨v, hp, rfl⟩ | ⟨v, tp, p, hp, v0, v1, rfl⟩
  · have hbd := Lib.parseIntB_bounds hp
    have e63 : (2 : Nat) ^ (64 - 1) = 9223372036854775808 := rfl
    rw [e63] at hbd
    have hno : ∀ n, IsNum s.data.toList → numOf s.data.toList = n → n = v := fun n h hn => by
      have := isNum_parse h
      rw [hp, hn] at this
      injection this with this
      exact this.symm
    have HNO := Lib.hid hno
    have HP2 := Lib.hid hp
    have HBD := Lib.hid hbd
    clear hno hp hbd e63
    cases hb : btB v (-999999999999999999) 999999999999999999
    · have hn : ans s.data.toList = (0, false) := ans_no (fun h => by
        have h1 := h.1
        rw [HNO.out _ h rfl] at h1
        unfold small at h1
        unfold btB at hb
        rw [decide_eq_true (by omega), decide_eq_true (by omega)] at hb
        cases hb)
      have HN := Lib.hid hn
      clear hn
      go_wp2_with (go_at_call 16; refine (between_i _ _ _ _).mono ?_; rintro e w' ⟨rfl, rfl⟩)
      go_ret2
      exact ⟨by rw [HN.out]; rfl, B1.out⟩
    · have hsm : small v := by
        unfold btB at hb
        simp at hb
        unfold small
        omega
      have HSM := Lib.hid hsm
      clear hsm
      obtain ⟨A, hA⟩ : ∃ A : ByteArray, A = ⟨(Lib.itoa v).toArray⟩ := ⟨_, rfl⟩
      have hc : ∀ W, Tab W → Calls Tryd.prog 24 #[.int .i64 v] W fun e w' => e = .returned (.string A) ∧ Below W.heap.size W w' := fun W hW => by
        rw [hA]
        exact dec_i v (by have := HBD.out; omega) (by have := HBD.out; omega) W hW
      have HC := Lib.hid hc
      have hAl : A.data.toList = Lib.itoa v := by rw [hA]
      clear hc hA
      by_cases hq : Lib.itoa v = s.data.toList
      · have hn : ans s.data.toList = (v, true) := ans_yes HSM.out hq
        have HN := Lib.hid hn
        have e1 : (A.toList == s.toList) = true := by rw [ByteArray.toList_eq, ByteArray.toList_eq, hAl, hq]; simp
        have e2 : (A.toList != s.toList) = false := by rw [bne, e1]; rfl
        clear hn hAl hq
        go_wp2_with (first | (go_at_call 16; refine (between_i _ _ _ _).mono ?_; rintro e w' ⟨rfl, rfl⟩) | (go_at_call 24; refine (HC.out _ T1.out).mono ?_; rintro e w2 ⟨rfl, b2⟩; have B2 := Lib.hid (B1.out.trans (b2.mono B1.out.size)); clear b2))
        go_ret2
        exact ⟨by rw [HN.out]; rfl, B2.out⟩
      · have hn : ans s.data.toList = (0, false) := ans_no (fun h => hq (by rw [← HNO.out _ h rfl]; exact h.2))
        have HN := Lib.hid hn
        have e1 : (A.toList == s.toList) = false := by rw [ByteArray.toList_eq, ByteArray.toList_eq, hAl]; simpa using hq
        have e2 : (A.toList != s.toList) = true := by rw [bne, e1]; rfl
        clear hn hAl hq
        go_wp2_with (first | (go_at_call 16; refine (between_i _ _ _ _).mono ?_; rintro e w' ⟨rfl, rfl⟩) | (go_at_call 24; refine (HC.out _ T1.out).mono ?_; rintro e w2 ⟨rfl, b2⟩; have B2 := Lib.hid (B1.out.trans (b2.mono B1.out.size)); clear b2))
        go_ret2
        exact ⟨by rw [HN.out]; rfl, B2.out⟩
  · have hn : ans s.data.toList = (0, false) := ans_no (fun h => hp _ (isNum_parse h))
    have HN := Lib.hid hn
    clear hn hp
    go_wp2_with fail
    go_ret2
    exact ⟨by rw [HN.out]; rfl, B1.out⟩

end Go.Proofs.YtobohjfenjeckabDoor.num
