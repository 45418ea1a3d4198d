/-
  The words of a text: the program's, with the library's Builder.
-/
import Derived.Test.YtminbbdmjglnjaaWords
import Derived.Test.YtminbbdmjglnjaaBuild
import Derived.Test.YtminbbdmjglnjaaShelf
namespace Go.Proofs.Ytminbbdmjglnjaa.split
open Go.ChangeShapes Go.WideShapes Go.ChangeAt Go.RowKit
open Go.Proofs.Ytminbbdmjglnjaa.mem Go.Proofs.Ytminbbdmjglnjaa.build
set_option linter.unusedVariables false

theorem extra_s : Builder.Extra Try.prog Try.lays169_ren where
  sizeBuilder := by kernel_rfl
  liesBuilder := by kernel_rfl
  t5 := Try.underlying5
  a5 := Try.isAgg5
  z5 := Try.sizeOf5
  v5 := Try.zeroValue5
  infoByte := by kernel_rfl
  cellsByte := by kernel_rfl
  sizeByte := by kernel_rfl
  neB5 := by decide
theorem string_c (B b : Nat) (C : List UInt8) (R : ByteArray) (hR : R = ⟨C.toArray⟩) (h0 : C ≠ []) (w : World) (h : Bld B b (Lib.byteCells C) w) :
    Calls Try.prog 96 #[.pointer (some ⟨b, 0, none⟩)] w fun e w' => e = .returned (.string R) ∧ Bld B b (Lib.byteCells C) w' ∧ Below B w w' ∧ Lib.OthersKept 5 (some b) w w' := by
  subst hR
  exact Any.Builder_String_k Try.lays169 extra_s B b C w h h0

theorem bld_heap {B b : Nat} {bs : List Value} {w : World} (h : Bld B b bs w) : ∃ p v, w.heap[b]? = some (.cells #[p, v] 114 (0, 0)) := by
  rcases h with ⟨_, v, hb, _⟩ | ⟨_, v, hb, _⟩
  · exact ⟨_, v, hb⟩
  · exact ⟨_, v, hb⟩
/-- what keeps all rows but those of texts keeps a builder -/
theorem bld_others {B b : Nat} {bs : List Value} {w w' : World} (h : Bld B b bs w) (hk : Lib.OthersKept 9 none w w') : Bld B b bs w' := by
  have hA : ∀ p, Lib.BuilderAtF 114 5 B b p bs w → Lib.BuilderAtF 114 5 B b p bs w' := by
    rintro p ⟨hB, v, hb, ⟨hl, hown⟩, hne⟩
    refine ⟨hB, v, hk b _ hb (by simp) (fun c fz e => by injection e with _ e _; exact absurd e (by decide)), ⟨hl, ?_⟩, hne⟩
    rcases hown with h0 | ⟨g, cap, cur, fz, e, hg, hh, r⟩
    · exact .inl h0
    · exact .inr ⟨g, cap, cur, fz, e, hg, hk g _ hh (by simp) (fun c fz e => by injection e with _ e _; exact absurd e (by decide)), r⟩
  rcases h with h | h
  · exact .inl (hA _ h)
  · exact .inr (hA _ h)
/-- what keeps all but the builder and rows of bytes keeps a row of texts -/
theorem owns_others {B b n : Nat} {bs xs : List Value} {v : Value} {w w' : World} (h : w.ownsRow B 9 1 v n xs) (hb : Bld B b bs w) (hk : Lib.OthersKept 5 (some b) w w') : w'.ownsRow B 9 1 v n xs := by
  obtain ⟨p, u, hbk⟩ := bld_heap hb
  obtain ⟨hl, h⟩ := h
  rcases h with h0 | ⟨g, cap, cur, e, hg, hh, r⟩
  · exact ⟨hl, .inl h0⟩
  · refine ⟨hl, .inr ⟨g, cap, cur, e, hg, hk g _ hh ?_ (fun c fz e => by injection e with _ e _; exact absurd e (by decide)), r⟩⟩
    intro e2
    obtain rfl : g = b := by injection e2
    rw [hbk] at hh
    injection hh with hh
    injection hh with _ hh _
    exact absurd hh (by decide)

/-- done, then what is read of the part, then what is left -/
def inv (l : List UInt8) (k : Nat) (D : List (List UInt8)) (C : List UInt8) : Prop :=
  (k ≤ l.length → D ++ (splitA 32 C (l.drop k)).filter full = words l) ∧ (l.length < k → D = words l)
theorem inv_word {l : List UInt8} {k : Nat} {D : List (List UInt8)} {C : List UInt8} {c : UInt8} (h : inv l k D C) (hk : k < l.length) (hd : l.drop k = c :: l.drop (k + 1)) (hc : ¬ c = 32) : inv l (k + 1) D (C ++ [c]) := by
  refine ⟨fun _ => ?_, fun h2 => absurd h2 (by omega)⟩
  have h1 := h.1 (by omega)
  rw [hd, splitA, if_neg hc] at h1
  exact h1
theorem inv_blank {l : List UInt8} {k : Nat} {D : List (List UInt8)} {C : List UInt8} (h : inv l k D C) (hk : k < l.length) (hd : l.drop k = 32 :: l.drop (k + 1)) : inv l (k + 1) (D ++ [C].filter full) [] := by
  refine ⟨fun _ => ?_, fun h2 => absurd h2 (by omega)⟩
  have h1 := h.1 (by omega)
  rw [hd, splitA, if_pos rfl, show C :: splitA 32 [] (l.drop (k + 1)) = [C] ++ splitA 32 [] (l.drop (k + 1)) from rfl, List.filter_append] at h1
  rw [List.append_assoc]
  exact h1
theorem inv_end {l : List UInt8} {D : List (List UInt8)} {C : List UInt8} (h : inv l l.length D C) : inv l (l.length + 1) (D ++ [C].filter full) [] := by
  refine ⟨fun h2 => absurd h2 (by omega), fun _ => ?_⟩
  have h1 := h.1 (Nat.le_refl _)
  rw [List.drop_length, splitA] at h1
  exact h1

theorem owns_no (w : World) (B : Nat) (E : TypeId) : w.ownsRow B E 1 (.slice none 0 0) 0 (([] : List (List UInt8)).map strV) := ⟨rfl, .inl ⟨rfl, rfl⟩⟩
theorem full_ne {C : List UInt8} (h : C ≠ []) : full C = true := by unfold full; cases C with
  | nil => exact absurd rfl h
  | cons a r => rfl

set_option maxHeartbeats 8000000 in
set_option maxRecDepth 100000 in
theorem words_i (s : ByteArray) (hs : s.size ≤ 1048576) (w : World) :
    Calls Try.prog 48 #[.string s] w fun e w' => ∃ v, e = .returned v ∧ w'.ownsRow w.heap.size 9 1 v (words s.data.toList).length ((words s.data.toList).map strV) ∧ Below w.heap.size w w' := by
  obtain ⟨i0, hi0, hz0, hz1, hz2⟩ := info_parts info_str
  have hfresh := Lib.IsBuilderF.of (Lib.fresh_isBuilder 114 5 w)
  have HF := Lib.hid hfresh
  clear hfresh
  go_enter Try.func48, Try.ntmps48
  go_wp2_with fail
  go_loopw [9, 3] (fun a v wr => ∃ (k : Nat) (D : List (List UInt8)) (C : List UInt8), k ≤ s.size + 1 ∧ a = .int .i64 (k : Int) ∧ D.length ≤ k ∧ C.length ≤ k ∧ Hid (inv s.data.toList k D C) ∧ Hid (wr.ownsRow w.heap.size 9 1 v D.length (D.map strV)) ∧ Hid (Bld w.heap.size w.heap.size (Lib.byteCells C) wr) ∧ Below w.heap.size w wr) (fun a _ _ => s.size + 1 - (intOf a).toNat)
  case atStart => exact ⟨0, [], [], by omega, rfl, Nat.le_refl _, Nat.le_refl _, ⟨fun _ => rfl, fun h => absurd h (by omega)⟩, owns_no _ _ _, HF.out, (Below.refl _ _).alloc (Nat.le_refl _) _⟩
  case round =>
    rename_i v wr
    obtain ⟨k, D, C, hk, rfl, hD, hC, hinv, hown, hbld, hbl⟩ := hrel
    have HB := Lib.hid hbl
    have hzz := hbl.size
    clear hbl
    by_cases hlt : k < s.size + 1
    · have hlt' : (k : Int) < (s.size : Int) + 1 := by omega
      by_cases hsk : k < s.size
      · have hsk' : (k : Int) < (s.size : Int) := by omega
        have hdr := drop_at s k hsk
        have hkl : k < s.data.toList.length := by rw [size_len]; exact hsk
        by_cases hc : s[k] = 32
        · have e1 : (((s[k]'hsk).toNat : Int) == 32) = true := by rw [hc]; rfl
          have e2 : (((s[k]'hsk).toNat : Int) != 32) = false := by rw [bne, e1]; rfl
          have hi := inv_blank hinv.out hkl (by rw [hdr, hc])
          clear hinv hdr hkl hc
          by_cases hC0 : C = []
          · subst hC0
            have hi2 : inv s.data.toList (k + 1) D [] := by
              have e : D ++ [([] : List UInt8)].filter full = D := by rw [show [([] : List UInt8)].filter full = [] from rfl, List.append_nil]
              rw [e] at hi
              exact hi
            have HI := Lib.hid hi2
            clear hi hi2
            go_wp2_with (go_at_call 95; refine (len_c _ _ _ _ hbld.out).mono ?_; rintro e w2 ⟨rfl, rfl⟩)
            go_roundw
            case rel => exact ⟨k + 1, D, [], by omega, by go_num, by omega, by simp, HI.out, hown.out, hbld.out, HB.out⟩
            case measure => simp [intOf] <;> omega
          · have hi2 : inv s.data.toList (k + 1) (D ++ [C]) [] := by
              have e : [C].filter full = [C] := by simp [full_ne hC0]
              rw [e] at hi
              exact hi
            have HI := Lib.hid hi2
            have hcl : 0 < C.length := by cases C with
              | nil => exact absurd rfl hC0
              | cons a r => simp
            have hcl' : (0 : Int) < ((Lib.byteCells C).length : Int) := by rw [Lib.byteCells_length]; omega
            have hl1 : D.length + 1 ≤ maxLen := by unfold maxLen; omega
            have hl2 : (D.length + 1) * 16 ≤ 140737488355328 := by omega
            obtain ⟨R, hR⟩ : ∃ R : ByteArray, R = ⟨C.toArray⟩ := ⟨_, rfl⟩
            have HS := Lib.hid (fun W h => string_c w.heap.size w.heap.size C R hR hC0 W h)
            have HQ : Hid (strV C = .string R) := by rw [hR]; rfl
            clear hi hi2 hR hC0
            go_wp2_with (go_at_call 95; refine (len_c _ _ _ _ hbld.out).mono ?_; rintro e w2 ⟨rfl, rfl⟩)
            refine (HS.out _ hbld.out).mono ?_
            rintro e w3 ⟨rfl, hbld3, hb3, hk3⟩
            have hown3 := owns_others hown.out hbld.out hk3
            have B3 : Below w.heap.size w w3 := HB.out.trans hb3
            have x3 := B3.size
            have HO3 := Lib.hid hown3
            have HB3 := Lib.hid hbld3
            clear hown3 hbld3 hb3 hk3
            go_wp2_with (at_builtin; refine wpList_append_own _ rfl _ _ 62 rfl w.heap.size 9 i0 (.string ByteArray.empty) 1 16 Try.underlying62 hi0 hz0 hz1 hz2 rfl (by decide) _ _ _ rfl (HO3.out.alloc _) ⟨w3.heap.size, 0, none⟩ 1 1 [.string R] rfl rfl ?c1 ?c2 hl1 hl2 ?c5 ?_)
            case c1 => intro j u hj; rcases j with _ | j <;> simp at hj; subst hj; go_simp
            case c2 => intro u hu; simp at hu; subst hu; rfl
            case c5 => simp <;> omega
            intro v' w4 hown4 hgrow4 _
            have g4 : Below w.heap.size w w4 := Below.grown (B3.alloc x3 _) hgrow4 (by simp; omega) (owns_block HO3.out)
            have hk4 : Lib.OthersKept 9 none w3 w4 := ((Lib.OthersKept.refl _ _ w3).alloc _).grown hgrow4 (Lib.ownsRowF_kind (World.ownsRowF_of (HO3.out.alloc _)))
            have hbld4 := bld_others HB3.out hk4
            rw [← HQ.out] at hown4
            have hown4' := owns_sn hown4
            have HO4 := Lib.hid hown4'
            have HB4 := Lib.hid hbld4
            clear hown4 hown4' hgrow4 hk4 hbld4
            go_wp2_with fail
            refine (reset_c _ _ _ _ HB4.out).mono ?_
            rintro e w5 ⟨rfl, hbld5, hb5, hk5⟩
            have hown5 := owns_others HO4.out HB4.out hk5
            have B5 : Below w.heap.size w w5 := g4.trans hb5
            have HO5 := Lib.hid hown5
            have HB5 := Lib.hid hbld5
            clear hown5 hbld5 hb5 hk5
            go_wp2
            go_roundw
            case rel => exact ⟨k + 1, D ++ [C], [], by omega, by go_num, by simp; omega, by simp, HI.out, HO5.out, HB5.out, B5⟩
            case measure => simp [intOf] <;> omega
        · have e1 : (((s[k]'hsk).toNat : Int) == 32) = false := by
            simp
            intro h
            exact hc (UInt8.toNat_inj.1 (by have : (32 : UInt8).toNat = 32 := rfl; omega))
          have e2 : (((s[k]'hsk).toNat : Int) != 32) = true := by rw [bne, e1]; rfl
          have hi := inv_word hinv.out hkl hdr hc
          have HI := Lib.hid hi
          clear hinv hdr hkl hc hi
          go_wp2_with fail
          refine (write_c _ _ _ _ _ hbld.out (by rw [Lib.byteCells_length]; omega) hzz).mono ?_
          rintro e w2 ⟨rfl, hbld2, hb2, hk2⟩
          have hown2 := owns_others hown.out hbld.out hk2
          have B2 : Below w.heap.size w w2 := HB.out.trans hb2
          have HO2 := Lib.hid hown2
          have HB2 : Hid (Bld w.heap.size w.heap.size (Lib.byteCells (C ++ [s[k]'hsk])) w2) := by rw [Hid, Lib.byteCells_append]; exact hbld2
          clear hown2 hbld2 hb2 hk2
          go_wp2
          go_roundw
          case rel => exact ⟨k + 1, D, C ++ [s[k]'hsk], by omega, by go_num, by omega, by simp; omega, HI.out, HO2.out, HB2.out, B2⟩
          case measure => simp [intOf] <;> omega
      · have hsk' : ¬ (k : Int) < (s.size : Int) := by omega
        obtain rfl : k = s.size := by omega
        have hi : inv s.data.toList (s.size + 1) (D ++ [C].filter full) [] := by
          have h9 := hinv.out
          rw [← size_len] at h9 ⊢
          exact inv_end h9
        clear hinv
        by_cases hC0 : C = []
        · subst hC0
          have hi2 : inv s.data.toList (s.size + 1) D [] := by
            have e : D ++ [([] : List UInt8)].filter full = D := by rw [show [([] : List UInt8)].filter full = [] from rfl, List.append_nil]
            rw [e] at hi
            exact hi
          have HI := Lib.hid hi2
          clear hi hi2
          go_wp2_with (go_at_call 95; refine (len_c _ _ _ _ hbld.out).mono ?_; rintro e w2 ⟨rfl, rfl⟩)
          go_roundw
          case rel => exact ⟨s.size + 1, D, [], by omega, by go_num, by omega, by simp, HI.out, hown.out, hbld.out, HB.out⟩
          case measure => simp [intOf] <;> omega
        · have hi2 : inv s.data.toList (s.size + 1) (D ++ [C]) [] := by
            have e : [C].filter full = [C] := by simp [full_ne hC0]
            rw [e] at hi
            exact hi
          have HI := Lib.hid hi2
          have hcl : 0 < C.length := by cases C with
            | nil => exact absurd rfl hC0
            | cons a r => simp
          have hcl' : (0 : Int) < ((Lib.byteCells C).length : Int) := by rw [Lib.byteCells_length]; omega
          have hl1 : D.length + 1 ≤ maxLen := by unfold maxLen; omega
          have hl2 : (D.length + 1) * 16 ≤ 140737488355328 := by omega
          obtain ⟨R, hR⟩ : ∃ R : ByteArray, R = ⟨C.toArray⟩ := ⟨_, rfl⟩
          have HS := Lib.hid (fun W h => string_c w.heap.size w.heap.size C R hR hC0 W h)
          have HQ : Hid (strV C = .string R) := by rw [hR]; rfl
          clear hi hi2 hR hC0
          go_wp2_with (go_at_call 95; refine (len_c _ _ _ _ hbld.out).mono ?_; rintro e w2 ⟨rfl, rfl⟩)
          refine (HS.out _ hbld.out).mono ?_
          rintro e w3 ⟨rfl, hbld3, hb3, hk3⟩
          have hown3 := owns_others hown.out hbld.out hk3
          have B3 : Below w.heap.size w w3 := HB.out.trans hb3
          have x3 := B3.size
          have HO3 := Lib.hid hown3
          have HB3 := Lib.hid hbld3
          clear hown3 hbld3 hb3 hk3
          go_wp2_with (at_builtin; refine wpList_append_own _ rfl _ _ 62 rfl w.heap.size 9 i0 (.string ByteArray.empty) 1 16 Try.underlying62 hi0 hz0 hz1 hz2 rfl (by decide) _ _ _ rfl (HO3.out.alloc _) ⟨w3.heap.size, 0, none⟩ 1 1 [.string R] rfl rfl ?c1 ?c2 hl1 hl2 ?c5 ?_)
          case c1 => intro j u hj; rcases j with _ | j <;> simp at hj; subst hj; go_simp
          case c2 => intro u hu; simp at hu; subst hu; rfl
          case c5 => simp <;> omega
          intro v' w4 hown4 hgrow4 _
          have g4 : Below w.heap.size w w4 := Below.grown (B3.alloc x3 _) hgrow4 (by simp; omega) (owns_block HO3.out)
          have hk4 : Lib.OthersKept 9 none w3 w4 := ((Lib.OthersKept.refl _ _ w3).alloc _).grown hgrow4 (Lib.ownsRowF_kind (World.ownsRowF_of (HO3.out.alloc _)))
          have hbld4 := bld_others HB3.out hk4
          rw [← HQ.out] at hown4
          have hown4' := owns_sn hown4
          have HO4 := Lib.hid hown4'
          have HB4 := Lib.hid hbld4
          clear hown4 hown4' hgrow4 hk4 hbld4
          go_wp2_with fail
          refine (reset_c _ _ _ _ HB4.out).mono ?_
          rintro e w5 ⟨rfl, hbld5, hb5, hk5⟩
          have hown5 := owns_others HO4.out HB4.out hk5
          have B5 : Below w.heap.size w w5 := g4.trans hb5
          have HO5 := Lib.hid hown5
          have HB5 := Lib.hid hbld5
          clear hown5 hbld5 hb5 hk5
          go_wp2
          go_roundw
          case rel => exact ⟨s.size + 1, D ++ [C], [], by omega, by go_num, by simp; omega, by simp, HI.out, HO5.out, HB5.out, B5⟩
          case measure => simp [intOf] <;> omega
    · obtain rfl : k = s.size + 1 := by omega
      have hfin := hinv.out.2 (by rw [size_len]; omega)
      have hown2 := hown.out
      rw [hfin] at hown2
      have HO := Lib.hid hown2
      clear hown2 hfin
      go_wp2
      go_ret
      exact ⟨_, rfl, HO.out, HB.out⟩

end Go.Proofs.Ytminbbdmjglnjaa.split
