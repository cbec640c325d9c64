/- Texts of clauses: a clause's line. -/
import Derived.Test.YtlgakejjakeomaaDoorRdN
import Derived.Test.YtlgakejjakeomaaDoorCnfI
namespace Go.Proofs.YtlgakejjakeomaaDoor.Rd
set_option linter.unusedVariables false
set_option linter.unusedSimpArgs false
open Go.RowKit
open Go.Proofs.YtlgakejjakeomaaDoor.Cnf (rowV own_irow keep_of)

/-- the literals' texts. -/
def bodyL (l : List Int) : Bs := l.flatMap fun x => Lib.itoa x ++ [32]
theorem bodyL_app (l : List Int) (x : Int) : bodyL (l ++ [x]) = bodyL l ++ (Lib.itoa x ++ [32]) := by unfold bodyL; rw [List.flatMap_append]; simp
theorem bodyL_len : ∀ l : List Int, l.length ≤ (bodyL l).length
  | [] => Nat.zero_le _
  | x :: l => by
    have := bodyL_len l
    have e : bodyL (x :: l) = (Lib.itoa x ++ [32]) ++ bodyL l := by unfold bodyL; rw [List.flatMap_cons]
    rw [e]
    simp
    omega
/-- what may stand in a clause. -/
def OkC (n0 : Int) (l : List Int) : Prop := ∀ x ∈ l, -9223372036854775808 ≤ x ∧ x ≤ 9223372036854775807 ∧ x ≠ 0 ∧ x ≤ n0 ∧ -n0 ≤ x
/-- what a clause's line is read as. -/
def ClauseEnd (s : ByteArray) (n0 : Int) (w : World) (e : Ending) (w' : World) : Prop :=
  Below w.heap.size w w' ∧ ((e = .returned (.tuple #[.slice none 0 0, .bool false])) ∨ ∃ A n c l, n = l.length ∧ e = .returned (.tuple #[.slice A n c, .bool true]) ∧ w'.ownsRow w.heap.size 3 1 (.slice A n c) n (rowV l) ∧ s.data.toList = bodyL l ++ [48] ∧ OkC n0 l)
theorem suffix_of {s : Bs} (h : Lib.hasSuffix s [48] = true) : s = Lib.trimSuffix s [48] ++ [48] := by
  unfold Lib.trimSuffix
  rw [if_pos h]
  unfold Lib.hasSuffix at h
  rw [List.isSuffixOf_iff_suffix] at h
  obtain ⟨t, ht⟩ := h
  rw [← ht]
  simp

set_option maxHeartbeats 4000000 in
set_option maxRecDepth 100000 in
theorem clause_rd {B : Nat} {w : World} (h : LV B w) (hB : B ≤ w.heap.size) (s : ByteArray) (hs : s.size ≤ 3000) (n0 : Int) (n00 : 0 ≤ n0) (n01 : n0 ≤ 9223372036854775807) :
    Calls Tryd.prog 30 #[.string s, .int .i64 n0] w (ClauseEnd s n0 w) := by
  obtain ⟨i0, hi0, hz⟩ := Option.map_eq_some_iff.1 (show (Tryd.prog.info? 3).map (fun i => (i.zero, i.size, i.bytes)) = some (some (.int .i64 0), 1, 8) by kernel_rfl)
  simp only [Prod.mk.injEq] at hz
  obtain ⟨hz0, hz1, hz2⟩ := hz
  have CS := Lib.hid (Tryd.strings_CutSuffix s ⟨#[48]⟩ w (by omega))
  have HV := Lib.hid h
  have HB := Lib.hid hB
  have HS := Lib.hid hs
  have wn : IntKind.i64.wrap (-n0) = -n0 := IntWalk.i64_in _ (by omega)
  have INF := Lib.hid (And.intro hi0 (And.intro hz0 (And.intro hz1 hz2)))
  clear h hB hs hi0 hz0 hz1 hz2
  go_enter Tryd.func30, Tryd.ntmps30
  go_wp2_with fail
  go_at_call 43; refine CS.out.mono ?_
  rintro e w1 ⟨rfl, hw1⟩
  obtain rfl := hw1.symm
  have TS := Lib.hid (fun h => suffix_of (s := s.data.toList) h)
  obtain ⟨b0, hb0⟩ : ∃ b0 : ByteArray, b0 = ⟨(Lib.trimSuffix s.data.toList [48]).toArray⟩ := ⟨_, rfl⟩
  have hb1 : Lib.trimSuffix s.data.toList (⟨#[48]⟩ : ByteArray).data.toList = b0.data.toList := by rw [hb0]
  have hb2 : (⟨(Lib.trimSuffix s.data.toList (⟨#[48]⟩ : ByteArray).data.toList).toArray⟩ : ByteArray) = b0 := by rw [hb0]
  rw [hb2]
  have SZ : Hid (b0.size ≤ 3000) := Lib.hid (by
    rw [size_l, ← hb1]
    have h : (Lib.trimSuffix s.data.toList [48]).length ≤ s.data.toList.length := by
      unfold Lib.trimSuffix
      split
      · rw [List.length_take]; omega
      · exact Nat.le_refl _
    rw [← size_l] at h
    have := HS.out
    show (Lib.trimSuffix s.data.toList [48]).length ≤ 3000
    omega)
  have HB0 := Lib.hid hb1
  clear hb0 hb1 hb2 CS
  cases hsf : Lib.hasSuffix s.data.toList (⟨#[48]⟩ : ByteArray).data.toList with
  | false =>
    go_wp2_with fail
    go_ret2
    exact ⟨Below.refl _ _, .inl rfl⟩
  | true =>
    have SP : Hid (s.data.toList = b0.data.toList ++ [48]) := Lib.hid (by
      have h := TS.out hsf
      rw [h]
      congr 1)
    clear hsf TS
    go_wp2_with fail
    go_loopw [6, 8, 9, 10, 11, 12, 13] (fun body row _ _ _ _ _ wr => ∃ (r : ByteArray) (l : List Int) (A : Option Addr) (c : Nat), body = .string r ∧ row = .slice A l.length c ∧ b0.data.toList = bodyL l ++ r.data.toList ∧ OkC n0 l ∧ wr.ownsRow w.heap.size 3 1 (.slice A l.length c) l.length (rowV l) ∧ Below w.heap.size w wr)
      (fun body _ _ _ _ _ _ _ => match body with | .string r => r.size | _ => 0)
    case atStart => exact ⟨b0, [], none, 0, rfl, rfl, rfl, fun x hx => absurd hx List.not_mem_nil, World.ownsRow_nil _ _ _ _, Below.refl _ _⟩
    case round =>
      obtain ⟨r, l, A, c, rfl, rfl, hbl, hok, hown, hbw⟩ := hrel
      have OW := Lib.hid hown
      have BW := Lib.hid hbw
      have BL := Lib.hid hbl
      have OK := Lib.hid hok
      have RZ : Hid (r.size ≤ 3000 ∧ l.length ≤ 3000) := Lib.hid (by
        have h := congrArg List.length hbl
        rw [List.length_append, ← size_l, ← size_l] at h
        have := bodyL_len l
        have := SZ.out
        omega)
      clear hown hbw hbl hok
      by_cases hr : r.toList = []
      · have g0 : (r.toList == []) = true := by rw [hr]; rfl
        have RE : Hid (r.data.toList = []) := Lib.hid (by rw [← Lib.toList_data]; exact hr)
        have R : Hid (ClauseEnd s n0 w (.returned (.tuple #[.slice A l.length c, .bool true])) wr) := Lib.hid ⟨BW.out, .inr ⟨A, l.length, c, l, rfl, rfl, OW.out, by rw [SP.out, BL.out, RE.out, List.append_nil], OK.out⟩⟩
        clear hr
        go_wp2_with fail
        go_ret2
        exact R.out
      · have g0 : (r.toList == []) = false := beq_eq_false_iff_ne.2 hr
        clear hr
        have CU := Lib.hid (cut_any r 32 RZ.out.1 wr)
        go_wp2_with fail
        go_at_call 28; refine CU.out.mono ?_
        rintro e w2 ⟨a, r2, f, rfl, ⟨k2, hw2⟩, ha, hr2, hf⟩
        have B2 : Hid (Below wr.heap.size wr w2) := Lib.hid (by rw [hw2]; exact ⟨rfl, rfl, rfl, Nat.le_refl _, fun _ _ => rfl⟩)
        have HF := Lib.hid hf
        have NM := Lib.hid (num_any (HV.out.below ((BW.out.trans (B2.out.mono BW.out.size)).mono HB.out)) (by have := HB.out; have := BW.out.size; have := B2.out.size; omega) a (by have := RZ.out; omega))
        clear hw2 ha hr2 hf CU
        go_wp2_with fail
        go_at_call 42; refine NM.out.mono ?_
        rintro e w3 ⟨hb3, v, ok, rfl, v0, v1, hv⟩
        have B3 : Hid (Below wr.heap.size wr w3) := Lib.hid (B2.out.trans (hb3.mono B2.out.size))
        have BW3 : Hid (Below w.heap.size w w3) := Lib.hid (BW.out.trans (B3.out.mono BW.out.size))
        have HVV := Lib.hid hv
        have V0 := Lib.hid (And.intro v0 v1)
        have R : Hid (ClauseEnd s n0 w (.returned (.tuple #[.slice none 0 0, .bool false])) w3) := Lib.hid ⟨BW3.out, .inl rfl⟩
        clear hb3 hv NM v0 v1
        cases f
        · go_wp2_with fail
          go_ret2
          exact R.out
        · cases ok
          · go_wp2_with fail
            go_ret2
            exact R.out
          · by_cases h0 : v = 0
            · subst h0
              go_wp2_with fail
              go_ret2
              exact R.out
            · have h0' : (v == 0) = false := beq_eq_false_iff_ne.2 h0
              by_cases h1 : n0 < v
              · go_wp2_with fail
                go_ret2
                exact R.out
              · by_cases h2 : v < -n0
                · go_wp2_with fail
                  go_ret2
                  exact R.out
                · have V := Lib.hid (And.intro h0 (And.intro h1 h2))
                  have OW3 := Lib.hid (keep_of OW.out B3.out)
                  have h63 : l.length + 1 ≤ maxLen := by have := RZ.out; unfold maxLen; omega
                  have hby : (l.length + 1) * 8 ≤ 140737488355328 := by have := RZ.out; omega
                  have BS : w.heap.size ≤ w3.heap.size := BW3.out.size
                  obtain ⟨hi0, hz0, hz1, hz2⟩ := INF.out
                  clear h0 R
                  go_wp2_with (at_builtin; refine wp_append_one _ rfl (.tmp 55) (.tmp 57) 73 rfl w.heap.size 3 i0 _ 8 Tryd.underlying73 hi0 hz0 hz1 hz2 rfl _ _ _ rfl OW3.out _ rfl rfl h63 hby BS ?_; intro g2 cap2 w4 hown2 hg2 hgs2 hbel2 hsz2 hgr2; have O4 := Lib.hid hown2; have B4 := Lib.hid hbel2; clear hown2 hg2 hgs2 hbel2 hsz2 hgr2)
                  go_roundw
                  case rel =>
                    refine ⟨r2, l ++ [v], some ⟨g2, 0, none⟩, cap2, rfl, by simp, ?_, ?_, by simpa using O4.out, BW3.out.trans B4.out⟩
                    · rw [BL.out, (HF.out (by first | rfl | trivial)).1, HVV.out (by first | rfl | trivial), bodyL_app]; simp
                    · intro x hx
                      rw [List.mem_append, List.mem_singleton] at hx
                      rcases hx with hx | rfl
                      · exact OK.out x hx
                      · have hV := V.out; have hV0 := V0.out; exact ⟨hV0.1, hV0.2, hV.1, by omega, by omega⟩
                  case measure => exact (HF.out (by first | rfl | trivial)).2

end Go.Proofs.YtlgakejjakeomaaDoor.Rd
