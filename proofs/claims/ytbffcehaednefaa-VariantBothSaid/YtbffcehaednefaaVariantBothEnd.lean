/- The law VariantBoth: its ways put together. -/
import Derived.Test.YtbffcehaednefaaVariantBothWalk
namespace Go.Proofs.Ytbffcehaednefaa.Variant
set_option linter.unusedVariables false
set_option linter.unusedSimpArgs false
open Go.RowKit

theorem great_len {T : List Tr} (h : greatT T = false) : T.length ≤ 50 := by
  unfold greatT at h
  simp only [Bool.or_eq_false_iff, decide_eq_false_iff_not] at h
  omega
theorem greatV_len {L : List Vr} (h : greatV L = false) : L.length ≤ 20 ∧ ∀ j, (L.getD j vr0).2.length ≤ maxLen := by
  unfold greatV at h
  simp only [Bool.or_eq_false_iff, decide_eq_false_iff_not] at h
  refine ⟨by omega, fun j => ?_⟩
  rcases Nat.lt_or_ge j L.length with hj | hj
  · have h2 := h.2
    rw [List.any_eq_false] at h2
    have h3 := h2 L[j] (List.getElem_mem hj)
    have e : L.getD j vr0 = L[j] := by rw [List.getD_eq_getElem?_getD, List.getElem?_eq_getElem hj]; rfl
    unfold gv at h3
    simp only [Bool.or_eq_true, decide_eq_true_eq, not_or] at h3
    rw [e]; unfold maxLen; omega
  · have e : L.getD j vr0 = vr0 := by rw [List.getD_eq_getElem?_getD, List.getElem?_eq_none hj]; rfl
    rw [e]; unfold maxLen; simp [vr0]

set_option maxHeartbeats 2000000 in
set_option maxRecDepth 100000 in
theorem law_both (A1 : Option Addr) (a : List Tr) (n1 c1 : Nat) (A2 : Option Addr) (b : List Tr) (n2 c2 : Nat) (A3 : Option Addr) (S : List Tr) (n3 c3 : Nat) (A4 : Option Addr) (L : List Vr) (n4 c4 : Nat) (w : World)
    (h1 : TRow w w.heap.size A1 a) (e1 : n1 = a.length) (_ : n1 ≤ c1) (_ : c1 ≤ maxLen) (f1 : FitT a)
    (h2 : TRow w w.heap.size A2 b) (e2 : n2 = b.length) (_ : n2 ≤ c2) (_ : c2 ≤ maxLen) (f2 : FitT b)
    (h3 : TRow w w.heap.size A3 S) (e3 : n3 = S.length) (_ : n3 ≤ c3) (_ : c3 ≤ maxLen) (f3 : FitT S)
    (h4 : VRow w w.heap.size A4 L) (e4 : n4 = L.length) (_ : n4 ≤ c4) (_ : c4 ≤ maxLen) (f4 : Fit L) :
    Calls Try.prog 5 #[.slice A1 n1 c1, .slice A2 n2 c2, .slice A3 n3 c3, .slice A4 n4 c4] w fun e w' => e = .returned (.bool true) ∧ Below w.heap.size w w' := by
  have FX := Lib.hid fixed_any
  have GA := Lib.hid (rgreatT_any A1 a n1 c1 w h1 e1)
  have GB := Lib.hid (rgreatT_any A2 b n2 c2 w h2 e2)
  have GS := Lib.hid (rgreatT_any A3 S n3 c3 w h3 e3)
  have GL := Lib.hid (rgreatV_any A4 L n4 c4 w h4 e4)
  cases g1 : greatT a with
  | true =>
    rw [g1] at GA
    clear h1 e1 f1 h2 e2 f2 h3 e3 f3 h4 e4 f4 g1
    go_enter Try.func5, Try.ntmps5
    go_wp2_with fail
    go_at_call 20; refine GA.out.mono ?_; rintro e w1 ⟨rfl, rfl⟩
    go_wp2_with fail
    go_at_call 11; refine (FX.out _).mono ?_; rintro e w1 ⟨rfl, hb⟩
    go_wp2_with fail
    go_ret
    exact ⟨rfl, hb⟩
  | false =>
    rw [g1] at GA
    cases g2 : greatT b with
    | true =>
      rw [g2] at GB
      clear h1 e1 f1 h2 e2 f2 h3 e3 f3 h4 e4 f4 g1 g2
      go_enter Try.func5, Try.ntmps5
      go_wp2_with fail
      go_at_call 20; refine GA.out.mono ?_; rintro e w1 ⟨rfl, rfl⟩
      go_wp2_with fail
      go_at_call 20; refine GB.out.mono ?_; rintro e w1 ⟨rfl, rfl⟩
      go_wp2_with fail
      go_at_call 11; refine (FX.out _).mono ?_; rintro e w1 ⟨rfl, hb⟩
      go_wp2_with fail
      go_ret
      exact ⟨rfl, hb⟩
    | false =>
      rw [g2] at GB
      cases g3 : greatT S with
      | true =>
        rw [g3] at GS
        clear h1 e1 f1 h2 e2 f2 h3 e3 f3 h4 e4 f4 g1 g2 g3
        go_enter Try.func5, Try.ntmps5
        go_wp2_with fail
        go_at_call 20; refine GA.out.mono ?_; rintro e w1 ⟨rfl, rfl⟩
        go_wp2_with fail
        go_at_call 20; refine GB.out.mono ?_; rintro e w1 ⟨rfl, rfl⟩
        go_wp2_with fail
        go_at_call 20; refine GS.out.mono ?_; rintro e w1 ⟨rfl, rfl⟩
        go_wp2_with fail
        go_at_call 11; refine (FX.out _).mono ?_; rintro e w1 ⟨rfl, hb⟩
        go_wp2_with fail
        go_ret
        exact ⟨rfl, hb⟩
      | false =>
        rw [g3] at GS
        cases g4 : greatV L with
        | true =>
          rw [g4] at GL
          clear h1 e1 f1 h2 e2 f2 h3 e3 f3 h4 e4 f4 g1 g2 g3 g4
          go_enter Try.func5, Try.ntmps5
          go_wp2_with fail
          go_at_call 20; refine GA.out.mono ?_; rintro e w1 ⟨rfl, rfl⟩
          go_wp2_with fail
          go_at_call 20; refine GB.out.mono ?_; rintro e w1 ⟨rfl, rfl⟩
          go_wp2_with fail
          go_at_call 20; refine GS.out.mono ?_; rintro e w1 ⟨rfl, rfl⟩
          go_wp2_with fail
          go_at_call 16; refine GL.out.mono ?_; rintro e w1 ⟨rfl, rfl⟩
          go_wp2_with fail
          go_at_call 11; refine (FX.out _).mono ?_; rintro e w1 ⟨rfl, hb⟩
          go_wp2_with fail
          go_ret
          exact ⟨rfl, hb⟩
        | false =>
          rw [g4] at GL
          have m1 : n1 ≤ 50 := by rw [e1]; exact great_len g1
          have m2 : n2 ≤ 50 := by rw [e2]; exact great_len g2
          have m3 : n3 ≤ 50 := by rw [e3]; exact great_len g3
          have m4 : n4 ≤ 20 := by rw [e4]; exact (greatV_len g4).1
          have ML : 1000 ≤ maxLen := by unfold maxLen; omega
          have C : BC a b S L (.slice A1 n1 c1) (.slice A2 n2 c2) (.slice A3 n3 c3) (.slice A4 n4 c4) w := {
            fx := fixed_any
            wa := fun w1 hb => wish_any A1 a n1 c1 w1 (h1.below hb.size hb) e1 (by omega)
            ra := fun w1 hb => rwish_any A1 a n1 c1 w1 (h1.below hb.size hb) e1 (by omega) f1
            rb := fun w1 hb => rwish_any A2 b n2 c2 w1 (h2.below hb.size hb) e2 (by omega) f2
            me := fun w1 hb => meets_any A3 S n3 c3 A1 a n1 c1 w1 (h3.below hb.size hb) e3 (by omega) (h1.below hb.size hb) e1 (by omega)
            ma := fun w1 hb => rmeets_any A3 S n3 c3 A1 a n1 c1 w1 (h3.below hb.size hb) e3 (by omega) (h1.below hb.size hb) e1 (by omega)
            mb := fun w1 hb => rmeets_any A3 S n3 c3 A2 b n2 c2 w1 (h3.below hb.size hb) e3 (by omega) (h2.below hb.size hb) e2 (by omega)
            mc := fun A' C k c w1 hb hr hk hm => rmeets_any A3 S n3 c3 A' C k c w1 (h3.below hb.size hb) e3 (by omega) hr hk (by omega)
            may := fun w1 hb => rmay_any A4 L n4 c4 w1 (h4.below hb.size hb) e4 f4
            leg := fun w1 hb => rlegal_any A4 L n4 c4 A3 S n3 c3 w1 (h4.below hb.size hb) e4 (by omega) (greatV_len g4).2 (h3.below hb.size hb) e3 (by omega)
            no := fun hno w1 hb => both_no A1 a n1 c1 A2 b n2 c2 w1 (h1.below hb.size hb) e1 (by omega) (h2.below hb.size hb) e2 (by omega) hno
            ab := fun ha hb w1 hbl => both_yes A1 a n1 c1 A2 b n2 c2 w1 (h1.below hbl.size hbl) e1 (by omega) (h2.below hbl.size hbl) e2 (by omega) ha hb
            ba := fun ha hb w1 hbl => both_yes A2 b n2 c2 A1 a n1 c1 w1 (h2.below hbl.size hbl) e2 (by omega) (h1.below hbl.size hbl) e1 (by omega) hb ha }
          cases ha : wishB a with
          | false => exact both_no1 A1 A2 A3 A4 n1 n2 n3 n4 c1 c2 c3 c4 a b S L w (Lib.hid C) GA GB GS GL ha
          | true =>
            cases hb : wishB b with
            | false => exact both_no2 A1 A2 A3 A4 n1 n2 n3 n4 c1 c2 c3 c4 a b S L w (Lib.hid C) GA GB GS GL ha hb
            | true =>
              cases hc : clashB a b with
              | false => exact both_plain A1 A2 A3 A4 n1 n2 n3 n4 c1 c2 c3 c4 a b S L w (Lib.hid C) GA GB GS GL ha hb hc e1 e2 m1 m2 (Lib.hid f1) (Lib.hid f2)
              | true => exact both_clash A1 A2 A3 A4 n1 n2 n3 n4 c1 c2 c3 c4 a b S L w (Lib.hid C) GA GB GS GL ha hb hc e1 e2 m1 m2 h1 h2

end Go.Proofs.Ytbffcehaednefaa.Variant
