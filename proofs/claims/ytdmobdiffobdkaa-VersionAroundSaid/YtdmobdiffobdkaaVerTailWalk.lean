/- The law VersionTails, walked. -/
import Derived.Test.YtdmobdiffobdkaaVerCmpWalk
namespace Go.Proofs.Ytdmobdiffobdkaa.Ver
set_option linter.unusedVariables false
set_option linter.unusedSimpArgs false
open Go.RowKit Go.Shelf

theorem dot_list (h a : ByteArray) : (h ++ ⟨#[46]⟩ ++ a).data.toList = h.data.toList ++ 46 :: a.data.toList := by
  simp [ByteArray.data_append]
theorem dot_size (h a : ByteArray) (hh : h.size ≤ 9000) (ha : a.size ≤ 9000) : (h ++ ⟨#[46]⟩ ++ a).size ≤ maxLen := by
  rw [← len_list, dot_list]
  simp only [List.length_append, List.length_cons, len_list]
  unfold maxLen; omega

/-- what the law calls on. -/
structure Tails (X Y a b : ByteArray) : Prop where
  rx : ∀ w, Calls Try.prog 17 #[.string X] w fun e w' => e = .returned (.bool (mayV X.data.toList)) ∧ Below w.heap.size w w'
  ry : ∀ w, Calls Try.prog 17 #[.string Y] w fun e w' => e = .returned (.bool (mayV Y.data.toList)) ∧ Below w.heap.size w w'
  xy : ∀ w, Calls Try.prog 21 #[.string X, .string Y] w fun e w' => e = .returned (.int .i64 (cmpV X.data.toList Y.data.toList)) ∧ Below w.heap.size w w'
  ab : ∀ w, Calls Try.prog 21 #[.string a, .string b] w fun e w' => e = .returned (.int .i64 (cmpV a.data.toList b.data.toList)) ∧ Below w.heap.size w w'

set_option maxHeartbeats 2000000 in
theorem tails_go (h a b : ByteArray) (w : World) (hh : h.size ≤ 9000) (ha : a.size ≤ 9000) (hb : b.size ≤ 9000) (T : Tails (h ++ ⟨#[46]⟩ ++ a) (h ++ ⟨#[46]⟩ ++ b) a b)
    (G : Hid (Calls Try.prog 20 #[.slice (some ⟨w.heap.size, 0, none⟩) 3 3] (w.alloc (.cells #[.string h, .string a, .string b] 9)) fun e w' => e = .returned (.bool false) ∧ w.alloc (.cells #[.string h, .string a, .string b] 9) = w')) :
    Calls Try.prog 7 #[.string h, .string a, .string b] w fun e w' => e = .returned (.bool true) ∧ Below w.heap.size w w' := by
  have hh' : (h.size : Int) ≤ 9000 := by omega
  have ha' : (a.size : Int) ≤ 9000 := by omega
  have hb' : (b.size : Int) ≤ 9000 := by omega
  have H1 : Hid (Below w.heap.size w (w.alloc (.cells #[.string h, .string a, .string b] 9))) := Lib.hid ((Below.refl _ w).alloc (Nat.le_refl _) _)
  have FX := Lib.hid fixed_any
  cases vx : mayV (h ++ ⟨#[46]⟩ ++ a).data.toList with
  | false =>
    have VX := Lib.hid vx
    clear vx
    go_enter Try.func7, Try.ntmps7
    go_wp2_with fail
    go_at_call 20; refine G.out.mono ?_; rintro e w1 ⟨rfl, rfl⟩
    go_wp2_with fail
    go_at_call 17; refine (T.rx _).mono ?_; rintro e w2 ⟨rfl, hb2⟩; rw [VX.out]; have HB2 := Lib.hid hb2; clear hb2
    go_wp2_with fail
    go_at_call 14; refine (FX.out _).mono ?_; rintro e w3 ⟨rfl, hb3⟩; have HB3 := Lib.hid hb3; clear hb3
    go_wp2_with fail
    go_ret
    exact ⟨rfl, bstep (bstep H1.out HB2.out) HB3.out⟩
  | true =>
    cases vy : mayV (h ++ ⟨#[46]⟩ ++ b).data.toList with
    | false =>
      have VX := Lib.hid vx
      have VY := Lib.hid vy
      clear vx vy
      go_enter Try.func7, Try.ntmps7
      go_wp2_with fail
      go_at_call 20; refine G.out.mono ?_; rintro e w1 ⟨rfl, rfl⟩
      go_wp2_with fail
      go_at_call 17; refine (T.rx _).mono ?_; rintro e w2 ⟨rfl, hb2⟩; rw [VX.out]; have HB2 := Lib.hid hb2; clear hb2
      go_wp2_with fail
      go_at_call 17; refine (T.ry _).mono ?_; rintro e w3 ⟨rfl, hb3⟩; rw [VY.out]; have HB3 := Lib.hid hb3; clear hb3
      go_wp2_with fail
      go_at_call 14; refine (FX.out _).mono ?_; rintro e w4 ⟨rfl, hb4⟩; have HB4 := Lib.hid hb4; clear hb4
      go_wp2_with fail
      go_ret
      exact ⟨rfl, bstep (bstep (bstep H1.out HB2.out) HB3.out) HB4.out⟩
    | true =>
      have EQ : Hid (cmpV (h ++ ⟨#[46]⟩ ++ a).data.toList (h ++ ⟨#[46]⟩ ++ b).data.toList = cmpV a.data.toList b.data.toList) := Lib.hid (by
        rw [dot_list, dot_list]
        rw [dot_list] at vx vy
        exact tails_eq vx vy)
      have VX := Lib.hid vx
      have VY := Lib.hid vy
      clear vx vy
      go_enter Try.func7, Try.ntmps7
      go_wp2_with fail
      go_at_call 20; refine G.out.mono ?_; rintro e w1 ⟨rfl, rfl⟩
      go_wp2_with fail
      go_at_call 17; refine (T.rx _).mono ?_; rintro e w2 ⟨rfl, hb2⟩; rw [VX.out]; have HB2 := Lib.hid hb2; clear hb2
      go_wp2_with fail
      go_at_call 17; refine (T.ry _).mono ?_; rintro e w3 ⟨rfl, hb3⟩; rw [VY.out]; have HB3 := Lib.hid hb3; clear hb3
      go_wp2_with fail
      go_at_call 14; refine (FX.out _).mono ?_; rintro e w4 ⟨rfl, hb4⟩; have HB4 := Lib.hid hb4; clear hb4
      go_wp2_with fail
      go_at_call 21; refine (T.xy _).mono ?_; rintro e w5 ⟨rfl, hb5⟩; rw [EQ.out]; have HB5 := Lib.hid hb5; clear hb5
      go_wp2_with fail
      go_at_call 21; refine (T.ab _).mono ?_; rintro e w6 ⟨rfl, hb6⟩; have HB6 := Lib.hid hb6; clear hb6
      go_wp2_with fail
      go_ret
      exact ⟨by simp, bstep (bstep (bstep (bstep (bstep H1.out HB2.out) HB3.out) HB4.out) HB5.out) HB6.out⟩

set_option maxHeartbeats 1000000 in
theorem tails_great (a b c : ByteArray) (w : World)
    (G : Hid (Calls Try.prog 20 #[.slice (some ⟨w.heap.size, 0, none⟩) 3 3] (w.alloc (.cells #[.string a, .string b, .string c] 9)) fun e w' => e = .returned (.bool true) ∧ w.alloc (.cells #[.string a, .string b, .string c] 9) = w')) :
    Calls Try.prog 7 #[.string a, .string b, .string c] w fun e w' => e = .returned (.bool true) ∧ Below w.heap.size w w' := by
  have H1 : Hid (Below w.heap.size w (w.alloc (.cells #[.string a, .string b, .string c] 9))) := Lib.hid ((Below.refl _ w).alloc (Nat.le_refl _) _)
  go_enter Try.func7, Try.ntmps7
  go_wp2_with fail
  go_at_call 20; refine G.out.mono ?_; rintro e w1 ⟨rfl, rfl⟩
  go_wp2_with fail
  go_at_call 14; refine (fixed_any _).mono ?_; rintro e w2 ⟨rfl, hb2⟩; have HB2 := Lib.hid hb2; clear hb2
  go_wp2_with fail
  go_ret
  exact ⟨rfl, bstep H1.out HB2.out⟩

theorem law_tails (h a b : ByteArray) (w : World) (wh : h.size ≤ maxLen) (wa : a.size ≤ maxLen) (wb : b.size ≤ maxLen) :
    Calls Try.prog 7 #[.string h, .string a, .string b] w fun e w' => e = .returned (.bool true) ∧ Below w.heap.size w w' := by
  rcases great_cases w h a b wh wa wb with hg | ⟨hg, h1, h2, h3⟩
  · exact tails_great h a b w (Lib.hid hg)
  · have zx := dot_size h a h1 h2
    have zy := dot_size h b h1 h3
    exact tails_go h a b w h1 h2 h3 ⟨fun w => rmay_any _ w zx, fun w => rmay_any _ w zy, fun w => compare_any _ _ w zx zy, fun w => compare_any _ _ w wa wb⟩ (Lib.hid hg)

end Go.Proofs.Ytdmobdiffobdkaa.Ver
