/- The law VersionCompare, walked. -/
import Derived.Test.YtdmobdiffobdkaaVerLawA
namespace Go.Proofs.Ytdmobdiffobdkaa.Ver
set_option linter.unusedVariables false
set_option linter.unusedSimpArgs false
open Go.RowKit Go.Shelf

theorem row_three (w : World) (a b c : ByteArray) : Row (w.alloc (.cells #[.string a, .string b, .string c] 9)) (w.heap.size + 1) (some ⟨w.heap.size, 0, none⟩) [a.data.toList, b.data.toList, c.data.toList] := fun i hi => by
  have h := heap_alloc_new w (.cells #[.string a, .string b, .string c] 9)
  refine ⟨_, rfl, by simp, ?_⟩
  match i, hi with
  | 0, _ => exact blk_cell (j := 0) h rfl
  | 1, _ => exact blk_cell (j := 1) h rfl
  | 2, _ => exact blk_cell (j := 2) h rfl
theorem three_small {a b c : ByteArray} (h : ∀ i, ([a.data.toList, b.data.toList, c.data.toList].getD i []).length ≤ 9000) : a.size ≤ 9000 ∧ b.size ≤ 9000 ∧ c.size ≤ 9000 := by
  have h0 := h 0
  have h1 := h 1
  have h2 := h 2
  simp only [List.getD_eq_getElem?_getD] at h0 h1 h2
  exact ⟨by simpa using h0, by simpa using h1, by simpa using h2⟩
theorem three_max {a b c : ByteArray} (ha : a.size ≤ maxLen) (hb : b.size ≤ maxLen) (hc : c.size ≤ maxLen) : ∀ i, ([a.data.toList, b.data.toList, c.data.toList].getD i []).length ≤ maxLen := fun i => by
  match i with
  | 0 => simpa using ha
  | 1 => simpa using hb
  | 2 => simpa using hc
  | k + 3 => simp

/-- the calls of the law, one by one: what each comes to. -/
structure Three (a b c : ByteArray) (x y z : Int) : Prop where
  xy : ∀ w, Calls Try.prog 21 #[.string a, .string b] w fun e w' => e = .returned (.int .i64 x) ∧ Below w.heap.size w w'
  yx : ∀ w, Calls Try.prog 21 #[.string b, .string a] w fun e w' => e = .returned (.int .i64 (-x)) ∧ Below w.heap.size w w'
  yz : ∀ w, Calls Try.prog 21 #[.string b, .string c] w fun e w' => e = .returned (.int .i64 y) ∧ Below w.heap.size w w'
  xz : ∀ w, Calls Try.prog 21 #[.string a, .string c] w fun e w' => e = .returned (.int .i64 z) ∧ Below w.heap.size w w'
  rxy : ∀ w, Calls Try.prog 22 #[.string a, .string b] w fun e w' => e = .returned (.int .i64 x) ∧ Below w.heap.size w w'
  ma : ∀ w, Calls Try.prog 17 #[.string a] w fun e w' => e = .returned (.bool (mayV a.data.toList)) ∧ Below w.heap.size w w'
  mb : ∀ w, Calls Try.prog 17 #[.string b] w fun e w' => e = .returned (.bool (mayV b.data.toList)) ∧ Below w.heap.size w w'

/-- the law from its guard on. -/
def LawCmp (a b c : ByteArray) : Prop := ∀ w, Calls Try.prog 4 #[.string a, .string b, .string c] w fun e w' => e = .returned (.bool true) ∧ Below w.heap.size w w'
set_option maxHeartbeats 2000000 in
theorem cmp_nn (a b c : ByteArray) (z : Int) (w : World) (T : Three a b c (-1) (-1) z) (hz : z ≤ 0)
    (G : Hid (Calls Try.prog 20 #[.slice (some ⟨w.heap.size, 0, none⟩) 3 3] (w.alloc (.cells #[.string a, .string b, .string c] 9)) fun e w' => e = .returned (.bool false) ∧ w.alloc (.cells #[.string a, .string b, .string c] 9) = w')) :
    Calls Try.prog 4 #[.string a, .string b, .string c] w fun e w' => e = .returned (.bool true) ∧ Below w.heap.size w w' := by
  have H1 : Hid (Below w.heap.size w (w.alloc (.cells #[.string a, .string b, .string c] 9))) := Lib.hid ((Below.refl _ w).alloc (Nat.le_refl _) _)
  go_enter Try.func4, Try.ntmps4
  go_wp2_with fail
  go_at_call 20; refine G.out.mono ?_; rintro e w1 ⟨rfl, rfl⟩
  go_wp2_with fail
  go_at_call 21; refine (T.xy _).mono ?_; rintro e w2 ⟨rfl, hb2⟩; have HB2 := Lib.hid hb2; clear hb2
  go_wp2_with fail
  go_at_call 21; refine (T.yz _).mono ?_; rintro e w3 ⟨rfl, hb3⟩; have HB3 := Lib.hid hb3; clear hb3
  go_wp2_with fail
  go_at_call 21; refine (T.xz _).mono ?_; rintro e w4 ⟨rfl, hb4⟩; have HB4 := Lib.hid hb4; clear hb4
  go_wp2_with fail
  go_at_call 22; refine (T.rxy _).mono ?_; rintro e w5 ⟨rfl, hb5⟩; have HB5 := Lib.hid hb5; clear hb5
  go_wp2_with fail
  go_at_call 21; refine (T.yx _).mono ?_; rintro e w6 ⟨rfl, hb6⟩; have HB6 := Lib.hid hb6; clear hb6
  go_wp2_with fail
  go_at_call 14; refine (fixed_any _).mono ?_; rintro e w7 ⟨rfl, hb7⟩; have HB7 := Lib.hid hb7; clear hb7
  go_wp2_with fail
  go_ret
  exact ⟨rfl, bstep (bstep (bstep (bstep (bstep (bstep H1.out HB2.out) HB3.out) HB4.out) HB5.out) HB6.out) HB7.out⟩
set_option maxHeartbeats 2000000 in
theorem cmp_nz (a b c : ByteArray) (z : Int) (w : World) (T : Three a b c (-1) 0 z) (hz : z ≤ 0)
    (G : Hid (Calls Try.prog 20 #[.slice (some ⟨w.heap.size, 0, none⟩) 3 3] (w.alloc (.cells #[.string a, .string b, .string c] 9)) fun e w' => e = .returned (.bool false) ∧ w.alloc (.cells #[.string a, .string b, .string c] 9) = w')) :
    Calls Try.prog 4 #[.string a, .string b, .string c] w fun e w' => e = .returned (.bool true) ∧ Below w.heap.size w w' := by
  have H1 : Hid (Below w.heap.size w (w.alloc (.cells #[.string a, .string b, .string c] 9))) := Lib.hid ((Below.refl _ w).alloc (Nat.le_refl _) _)
  go_enter Try.func4, Try.ntmps4
  go_wp2_with fail
  go_at_call 20; refine G.out.mono ?_; rintro e w1 ⟨rfl, rfl⟩
  go_wp2_with fail
  go_at_call 21; refine (T.xy _).mono ?_; rintro e w2 ⟨rfl, hb2⟩; have HB2 := Lib.hid hb2; clear hb2
  go_wp2_with fail
  go_at_call 21; refine (T.yz _).mono ?_; rintro e w3 ⟨rfl, hb3⟩; have HB3 := Lib.hid hb3; clear hb3
  go_wp2_with fail
  go_at_call 21; refine (T.xz _).mono ?_; rintro e w4 ⟨rfl, hb4⟩; have HB4 := Lib.hid hb4; clear hb4
  go_wp2_with fail
  go_at_call 22; refine (T.rxy _).mono ?_; rintro e w5 ⟨rfl, hb5⟩; have HB5 := Lib.hid hb5; clear hb5
  go_wp2_with fail
  go_at_call 21; refine (T.yx _).mono ?_; rintro e w6 ⟨rfl, hb6⟩; have HB6 := Lib.hid hb6; clear hb6
  go_wp2_with fail
  go_at_call 14; refine (fixed_any _).mono ?_; rintro e w7 ⟨rfl, hb7⟩; have HB7 := Lib.hid hb7; clear hb7
  go_wp2_with fail
  go_ret
  exact ⟨rfl, bstep (bstep (bstep (bstep (bstep (bstep H1.out HB2.out) HB3.out) HB4.out) HB5.out) HB6.out) HB7.out⟩
set_option maxHeartbeats 2000000 in
theorem cmp_np (a b c : ByteArray) (z : Int) (w : World) (T : Three a b c (-1) 1 z) 
    (G : Hid (Calls Try.prog 20 #[.slice (some ⟨w.heap.size, 0, none⟩) 3 3] (w.alloc (.cells #[.string a, .string b, .string c] 9)) fun e w' => e = .returned (.bool false) ∧ w.alloc (.cells #[.string a, .string b, .string c] 9) = w')) :
    Calls Try.prog 4 #[.string a, .string b, .string c] w fun e w' => e = .returned (.bool true) ∧ Below w.heap.size w w' := by
  have H1 : Hid (Below w.heap.size w (w.alloc (.cells #[.string a, .string b, .string c] 9))) := Lib.hid ((Below.refl _ w).alloc (Nat.le_refl _) _)
  go_enter Try.func4, Try.ntmps4
  go_wp2_with fail
  go_at_call 20; refine G.out.mono ?_; rintro e w1 ⟨rfl, rfl⟩
  go_wp2_with fail
  go_at_call 21; refine (T.xy _).mono ?_; rintro e w2 ⟨rfl, hb2⟩; have HB2 := Lib.hid hb2; clear hb2
  go_wp2_with fail
  go_at_call 21; refine (T.yz _).mono ?_; rintro e w3 ⟨rfl, hb3⟩; have HB3 := Lib.hid hb3; clear hb3
  go_wp2_with fail
  go_at_call 21; refine (T.xz _).mono ?_; rintro e w4 ⟨rfl, hb4⟩; have HB4 := Lib.hid hb4; clear hb4
  go_wp2_with fail
  go_at_call 22; refine (T.rxy _).mono ?_; rintro e w5 ⟨rfl, hb5⟩; have HB5 := Lib.hid hb5; clear hb5
  go_wp2_with fail
  go_at_call 21; refine (T.yx _).mono ?_; rintro e w6 ⟨rfl, hb6⟩; have HB6 := Lib.hid hb6; clear hb6
  go_wp2_with fail
  go_at_call 14; refine (fixed_any _).mono ?_; rintro e w7 ⟨rfl, hb7⟩; have HB7 := Lib.hid hb7; clear hb7
  go_wp2_with fail
  go_ret
  exact ⟨rfl, bstep (bstep (bstep (bstep (bstep (bstep H1.out HB2.out) HB3.out) HB4.out) HB5.out) HB6.out) HB7.out⟩
set_option maxHeartbeats 2000000 in
theorem cmp_zne (a b c : ByteArray) (z : Int) (w : World) (T : Three a b c 0 (-1) z) (hz : z ≤ 0) (he : (a.toList == b.toList) = true)
    (G : Hid (Calls Try.prog 20 #[.slice (some ⟨w.heap.size, 0, none⟩) 3 3] (w.alloc (.cells #[.string a, .string b, .string c] 9)) fun e w' => e = .returned (.bool false) ∧ w.alloc (.cells #[.string a, .string b, .string c] 9) = w')) :
    Calls Try.prog 4 #[.string a, .string b, .string c] w fun e w' => e = .returned (.bool true) ∧ Below w.heap.size w w' := by
  have H1 : Hid (Below w.heap.size w (w.alloc (.cells #[.string a, .string b, .string c] 9))) := Lib.hid ((Below.refl _ w).alloc (Nat.le_refl _) _)
  go_enter Try.func4, Try.ntmps4
  go_wp2_with fail
  go_at_call 20; refine G.out.mono ?_; rintro e w1 ⟨rfl, rfl⟩
  go_wp2_with fail
  go_at_call 21; refine (T.xy _).mono ?_; rintro e w2 ⟨rfl, hb2⟩; have HB2 := Lib.hid hb2; clear hb2
  go_wp2_with fail
  go_at_call 21; refine (T.yz _).mono ?_; rintro e w3 ⟨rfl, hb3⟩; have HB3 := Lib.hid hb3; clear hb3
  go_wp2_with fail
  go_at_call 21; refine (T.xz _).mono ?_; rintro e w4 ⟨rfl, hb4⟩; have HB4 := Lib.hid hb4; clear hb4
  go_wp2_with fail
  go_at_call 22; refine (T.rxy _).mono ?_; rintro e w5 ⟨rfl, hb5⟩; have HB5 := Lib.hid hb5; clear hb5
  go_wp2_with fail
  go_at_call 21; refine (T.yx _).mono ?_; rintro e w6 ⟨rfl, hb6⟩; have HB6 := Lib.hid hb6; clear hb6
  go_wp2_with fail
  go_at_call 14; refine (fixed_any _).mono ?_; rintro e w7 ⟨rfl, hb7⟩; have HB7 := Lib.hid hb7; clear hb7
  go_wp2_with fail
  go_ret
  exact ⟨rfl, bstep (bstep (bstep (bstep (bstep (bstep H1.out HB2.out) HB3.out) HB4.out) HB5.out) HB6.out) HB7.out⟩
set_option maxHeartbeats 2000000 in
theorem cmp_znm (a b c : ByteArray) (z : Int) (w : World) (T : Three a b c 0 (-1) z) (hz : z ≤ 0) (he : (a.toList == b.toList) = false) (NA : Hid (mayV a.data.toList = false)) (NB : Hid (mayV b.data.toList = false))
    (G : Hid (Calls Try.prog 20 #[.slice (some ⟨w.heap.size, 0, none⟩) 3 3] (w.alloc (.cells #[.string a, .string b, .string c] 9)) fun e w' => e = .returned (.bool false) ∧ w.alloc (.cells #[.string a, .string b, .string c] 9) = w')) :
    Calls Try.prog 4 #[.string a, .string b, .string c] w fun e w' => e = .returned (.bool true) ∧ Below w.heap.size w w' := by
  have H1 : Hid (Below w.heap.size w (w.alloc (.cells #[.string a, .string b, .string c] 9))) := Lib.hid ((Below.refl _ w).alloc (Nat.le_refl _) _)
  go_enter Try.func4, Try.ntmps4
  go_wp2_with fail
  go_at_call 20; refine G.out.mono ?_; rintro e w1 ⟨rfl, rfl⟩
  go_wp2_with fail
  go_at_call 21; refine (T.xy _).mono ?_; rintro e w2 ⟨rfl, hb2⟩; have HB2 := Lib.hid hb2; clear hb2
  go_wp2_with fail
  go_at_call 21; refine (T.yz _).mono ?_; rintro e w3 ⟨rfl, hb3⟩; have HB3 := Lib.hid hb3; clear hb3
  go_wp2_with fail
  go_at_call 21; refine (T.xz _).mono ?_; rintro e w4 ⟨rfl, hb4⟩; have HB4 := Lib.hid hb4; clear hb4
  go_wp2_with fail
  go_at_call 22; refine (T.rxy _).mono ?_; rintro e w5 ⟨rfl, hb5⟩; have HB5 := Lib.hid hb5; clear hb5
  go_wp2_with fail
  go_at_call 21; refine (T.yx _).mono ?_; rintro e w6 ⟨rfl, hb6⟩; have HB6 := Lib.hid hb6; clear hb6
  go_wp2_with fail
  go_at_call 14; refine (fixed_any _).mono ?_; rintro e w7 ⟨rfl, hb7⟩; have HB7 := Lib.hid hb7; clear hb7
  go_wp2_with fail
  go_at_call 17; refine (T.ma _).mono ?_; rintro e w8 ⟨rfl, hb8⟩; rw [NA.out]; have HB8 := Lib.hid hb8; clear hb8
  go_wp2_with fail
  go_at_call 17; refine (T.mb _).mono ?_; rintro e w9 ⟨rfl, hb9⟩; rw [NB.out]; have HB9 := Lib.hid hb9; clear hb9
  go_wp2_with fail
  go_ret
  exact ⟨rfl, bstep (bstep (bstep (bstep (bstep (bstep (bstep (bstep H1.out HB2.out) HB3.out) HB4.out) HB5.out) HB6.out) HB7.out) HB8.out) HB9.out⟩
set_option maxHeartbeats 2000000 in
theorem cmp_zze (a b c : ByteArray) (w : World) (T : Three a b c 0 0 0)  (he : (a.toList == b.toList) = true)
    (G : Hid (Calls Try.prog 20 #[.slice (some ⟨w.heap.size, 0, none⟩) 3 3] (w.alloc (.cells #[.string a, .string b, .string c] 9)) fun e w' => e = .returned (.bool false) ∧ w.alloc (.cells #[.string a, .string b, .string c] 9) = w')) :
    Calls Try.prog 4 #[.string a, .string b, .string c] w fun e w' => e = .returned (.bool true) ∧ Below w.heap.size w w' := by
  have H1 : Hid (Below w.heap.size w (w.alloc (.cells #[.string a, .string b, .string c] 9))) := Lib.hid ((Below.refl _ w).alloc (Nat.le_refl _) _)
  go_enter Try.func4, Try.ntmps4
  go_wp2_with fail
  go_at_call 20; refine G.out.mono ?_; rintro e w1 ⟨rfl, rfl⟩
  go_wp2_with fail
  go_at_call 21; refine (T.xy _).mono ?_; rintro e w2 ⟨rfl, hb2⟩; have HB2 := Lib.hid hb2; clear hb2
  go_wp2_with fail
  go_at_call 21; refine (T.yz _).mono ?_; rintro e w3 ⟨rfl, hb3⟩; have HB3 := Lib.hid hb3; clear hb3
  go_wp2_with fail
  go_at_call 21; refine (T.xz _).mono ?_; rintro e w4 ⟨rfl, hb4⟩; have HB4 := Lib.hid hb4; clear hb4
  go_wp2_with fail
  go_at_call 22; refine (T.rxy _).mono ?_; rintro e w5 ⟨rfl, hb5⟩; have HB5 := Lib.hid hb5; clear hb5
  go_wp2_with fail
  go_at_call 21; refine (T.yx _).mono ?_; rintro e w6 ⟨rfl, hb6⟩; have HB6 := Lib.hid hb6; clear hb6
  go_wp2_with fail
  go_at_call 14; refine (fixed_any _).mono ?_; rintro e w7 ⟨rfl, hb7⟩; have HB7 := Lib.hid hb7; clear hb7
  go_wp2_with fail
  go_ret
  exact ⟨rfl, bstep (bstep (bstep (bstep (bstep (bstep H1.out HB2.out) HB3.out) HB4.out) HB5.out) HB6.out) HB7.out⟩
set_option maxHeartbeats 2000000 in
theorem cmp_zzm (a b c : ByteArray) (w : World) (T : Three a b c 0 0 0)  (he : (a.toList == b.toList) = false) (NA : Hid (mayV a.data.toList = false)) (NB : Hid (mayV b.data.toList = false))
    (G : Hid (Calls Try.prog 20 #[.slice (some ⟨w.heap.size, 0, none⟩) 3 3] (w.alloc (.cells #[.string a, .string b, .string c] 9)) fun e w' => e = .returned (.bool false) ∧ w.alloc (.cells #[.string a, .string b, .string c] 9) = w')) :
    Calls Try.prog 4 #[.string a, .string b, .string c] w fun e w' => e = .returned (.bool true) ∧ Below w.heap.size w w' := by
  have H1 : Hid (Below w.heap.size w (w.alloc (.cells #[.string a, .string b, .string c] 9))) := Lib.hid ((Below.refl _ w).alloc (Nat.le_refl _) _)
  go_enter Try.func4, Try.ntmps4
  go_wp2_with fail
  go_at_call 20; refine G.out.mono ?_; rintro e w1 ⟨rfl, rfl⟩
  go_wp2_with fail
  go_at_call 21; refine (T.xy _).mono ?_; rintro e w2 ⟨rfl, hb2⟩; have HB2 := Lib.hid hb2; clear hb2
  go_wp2_with fail
  go_at_call 21; refine (T.yz _).mono ?_; rintro e w3 ⟨rfl, hb3⟩; have HB3 := Lib.hid hb3; clear hb3
  go_wp2_with fail
  go_at_call 21; refine (T.xz _).mono ?_; rintro e w4 ⟨rfl, hb4⟩; have HB4 := Lib.hid hb4; clear hb4
  go_wp2_with fail
  go_at_call 22; refine (T.rxy _).mono ?_; rintro e w5 ⟨rfl, hb5⟩; have HB5 := Lib.hid hb5; clear hb5
  go_wp2_with fail
  go_at_call 21; refine (T.yx _).mono ?_; rintro e w6 ⟨rfl, hb6⟩; have HB6 := Lib.hid hb6; clear hb6
  go_wp2_with fail
  go_at_call 14; refine (fixed_any _).mono ?_; rintro e w7 ⟨rfl, hb7⟩; have HB7 := Lib.hid hb7; clear hb7
  go_wp2_with fail
  go_at_call 17; refine (T.ma _).mono ?_; rintro e w8 ⟨rfl, hb8⟩; rw [NA.out]; have HB8 := Lib.hid hb8; clear hb8
  go_wp2_with fail
  go_at_call 17; refine (T.mb _).mono ?_; rintro e w9 ⟨rfl, hb9⟩; rw [NB.out]; have HB9 := Lib.hid hb9; clear hb9
  go_wp2_with fail
  go_ret
  exact ⟨rfl, bstep (bstep (bstep (bstep (bstep (bstep (bstep (bstep H1.out HB2.out) HB3.out) HB4.out) HB5.out) HB6.out) HB7.out) HB8.out) HB9.out⟩
set_option maxHeartbeats 2000000 in
theorem cmp_zpe (a b c : ByteArray) (z : Int) (w : World) (T : Three a b c 0 1 z)  (he : (a.toList == b.toList) = true)
    (G : Hid (Calls Try.prog 20 #[.slice (some ⟨w.heap.size, 0, none⟩) 3 3] (w.alloc (.cells #[.string a, .string b, .string c] 9)) fun e w' => e = .returned (.bool false) ∧ w.alloc (.cells #[.string a, .string b, .string c] 9) = w')) :
    Calls Try.prog 4 #[.string a, .string b, .string c] w fun e w' => e = .returned (.bool true) ∧ Below w.heap.size w w' := by
  have H1 : Hid (Below w.heap.size w (w.alloc (.cells #[.string a, .string b, .string c] 9))) := Lib.hid ((Below.refl _ w).alloc (Nat.le_refl _) _)
  go_enter Try.func4, Try.ntmps4
  go_wp2_with fail
  go_at_call 20; refine G.out.mono ?_; rintro e w1 ⟨rfl, rfl⟩
  go_wp2_with fail
  go_at_call 21; refine (T.xy _).mono ?_; rintro e w2 ⟨rfl, hb2⟩; have HB2 := Lib.hid hb2; clear hb2
  go_wp2_with fail
  go_at_call 21; refine (T.yz _).mono ?_; rintro e w3 ⟨rfl, hb3⟩; have HB3 := Lib.hid hb3; clear hb3
  go_wp2_with fail
  go_at_call 21; refine (T.xz _).mono ?_; rintro e w4 ⟨rfl, hb4⟩; have HB4 := Lib.hid hb4; clear hb4
  go_wp2_with fail
  go_at_call 22; refine (T.rxy _).mono ?_; rintro e w5 ⟨rfl, hb5⟩; have HB5 := Lib.hid hb5; clear hb5
  go_wp2_with fail
  go_at_call 21; refine (T.yx _).mono ?_; rintro e w6 ⟨rfl, hb6⟩; have HB6 := Lib.hid hb6; clear hb6
  go_wp2_with fail
  go_at_call 14; refine (fixed_any _).mono ?_; rintro e w7 ⟨rfl, hb7⟩; have HB7 := Lib.hid hb7; clear hb7
  go_wp2_with fail
  go_ret
  exact ⟨rfl, bstep (bstep (bstep (bstep (bstep (bstep H1.out HB2.out) HB3.out) HB4.out) HB5.out) HB6.out) HB7.out⟩
set_option maxHeartbeats 2000000 in
theorem cmp_zpm (a b c : ByteArray) (z : Int) (w : World) (T : Three a b c 0 1 z)  (he : (a.toList == b.toList) = false) (NA : Hid (mayV a.data.toList = false)) (NB : Hid (mayV b.data.toList = false))
    (G : Hid (Calls Try.prog 20 #[.slice (some ⟨w.heap.size, 0, none⟩) 3 3] (w.alloc (.cells #[.string a, .string b, .string c] 9)) fun e w' => e = .returned (.bool false) ∧ w.alloc (.cells #[.string a, .string b, .string c] 9) = w')) :
    Calls Try.prog 4 #[.string a, .string b, .string c] w fun e w' => e = .returned (.bool true) ∧ Below w.heap.size w w' := by
  have H1 : Hid (Below w.heap.size w (w.alloc (.cells #[.string a, .string b, .string c] 9))) := Lib.hid ((Below.refl _ w).alloc (Nat.le_refl _) _)
  go_enter Try.func4, Try.ntmps4
  go_wp2_with fail
  go_at_call 20; refine G.out.mono ?_; rintro e w1 ⟨rfl, rfl⟩
  go_wp2_with fail
  go_at_call 21; refine (T.xy _).mono ?_; rintro e w2 ⟨rfl, hb2⟩; have HB2 := Lib.hid hb2; clear hb2
  go_wp2_with fail
  go_at_call 21; refine (T.yz _).mono ?_; rintro e w3 ⟨rfl, hb3⟩; have HB3 := Lib.hid hb3; clear hb3
  go_wp2_with fail
  go_at_call 21; refine (T.xz _).mono ?_; rintro e w4 ⟨rfl, hb4⟩; have HB4 := Lib.hid hb4; clear hb4
  go_wp2_with fail
  go_at_call 22; refine (T.rxy _).mono ?_; rintro e w5 ⟨rfl, hb5⟩; have HB5 := Lib.hid hb5; clear hb5
  go_wp2_with fail
  go_at_call 21; refine (T.yx _).mono ?_; rintro e w6 ⟨rfl, hb6⟩; have HB6 := Lib.hid hb6; clear hb6
  go_wp2_with fail
  go_at_call 14; refine (fixed_any _).mono ?_; rintro e w7 ⟨rfl, hb7⟩; have HB7 := Lib.hid hb7; clear hb7
  go_wp2_with fail
  go_at_call 17; refine (T.ma _).mono ?_; rintro e w8 ⟨rfl, hb8⟩; rw [NA.out]; have HB8 := Lib.hid hb8; clear hb8
  go_wp2_with fail
  go_at_call 17; refine (T.mb _).mono ?_; rintro e w9 ⟨rfl, hb9⟩; rw [NB.out]; have HB9 := Lib.hid hb9; clear hb9
  go_wp2_with fail
  go_ret
  exact ⟨rfl, bstep (bstep (bstep (bstep (bstep (bstep (bstep (bstep H1.out HB2.out) HB3.out) HB4.out) HB5.out) HB6.out) HB7.out) HB8.out) HB9.out⟩
set_option maxHeartbeats 2000000 in
theorem cmp_pn (a b c : ByteArray) (z : Int) (w : World) (T : Three a b c 1 (-1) z) 
    (G : Hid (Calls Try.prog 20 #[.slice (some ⟨w.heap.size, 0, none⟩) 3 3] (w.alloc (.cells #[.string a, .string b, .string c] 9)) fun e w' => e = .returned (.bool false) ∧ w.alloc (.cells #[.string a, .string b, .string c] 9) = w')) :
    Calls Try.prog 4 #[.string a, .string b, .string c] w fun e w' => e = .returned (.bool true) ∧ Below w.heap.size w w' := by
  have H1 : Hid (Below w.heap.size w (w.alloc (.cells #[.string a, .string b, .string c] 9))) := Lib.hid ((Below.refl _ w).alloc (Nat.le_refl _) _)
  go_enter Try.func4, Try.ntmps4
  go_wp2_with fail
  go_at_call 20; refine G.out.mono ?_; rintro e w1 ⟨rfl, rfl⟩
  go_wp2_with fail
  go_at_call 21; refine (T.xy _).mono ?_; rintro e w2 ⟨rfl, hb2⟩; have HB2 := Lib.hid hb2; clear hb2
  go_wp2_with fail
  go_at_call 21; refine (T.yz _).mono ?_; rintro e w3 ⟨rfl, hb3⟩; have HB3 := Lib.hid hb3; clear hb3
  go_wp2_with fail
  go_at_call 21; refine (T.xz _).mono ?_; rintro e w4 ⟨rfl, hb4⟩; have HB4 := Lib.hid hb4; clear hb4
  go_wp2_with fail
  go_at_call 22; refine (T.rxy _).mono ?_; rintro e w5 ⟨rfl, hb5⟩; have HB5 := Lib.hid hb5; clear hb5
  go_wp2_with fail
  go_at_call 21; refine (T.yx _).mono ?_; rintro e w6 ⟨rfl, hb6⟩; have HB6 := Lib.hid hb6; clear hb6
  go_wp2_with fail
  go_at_call 14; refine (fixed_any _).mono ?_; rintro e w7 ⟨rfl, hb7⟩; have HB7 := Lib.hid hb7; clear hb7
  go_wp2_with fail
  go_ret
  exact ⟨rfl, bstep (bstep (bstep (bstep (bstep (bstep H1.out HB2.out) HB3.out) HB4.out) HB5.out) HB6.out) HB7.out⟩
set_option maxHeartbeats 2000000 in
theorem cmp_pz (a b c : ByteArray) (z : Int) (w : World) (T : Three a b c 1 0 z) 
    (G : Hid (Calls Try.prog 20 #[.slice (some ⟨w.heap.size, 0, none⟩) 3 3] (w.alloc (.cells #[.string a, .string b, .string c] 9)) fun e w' => e = .returned (.bool false) ∧ w.alloc (.cells #[.string a, .string b, .string c] 9) = w')) :
    Calls Try.prog 4 #[.string a, .string b, .string c] w fun e w' => e = .returned (.bool true) ∧ Below w.heap.size w w' := by
  have H1 : Hid (Below w.heap.size w (w.alloc (.cells #[.string a, .string b, .string c] 9))) := Lib.hid ((Below.refl _ w).alloc (Nat.le_refl _) _)
  go_enter Try.func4, Try.ntmps4
  go_wp2_with fail
  go_at_call 20; refine G.out.mono ?_; rintro e w1 ⟨rfl, rfl⟩
  go_wp2_with fail
  go_at_call 21; refine (T.xy _).mono ?_; rintro e w2 ⟨rfl, hb2⟩; have HB2 := Lib.hid hb2; clear hb2
  go_wp2_with fail
  go_at_call 21; refine (T.yz _).mono ?_; rintro e w3 ⟨rfl, hb3⟩; have HB3 := Lib.hid hb3; clear hb3
  go_wp2_with fail
  go_at_call 21; refine (T.xz _).mono ?_; rintro e w4 ⟨rfl, hb4⟩; have HB4 := Lib.hid hb4; clear hb4
  go_wp2_with fail
  go_at_call 22; refine (T.rxy _).mono ?_; rintro e w5 ⟨rfl, hb5⟩; have HB5 := Lib.hid hb5; clear hb5
  go_wp2_with fail
  go_at_call 21; refine (T.yx _).mono ?_; rintro e w6 ⟨rfl, hb6⟩; have HB6 := Lib.hid hb6; clear hb6
  go_wp2_with fail
  go_at_call 14; refine (fixed_any _).mono ?_; rintro e w7 ⟨rfl, hb7⟩; have HB7 := Lib.hid hb7; clear hb7
  go_wp2_with fail
  go_ret
  exact ⟨rfl, bstep (bstep (bstep (bstep (bstep (bstep H1.out HB2.out) HB3.out) HB4.out) HB5.out) HB6.out) HB7.out⟩
set_option maxHeartbeats 2000000 in
theorem cmp_pp (a b c : ByteArray) (z : Int) (w : World) (T : Three a b c 1 1 z) 
    (G : Hid (Calls Try.prog 20 #[.slice (some ⟨w.heap.size, 0, none⟩) 3 3] (w.alloc (.cells #[.string a, .string b, .string c] 9)) fun e w' => e = .returned (.bool false) ∧ w.alloc (.cells #[.string a, .string b, .string c] 9) = w')) :
    Calls Try.prog 4 #[.string a, .string b, .string c] w fun e w' => e = .returned (.bool true) ∧ Below w.heap.size w w' := by
  have H1 : Hid (Below w.heap.size w (w.alloc (.cells #[.string a, .string b, .string c] 9))) := Lib.hid ((Below.refl _ w).alloc (Nat.le_refl _) _)
  go_enter Try.func4, Try.ntmps4
  go_wp2_with fail
  go_at_call 20; refine G.out.mono ?_; rintro e w1 ⟨rfl, rfl⟩
  go_wp2_with fail
  go_at_call 21; refine (T.xy _).mono ?_; rintro e w2 ⟨rfl, hb2⟩; have HB2 := Lib.hid hb2; clear hb2
  go_wp2_with fail
  go_at_call 21; refine (T.yz _).mono ?_; rintro e w3 ⟨rfl, hb3⟩; have HB3 := Lib.hid hb3; clear hb3
  go_wp2_with fail
  go_at_call 21; refine (T.xz _).mono ?_; rintro e w4 ⟨rfl, hb4⟩; have HB4 := Lib.hid hb4; clear hb4
  go_wp2_with fail
  go_at_call 22; refine (T.rxy _).mono ?_; rintro e w5 ⟨rfl, hb5⟩; have HB5 := Lib.hid hb5; clear hb5
  go_wp2_with fail
  go_at_call 21; refine (T.yx _).mono ?_; rintro e w6 ⟨rfl, hb6⟩; have HB6 := Lib.hid hb6; clear hb6
  go_wp2_with fail
  go_at_call 14; refine (fixed_any _).mono ?_; rintro e w7 ⟨rfl, hb7⟩; have HB7 := Lib.hid hb7; clear hb7
  go_wp2_with fail
  go_ret
  exact ⟨rfl, bstep (bstep (bstep (bstep (bstep (bstep H1.out HB2.out) HB3.out) HB4.out) HB5.out) HB6.out) HB7.out⟩

set_option maxHeartbeats 1000000 in
theorem cmp_great (a b c : ByteArray) (w : World)
    (G : Hid (Calls Try.prog 20 #[.slice (some ⟨w.heap.size, 0, none⟩) 3 3] (w.alloc (.cells #[.string a, .string b, .string c] 9)) fun e w' => e = .returned (.bool true) ∧ w.alloc (.cells #[.string a, .string b, .string c] 9) = w')) :
    Calls Try.prog 4 #[.string a, .string b, .string c] w fun e w' => e = .returned (.bool true) ∧ Below w.heap.size w w' := by
  have H1 : Hid (Below w.heap.size w (w.alloc (.cells #[.string a, .string b, .string c] 9))) := Lib.hid ((Below.refl _ w).alloc (Nat.le_refl _) _)
  go_enter Try.func4, Try.ntmps4
  go_wp2_with fail
  go_at_call 20; refine G.out.mono ?_; rintro e w1 ⟨rfl, rfl⟩
  go_wp2_with fail
  go_at_call 14; refine (fixed_any _).mono ?_; rintro e w2 ⟨rfl, hb2⟩; have HB2 := Lib.hid hb2; clear hb2
  go_wp2_with fail
  go_ret
  exact ⟨rfl, bstep H1.out HB2.out⟩

/-- a call that answers some bool answers one of the two. -/
theorem great_cases (w : World) (a b c : ByteArray) (ha : a.size ≤ maxLen) (hb : b.size ≤ maxLen) (hc : c.size ≤ maxLen) :
    (Calls Try.prog 20 #[.slice (some ⟨w.heap.size, 0, none⟩) 3 3] (w.alloc (.cells #[.string a, .string b, .string c] 9)) fun e w' => e = .returned (.bool true) ∧ w.alloc (.cells #[.string a, .string b, .string c] 9) = w') ∨
    ((Calls Try.prog 20 #[.slice (some ⟨w.heap.size, 0, none⟩) 3 3] (w.alloc (.cells #[.string a, .string b, .string c] 9)) fun e w' => e = .returned (.bool false) ∧ w.alloc (.cells #[.string a, .string b, .string c] 9) = w') ∧ a.size ≤ 9000 ∧ b.size ≤ 9000 ∧ c.size ≤ 9000) := by
  have h := great_any (w.alloc (.cells #[.string a, .string b, .string c] 9)) (row_three w a b c) 3 3 rfl (by decide) (three_max ha hb hc)
  cases hg : greatB [a.data.toList, b.data.toList, c.data.toList] with
  | true => rw [hg] at h; exact .inl h
  | false => rw [hg] at h; exact .inr ⟨h, three_small (small_of _ hg).2⟩

theorem law_cmp (a b c : ByteArray) (w : World) (ha : a.size ≤ maxLen) (hb : b.size ≤ maxLen) (hc : c.size ≤ maxLen) :
    Calls Try.prog 4 #[.string a, .string b, .string c] w fun e w' => e = .returned (.bool true) ∧ Below w.heap.size w w' := by
  rcases great_cases w a b c ha hb hc with hg | ⟨hg, _⟩
  · exact cmp_great a b c w (Lib.hid hg)
  · have T : Three a b c (cmpV a.data.toList b.data.toList) (cmpV b.data.toList c.data.toList) (cmpV a.data.toList c.data.toList) :=
      ⟨fun w => compare_any a b w ha hb, fun w => by rw [← ord_v.anti]; exact compare_any b a w hb ha, fun w => compare_any b c w hb hc, fun w => compare_any a c w ha hc, fun w => rcompare_any a b w ha hb, fun w => rmay_any a w ha, fun w => rmay_any b w hb⟩
    have rx := ord_v.rng a.data.toList b.data.toList
    have ry := ord_v.rng b.data.toList c.data.toList
    have tr := ord_v.tr a.data.toList b.data.toList c.data.toList
    have tz : cmpV a.data.toList b.data.toList = 0 → cmpV b.data.toList c.data.toList = 0 → cmpV a.data.toList c.data.toList = 0 := fun h1 h2 => by
      have h3 := tr (by omega) (by omega)
      have h4 := ord_v.tr c.data.toList b.data.toList a.data.toList (by rw [ord_v.anti]; omega) (by rw [ord_v.anti]; omega)
      rw [ord_v.anti] at h4
      omega
    have vz := @v_zero a.data.toList b.data.toList
    have HG := Lib.hid hg
    generalize cmpV a.data.toList b.data.toList = x at T rx tr tz vz
    generalize cmpV b.data.toList c.data.toList = y at T ry tr tz
    generalize cmpV a.data.toList c.data.toList = z at T tr tz
    have eqs : x = 0 → (a.toList == b.toList) = true ∨ ((a.toList == b.toList) = false ∧ mayV a.data.toList = false ∧ mayV b.data.toList = false) := fun h => by
      cases he : (a.toList == b.toList) with
      | true => exact .inl rfl
      | false =>
        right
        have hne : ¬ a.data.toList = b.data.toList := fun e => by
          rw [Lib.toList_data, Lib.toList_data, e] at he
          simp at he
        refine ⟨rfl, ?_, ?_⟩
        · cases hv : mayV a.data.toList with
          | false => rfl
          | true => exact absurd (vz h (.inl hv)) hne
        · cases hv : mayV b.data.toList with
          | false => rfl
          | true => exact absurd (vz h (.inr hv)) hne
    rcases rx with rfl | rfl | rfl <;> rcases ry with rfl | rfl | rfl
    · exact cmp_nn a b c z w T (tr (by omega) (by omega)) HG
    · exact cmp_nz a b c z w T (tr (by omega) (by omega)) HG
    · exact cmp_np a b c z w T HG
    · rcases eqs rfl with h | ⟨h, h1, h2⟩
      · exact cmp_zne a b c z w T (tr (by omega) (by omega)) h HG
      · exact cmp_znm a b c z w T (tr (by omega) (by omega)) h (Lib.hid h1) (Lib.hid h2) HG
    · obtain rfl := tz rfl rfl
      rcases eqs rfl with h | ⟨h, h1, h2⟩
      · exact cmp_zze a b c w T h HG
      · exact cmp_zzm a b c w T h (Lib.hid h1) (Lib.hid h2) HG
    · rcases eqs rfl with h | ⟨h, h1, h2⟩
      · exact cmp_zpe a b c z w T h HG
      · exact cmp_zpm a b c z w T h (Lib.hid h1) (Lib.hid h2) HG
    · exact cmp_pn a b c z w T HG
    · exact cmp_pz a b c z w T HG
    · exact cmp_pp a b c z w T HG

end Go.Proofs.Ytdmobdiffobdkaa.Ver
