/- The law VersionAround, walked. -/
import Derived.Test.YtdmobdiffobdkaaVerDec
namespace Go.Proofs.Ytdmobdiffobdkaa.Ver
set_option linter.unusedVariables false
set_option linter.unusedSimpArgs false
open Go.RowKit Go.Shelf

abbrev dot (a b : ByteArray) : ByteArray := a ++ ⟨#[46]⟩ ++ b
abbrev rMay (s : ByteArray) (v : Bool) : Prop := ∀ w, Calls Try.prog 17 #[.string s] w fun e w' => e = .returned (.bool v) ∧ Below w.heap.size w w'
abbrev pCmp (s t : ByteArray) (x : Int) : Prop := ∀ w, Calls Try.prog 21 #[.string s, .string t] w fun e w' => e = .returned (.int .i64 x) ∧ Below w.heap.size w w'
abbrev rDig (s : ByteArray) (v : Bool) : Prop := ∀ w, Calls Try.prog 26 #[.string s] w fun e w' => e = .returned (.bool v) ∧ w = w'

theorem cmp_nil_digits {p : Bs} (h : digitsP p = true) : cmpPart p [] = 1 := by
  simp [cmpPart, orI, cmpN, rank_num h, rank_nil]
theorem cmp_nil_letters {p : Bs} (h : lettersP p = true) : cmpPart p [] = -1 := by
  simp [cmpPart, orI, cmpN, rank_word h, rank_nil]
theorem digits_no (p : Bs) (h : digitsP p = true) : (46 : UInt8) ∉ p := fun hm => by
  simp only [digitsP, Bool.and_eq_true, List.all_eq_true] at h
  have := h.1 46 hm
  simp [dig] at this
/-- a number behind a version stands behind it. -/
theorem high_one {a d : ByteArray} (ha : mayV a.data.toList = true) (hd : digitsP d.data.toList = true) (h : mayV (dot a d).data.toList = true) : cmpV (dot a d).data.toList a.data.toList = 1 := by
  rw [dot_list] at h ⊢
  rw [behind ha h, cut_none 46 _ (digits_no _ hd)]
  exact cmp_nil_digits hd
/-- a word behind a version stands ahead of it, unless its first part is a number. -/
theorem low_one {a c : ByteArray} (ha : mayV a.data.toList = true) (h : mayV (dot a c).data.toList = true) : cmpV (dot a c).data.toList a.data.toList = -1 ∨ (cmpV (dot a c).data.toList a.data.toList = 1 ∧ digitsP ((cutAt 46 c.data.toList).headD []) = true) := by
  rw [dot_list] at h ⊢
  rw [behind ha h]
  obtain ⟨p, ps, e⟩ := cutAt_ne 46 c.data.toList
  have hp : partP p = true := may_all (may_tail h) p (by simp [e])
  rw [e]
  simp only [List.headD_cons]
  simp only [partP, Bool.or_eq_true] at hp
  rcases hp with hp | hp
  · exact .inl (cmp_nil_letters hp)
  · exact .inr ⟨cmp_nil_digits (num_digits hp), num_digits hp⟩

/-- what the law calls on, whatever its tests come to. -/
structure Base (a b c : ByteArray) (m : Nat) (w : World) : Prop where
  a9 : a.size ≤ 9000
  c9 : c.size ≤ 9000
  great : Calls Try.prog 20 #[.slice (some ⟨w.heap.size, 0, none⟩) 3 3] (w.alloc (.cells #[.string a, .string b, .string c] 9)) fun e w' => e = .returned (.bool false) ∧ w.alloc (.cells #[.string a, .string b, .string c] 9) = w'
  dec : ∀ w, Calls Try.prog 25 #[.int .u32 ((m : Int) % 1000000000)] w (DigPost w)
  high : ∀ d : ByteArray, d.size ≤ 9 → rMay (dot a d) (mayV (dot a d).data.toList)
  one : ∀ d : ByteArray, d.size ≤ 9 → mayV a.data.toList = true → digitsP d.data.toList = true → mayV (dot a d).data.toList = true → pCmp (dot a d) a 1

set_option maxHeartbeats 4000000 in
theorem around_Fp (a b c : ByteArray) (m : Nat) (w : World) (hm : m ≤ 4294967295) (T : Base a b c m w) (MA : rMay a false) (x : Int) (hx : 0 ≤ x) (AB : pCmp a b x) :
    Calls Try.prog 6 #[.string a, .string b, .string c, .int .u32 m] w fun e w' => e = .returned (.bool true) ∧ Below w.heap.size w w' := by
  have ha' : (a.size : Int) ≤ 9000 := by have := T.a9; omega
  have hc' : (c.size : Int) ≤ 9000 := by have := T.c9; omega
  have hm' : (m : Int) ≤ 4294967295 := by omega
  have H1 : Hid (Below w.heap.size w (w.alloc (.cells #[.string a, .string b, .string c] 9))) := Lib.hid ((Below.refl _ w).alloc (Nat.le_refl _) _)
  have TT := Lib.hid T
  clear T hm
  go_enter Try.func6, Try.ntmps6
  go_wp2_with fail
  go_at_call 20; refine TT.out.great.mono ?_; rintro e w1 ⟨rfl, rfl⟩
  go_wp2_with fail
  go_at_call 25; refine (TT.out.dec _).mono ?_; rintro e w2 ⟨d, rfl, hd, hd9, hb2⟩; have HD := Lib.hid hd; have HB := Lib.hid (bstep H1.out hb2); clear hb2 hd
  have hd' : (d.size : Int) ≤ 9 := by omega
  have HD9 := Lib.hid hd9
  clear hd9
  go_wp2_with fail
  go_at_call 17; refine (MA _).mono ?_; rintro e wn ⟨rfl, hbn⟩; have HB := Lib.hid (bstep HB.out hbn); clear hbn
  go_wp2_with fail
  go_at_call 17; refine (MA _).mono ?_; rintro e wn ⟨rfl, hbn⟩; have HB := Lib.hid (bstep HB.out hbn); clear hbn
  go_wp2_with fail
  go_at_call 14; refine (fixed_any _).mono ?_; rintro e wn ⟨rfl, hbn⟩; have HB := Lib.hid (bstep HB.out hbn); clear hbn
  go_wp2_with fail
  go_at_call 21; refine (AB _).mono ?_; rintro e wn ⟨rfl, hbn⟩; have HB := Lib.hid (bstep HB.out hbn); clear hbn
  go_wp2_with fail
  go_ret
  exact ⟨rfl, HB.out⟩

set_option maxHeartbeats 4000000 in
theorem around_Fn (a b c : ByteArray) (m : Nat) (w : World) (hm : m ≤ 4294967295) (T : Base a b c m w) (MA : rMay a false) (AB : pCmp a b (-1)) :
    Calls Try.prog 6 #[.string a, .string b, .string c, .int .u32 m] w fun e w' => e = .returned (.bool true) ∧ Below w.heap.size w w' := by
  have ha' : (a.size : Int) ≤ 9000 := by have := T.a9; omega
  have hc' : (c.size : Int) ≤ 9000 := by have := T.c9; omega
  have hm' : (m : Int) ≤ 4294967295 := by omega
  have H1 : Hid (Below w.heap.size w (w.alloc (.cells #[.string a, .string b, .string c] 9))) := Lib.hid ((Below.refl _ w).alloc (Nat.le_refl _) _)
  have TT := Lib.hid T
  clear T hm
  go_enter Try.func6, Try.ntmps6
  go_wp2_with fail
  go_at_call 20; refine TT.out.great.mono ?_; rintro e w1 ⟨rfl, rfl⟩
  go_wp2_with fail
  go_at_call 25; refine (TT.out.dec _).mono ?_; rintro e w2 ⟨d, rfl, hd, hd9, hb2⟩; have HD := Lib.hid hd; have HB := Lib.hid (bstep H1.out hb2); clear hb2 hd
  have hd' : (d.size : Int) ≤ 9 := by omega
  have HD9 := Lib.hid hd9
  clear hd9
  go_wp2_with fail
  go_at_call 17; refine (MA _).mono ?_; rintro e wn ⟨rfl, hbn⟩; have HB := Lib.hid (bstep HB.out hbn); clear hbn
  go_wp2_with fail
  go_at_call 17; refine (MA _).mono ?_; rintro e wn ⟨rfl, hbn⟩; have HB := Lib.hid (bstep HB.out hbn); clear hbn
  go_wp2_with fail
  go_at_call 14; refine (fixed_any _).mono ?_; rintro e wn ⟨rfl, hbn⟩; have HB := Lib.hid (bstep HB.out hbn); clear hbn
  go_wp2_with fail
  go_at_call 21; refine (AB _).mono ?_; rintro e wn ⟨rfl, hbn⟩; have HB := Lib.hid (bstep HB.out hbn); clear hbn
  go_wp2_with fail
  go_at_call 17; refine (MA _).mono ?_; rintro e wn ⟨rfl, hbn⟩; have HB := Lib.hid (bstep HB.out hbn); clear hbn
  go_wp2_with fail
  go_ret
  exact ⟨rfl, HB.out⟩

set_option maxHeartbeats 4000000 in
theorem around_lp (a b c : ByteArray) (m : Nat) (w : World) (hm : m ≤ 4294967295) (T : Base a b c m w) (MA : rMay a true) (VA : Hid (mayV a.data.toList = true)) (ML : rMay (dot a c) false) (x : Int) (hx : 0 ≤ x) (AB : pCmp a b x) :
    Calls Try.prog 6 #[.string a, .string b, .string c, .int .u32 m] w fun e w' => e = .returned (.bool true) ∧ Below w.heap.size w w' := by
  have ha' : (a.size : Int) ≤ 9000 := by have := T.a9; omega
  have hc' : (c.size : Int) ≤ 9000 := by have := T.c9; omega
  have hm' : (m : Int) ≤ 4294967295 := by omega
  have H1 : Hid (Below w.heap.size w (w.alloc (.cells #[.string a, .string b, .string c] 9))) := Lib.hid ((Below.refl _ w).alloc (Nat.le_refl _) _)
  have TT := Lib.hid T
  clear T hm
  go_enter Try.func6, Try.ntmps6
  go_wp2_with fail
  go_at_call 20; refine TT.out.great.mono ?_; rintro e w1 ⟨rfl, rfl⟩
  go_wp2_with fail
  go_at_call 25; refine (TT.out.dec _).mono ?_; rintro e w2 ⟨d, rfl, hd, hd9, hb2⟩; have HD := Lib.hid hd; have HB := Lib.hid (bstep H1.out hb2); clear hb2 hd
  have hd' : (d.size : Int) ≤ 9 := by omega
  have HD9 := Lib.hid hd9
  clear hd9
  go_wp2_with fail
  go_at_call 17; refine (MA _).mono ?_; rintro e wn ⟨rfl, hbn⟩; have HB := Lib.hid (bstep HB.out hbn); clear hbn
  go_wp2_with fail
  go_at_call 17; refine (ML _).mono ?_; rintro e wn ⟨rfl, hbn⟩; have HB := Lib.hid (bstep HB.out hbn); clear hbn
  cases vh : mayV (dot a d).data.toList with
  | false =>
    have MH : rMay (dot a d) false := by have h := TT.out.high d HD9.out; rwa [vh] at h
    clear vh
    go_wp2_with fail
    go_at_call 17; refine (MA _).mono ?_; rintro e wn ⟨rfl, hbn⟩; have HB := Lib.hid (bstep HB.out hbn); clear hbn
    go_wp2_with fail
    go_at_call 17; refine (MH _).mono ?_; rintro e wn ⟨rfl, hbn⟩; have HB := Lib.hid (bstep HB.out hbn); clear hbn
    go_wp2_with fail
    go_at_call 14; refine (fixed_any _).mono ?_; rintro e wn ⟨rfl, hbn⟩; have HB := Lib.hid (bstep HB.out hbn); clear hbn
    go_wp2_with fail
    go_at_call 21; refine (AB _).mono ?_; rintro e wn ⟨rfl, hbn⟩; have HB := Lib.hid (bstep HB.out hbn); clear hbn
    go_wp2_with fail
    go_ret
    exact ⟨rfl, HB.out⟩
  | true =>
    have MH : rMay (dot a d) true := by have h := TT.out.high d HD9.out; rwa [vh] at h
    have CH := TT.out.one d HD9.out VA.out HD.out vh
    clear vh
    go_wp2_with fail
    go_at_call 17; refine (MA _).mono ?_; rintro e wn ⟨rfl, hbn⟩; have HB := Lib.hid (bstep HB.out hbn); clear hbn
    go_wp2_with fail
    go_at_call 17; refine (MH _).mono ?_; rintro e wn ⟨rfl, hbn⟩; have HB := Lib.hid (bstep HB.out hbn); clear hbn
    go_wp2_with fail
    go_at_call 21; refine (CH _).mono ?_; rintro e wn ⟨rfl, hbn⟩; have HB := Lib.hid (bstep HB.out hbn); clear hbn
    go_wp2_with fail
    go_at_call 14; refine (fixed_any _).mono ?_; rintro e wn ⟨rfl, hbn⟩; have HB := Lib.hid (bstep HB.out hbn); clear hbn
    go_wp2_with fail
    go_at_call 21; refine (AB _).mono ?_; rintro e wn ⟨rfl, hbn⟩; have HB := Lib.hid (bstep HB.out hbn); clear hbn
    go_wp2_with fail
    go_ret
    exact ⟨rfl, HB.out⟩

set_option maxHeartbeats 4000000 in
theorem around_ln (a b c : ByteArray) (m : Nat) (w : World) (hm : m ≤ 4294967295) (T : Base a b c m w) (MA : rMay a true) (VA : Hid (mayV a.data.toList = true)) (ML : rMay (dot a c) false) (AB : pCmp a b (-1)) (MB : rMay b true) (BA : pCmp b a 1) :
    Calls Try.prog 6 #[.string a, .string b, .string c, .int .u32 m] w fun e w' => e = .returned (.bool true) ∧ Below w.heap.size w w' := by
  have ha' : (a.size : Int) ≤ 9000 := by have := T.a9; omega
  have hc' : (c.size : Int) ≤ 9000 := by have := T.c9; omega
  have hm' : (m : Int) ≤ 4294967295 := by omega
  have H1 : Hid (Below w.heap.size w (w.alloc (.cells #[.string a, .string b, .string c] 9))) := Lib.hid ((Below.refl _ w).alloc (Nat.le_refl _) _)
  have TT := Lib.hid T
  clear T hm
  go_enter Try.func6, Try.ntmps6
  go_wp2_with fail
  go_at_call 20; refine TT.out.great.mono ?_; rintro e w1 ⟨rfl, rfl⟩
  go_wp2_with fail
  go_at_call 25; refine (TT.out.dec _).mono ?_; rintro e w2 ⟨d, rfl, hd, hd9, hb2⟩; have HD := Lib.hid hd; have HB := Lib.hid (bstep H1.out hb2); clear hb2 hd
  have hd' : (d.size : Int) ≤ 9 := by omega
  have HD9 := Lib.hid hd9
  clear hd9
  go_wp2_with fail
  go_at_call 17; refine (MA _).mono ?_; rintro e wn ⟨rfl, hbn⟩; have HB := Lib.hid (bstep HB.out hbn); clear hbn
  go_wp2_with fail
  go_at_call 17; refine (ML _).mono ?_; rintro e wn ⟨rfl, hbn⟩; have HB := Lib.hid (bstep HB.out hbn); clear hbn
  cases vh : mayV (dot a d).data.toList with
  | false =>
    have MH : rMay (dot a d) false := by have h := TT.out.high d HD9.out; rwa [vh] at h
    clear vh
    go_wp2_with fail
    go_at_call 17; refine (MA _).mono ?_; rintro e wn ⟨rfl, hbn⟩; have HB := Lib.hid (bstep HB.out hbn); clear hbn
    go_wp2_with fail
    go_at_call 17; refine (MH _).mono ?_; rintro e wn ⟨rfl, hbn⟩; have HB := Lib.hid (bstep HB.out hbn); clear hbn
    go_wp2_with fail
    go_at_call 14; refine (fixed_any _).mono ?_; rintro e wn ⟨rfl, hbn⟩; have HB := Lib.hid (bstep HB.out hbn); clear hbn
    go_wp2_with fail
    go_at_call 21; refine (AB _).mono ?_; rintro e wn ⟨rfl, hbn⟩; have HB := Lib.hid (bstep HB.out hbn); clear hbn
    go_wp2_with fail
    go_at_call 17; refine (MA _).mono ?_; rintro e wn ⟨rfl, hbn⟩; have HB := Lib.hid (bstep HB.out hbn); clear hbn
    go_wp2_with fail
    go_at_call 17; refine (MB _).mono ?_; rintro e wn ⟨rfl, hbn⟩; have HB := Lib.hid (bstep HB.out hbn); clear hbn
    go_wp2_with fail
    go_at_call 21; refine (BA _).mono ?_; rintro e wn ⟨rfl, hbn⟩; have HB := Lib.hid (bstep HB.out hbn); clear hbn
    go_wp2_with fail
    go_ret
    exact ⟨rfl, HB.out⟩
  | true =>
    have MH : rMay (dot a d) true := by have h := TT.out.high d HD9.out; rwa [vh] at h
    have CH := TT.out.one d HD9.out VA.out HD.out vh
    clear vh
    go_wp2_with fail
    go_at_call 17; refine (MA _).mono ?_; rintro e wn ⟨rfl, hbn⟩; have HB := Lib.hid (bstep HB.out hbn); clear hbn
    go_wp2_with fail
    go_at_call 17; refine (MH _).mono ?_; rintro e wn ⟨rfl, hbn⟩; have HB := Lib.hid (bstep HB.out hbn); clear hbn
    go_wp2_with fail
    go_at_call 21; refine (CH _).mono ?_; rintro e wn ⟨rfl, hbn⟩; have HB := Lib.hid (bstep HB.out hbn); clear hbn
    go_wp2_with fail
    go_at_call 14; refine (fixed_any _).mono ?_; rintro e wn ⟨rfl, hbn⟩; have HB := Lib.hid (bstep HB.out hbn); clear hbn
    go_wp2_with fail
    go_at_call 21; refine (AB _).mono ?_; rintro e wn ⟨rfl, hbn⟩; have HB := Lib.hid (bstep HB.out hbn); clear hbn
    go_wp2_with fail
    go_at_call 17; refine (MA _).mono ?_; rintro e wn ⟨rfl, hbn⟩; have HB := Lib.hid (bstep HB.out hbn); clear hbn
    go_wp2_with fail
    go_at_call 17; refine (MB _).mono ?_; rintro e wn ⟨rfl, hbn⟩; have HB := Lib.hid (bstep HB.out hbn); clear hbn
    go_wp2_with fail
    go_at_call 21; refine (BA _).mono ?_; rintro e wn ⟨rfl, hbn⟩; have HB := Lib.hid (bstep HB.out hbn); clear hbn
    go_wp2_with fail
    go_ret
    exact ⟨rfl, HB.out⟩

set_option maxHeartbeats 4000000 in
theorem around_dp (a b c : ByteArray) (m : Nat) (w : World) (hm : m ≤ 4294967295) (T : Base a b c m w) (MA : rMay a true) (VA : Hid (mayV a.data.toList = true)) (ML : rMay (dot a c) true) (DG : rDig c true) (x : Int) (hx : 0 ≤ x) (AB : pCmp a b x) :
    Calls Try.prog 6 #[.string a, .string b, .string c, .int .u32 m] w fun e w' => e = .returned (.bool true) ∧ Below w.heap.size w w' := by
  have ha' : (a.size : Int) ≤ 9000 := by have := T.a9; omega
  have hc' : (c.size : Int) ≤ 9000 := by have := T.c9; omega
  have hm' : (m : Int) ≤ 4294967295 := by omega
  have H1 : Hid (Below w.heap.size w (w.alloc (.cells #[.string a, .string b, .string c] 9))) := Lib.hid ((Below.refl _ w).alloc (Nat.le_refl _) _)
  have TT := Lib.hid T
  clear T hm
  go_enter Try.func6, Try.ntmps6
  go_wp2_with fail
  go_at_call 20; refine TT.out.great.mono ?_; rintro e w1 ⟨rfl, rfl⟩
  go_wp2_with fail
  go_at_call 25; refine (TT.out.dec _).mono ?_; rintro e w2 ⟨d, rfl, hd, hd9, hb2⟩; have HD := Lib.hid hd; have HB := Lib.hid (bstep H1.out hb2); clear hb2 hd
  have hd' : (d.size : Int) ≤ 9 := by omega
  have HD9 := Lib.hid hd9
  clear hd9
  go_wp2_with fail
  go_at_call 17; refine (MA _).mono ?_; rintro e wn ⟨rfl, hbn⟩; have HB := Lib.hid (bstep HB.out hbn); clear hbn
  go_wp2_with fail
  go_at_call 17; refine (ML _).mono ?_; rintro e wn ⟨rfl, hbn⟩; have HB := Lib.hid (bstep HB.out hbn); clear hbn
  go_wp2_with fail
  go_at_call 26; refine (DG _).mono ?_; rintro e wn ⟨rfl, rfl⟩
  cases vh : mayV (dot a d).data.toList with
  | false =>
    have MH : rMay (dot a d) false := by have h := TT.out.high d HD9.out; rwa [vh] at h
    clear vh
    go_wp2_with fail
    go_at_call 17; refine (MA _).mono ?_; rintro e wn ⟨rfl, hbn⟩; have HB := Lib.hid (bstep HB.out hbn); clear hbn
    go_wp2_with fail
    go_at_call 17; refine (MH _).mono ?_; rintro e wn ⟨rfl, hbn⟩; have HB := Lib.hid (bstep HB.out hbn); clear hbn
    go_wp2_with fail
    go_at_call 14; refine (fixed_any _).mono ?_; rintro e wn ⟨rfl, hbn⟩; have HB := Lib.hid (bstep HB.out hbn); clear hbn
    go_wp2_with fail
    go_at_call 21; refine (AB _).mono ?_; rintro e wn ⟨rfl, hbn⟩; have HB := Lib.hid (bstep HB.out hbn); clear hbn
    go_wp2_with fail
    go_ret
    exact ⟨rfl, HB.out⟩
  | true =>
    have MH : rMay (dot a d) true := by have h := TT.out.high d HD9.out; rwa [vh] at h
    have CH := TT.out.one d HD9.out VA.out HD.out vh
    clear vh
    go_wp2_with fail
    go_at_call 17; refine (MA _).mono ?_; rintro e wn ⟨rfl, hbn⟩; have HB := Lib.hid (bstep HB.out hbn); clear hbn
    go_wp2_with fail
    go_at_call 17; refine (MH _).mono ?_; rintro e wn ⟨rfl, hbn⟩; have HB := Lib.hid (bstep HB.out hbn); clear hbn
    go_wp2_with fail
    go_at_call 21; refine (CH _).mono ?_; rintro e wn ⟨rfl, hbn⟩; have HB := Lib.hid (bstep HB.out hbn); clear hbn
    go_wp2_with fail
    go_at_call 14; refine (fixed_any _).mono ?_; rintro e wn ⟨rfl, hbn⟩; have HB := Lib.hid (bstep HB.out hbn); clear hbn
    go_wp2_with fail
    go_at_call 21; refine (AB _).mono ?_; rintro e wn ⟨rfl, hbn⟩; have HB := Lib.hid (bstep HB.out hbn); clear hbn
    go_wp2_with fail
    go_ret
    exact ⟨rfl, HB.out⟩

set_option maxHeartbeats 4000000 in
theorem around_dn (a b c : ByteArray) (m : Nat) (w : World) (hm : m ≤ 4294967295) (T : Base a b c m w) (MA : rMay a true) (VA : Hid (mayV a.data.toList = true)) (ML : rMay (dot a c) true) (DG : rDig c true) (AB : pCmp a b (-1)) (MB : rMay b true) (BA : pCmp b a 1) :
    Calls Try.prog 6 #[.string a, .string b, .string c, .int .u32 m] w fun e w' => e = .returned (.bool true) ∧ Below w.heap.size w w' := by
  have ha' : (a.size : Int) ≤ 9000 := by have := T.a9; omega
  have hc' : (c.size : Int) ≤ 9000 := by have := T.c9; omega
  have hm' : (m : Int) ≤ 4294967295 := by omega
  have H1 : Hid (Below w.heap.size w (w.alloc (.cells #[.string a, .string b, .string c] 9))) := Lib.hid ((Below.refl _ w).alloc (Nat.le_refl _) _)
  have TT := Lib.hid T
  clear T hm
  go_enter Try.func6, Try.ntmps6
  go_wp2_with fail
  go_at_call 20; refine TT.out.great.mono ?_; rintro e w1 ⟨rfl, rfl⟩
  go_wp2_with fail
  go_at_call 25; refine (TT.out.dec _).mono ?_; rintro e w2 ⟨d, rfl, hd, hd9, hb2⟩; have HD := Lib.hid hd; have HB := Lib.hid (bstep H1.out hb2); clear hb2 hd
  have hd' : (d.size : Int) ≤ 9 := by omega
  have HD9 := Lib.hid hd9
  clear hd9
  go_wp2_with fail
  go_at_call 17; refine (MA _).mono ?_; rintro e wn ⟨rfl, hbn⟩; have HB := Lib.hid (bstep HB.out hbn); clear hbn
  go_wp2_with fail
  go_at_call 17; refine (ML _).mono ?_; rintro e wn ⟨rfl, hbn⟩; have HB := Lib.hid (bstep HB.out hbn); clear hbn
  go_wp2_with fail
  go_at_call 26; refine (DG _).mono ?_; rintro e wn ⟨rfl, rfl⟩
  cases vh : mayV (dot a d).data.toList with
  | false =>
    have MH : rMay (dot a d) false := by have h := TT.out.high d HD9.out; rwa [vh] at h
    clear vh
    go_wp2_with fail
    go_at_call 17; refine (MA _).mono ?_; rintro e wn ⟨rfl, hbn⟩; have HB := Lib.hid (bstep HB.out hbn); clear hbn
    go_wp2_with fail
    go_at_call 17; refine (MH _).mono ?_; rintro e wn ⟨rfl, hbn⟩; have HB := Lib.hid (bstep HB.out hbn); clear hbn
    go_wp2_with fail
    go_at_call 14; refine (fixed_any _).mono ?_; rintro e wn ⟨rfl, hbn⟩; have HB := Lib.hid (bstep HB.out hbn); clear hbn
    go_wp2_with fail
    go_at_call 21; refine (AB _).mono ?_; rintro e wn ⟨rfl, hbn⟩; have HB := Lib.hid (bstep HB.out hbn); clear hbn
    go_wp2_with fail
    go_at_call 17; refine (MA _).mono ?_; rintro e wn ⟨rfl, hbn⟩; have HB := Lib.hid (bstep HB.out hbn); clear hbn
    go_wp2_with fail
    go_at_call 17; refine (MB _).mono ?_; rintro e wn ⟨rfl, hbn⟩; have HB := Lib.hid (bstep HB.out hbn); clear hbn
    go_wp2_with fail
    go_at_call 21; refine (BA _).mono ?_; rintro e wn ⟨rfl, hbn⟩; have HB := Lib.hid (bstep HB.out hbn); clear hbn
    go_wp2_with fail
    go_ret
    exact ⟨rfl, HB.out⟩
  | true =>
    have MH : rMay (dot a d) true := by have h := TT.out.high d HD9.out; rwa [vh] at h
    have CH := TT.out.one d HD9.out VA.out HD.out vh
    clear vh
    go_wp2_with fail
    go_at_call 17; refine (MA _).mono ?_; rintro e wn ⟨rfl, hbn⟩; have HB := Lib.hid (bstep HB.out hbn); clear hbn
    go_wp2_with fail
    go_at_call 17; refine (MH _).mono ?_; rintro e wn ⟨rfl, hbn⟩; have HB := Lib.hid (bstep HB.out hbn); clear hbn
    go_wp2_with fail
    go_at_call 21; refine (CH _).mono ?_; rintro e wn ⟨rfl, hbn⟩; have HB := Lib.hid (bstep HB.out hbn); clear hbn
    go_wp2_with fail
    go_at_call 14; refine (fixed_any _).mono ?_; rintro e wn ⟨rfl, hbn⟩; have HB := Lib.hid (bstep HB.out hbn); clear hbn
    go_wp2_with fail
    go_at_call 21; refine (AB _).mono ?_; rintro e wn ⟨rfl, hbn⟩; have HB := Lib.hid (bstep HB.out hbn); clear hbn
    go_wp2_with fail
    go_at_call 17; refine (MA _).mono ?_; rintro e wn ⟨rfl, hbn⟩; have HB := Lib.hid (bstep HB.out hbn); clear hbn
    go_wp2_with fail
    go_at_call 17; refine (MB _).mono ?_; rintro e wn ⟨rfl, hbn⟩; have HB := Lib.hid (bstep HB.out hbn); clear hbn
    go_wp2_with fail
    go_at_call 21; refine (BA _).mono ?_; rintro e wn ⟨rfl, hbn⟩; have HB := Lib.hid (bstep HB.out hbn); clear hbn
    go_wp2_with fail
    go_ret
    exact ⟨rfl, HB.out⟩

set_option maxHeartbeats 4000000 in
theorem around_np (a b c : ByteArray) (m : Nat) (w : World) (hm : m ≤ 4294967295) (T : Base a b c m w) (MA : rMay a true) (VA : Hid (mayV a.data.toList = true)) (ML : rMay (dot a c) true) (DG : rDig c false) (CL : pCmp (dot a c) a (-1)) (x : Int) (hx : 0 ≤ x) (AB : pCmp a b x) :
    Calls Try.prog 6 #[.string a, .string b, .string c, .int .u32 m] w fun e w' => e = .returned (.bool true) ∧ Below w.heap.size w w' := by
  have ha' : (a.size : Int) ≤ 9000 := by have := T.a9; omega
  have hc' : (c.size : Int) ≤ 9000 := by have := T.c9; omega
  have hm' : (m : Int) ≤ 4294967295 := by omega
  have H1 : Hid (Below w.heap.size w (w.alloc (.cells #[.string a, .string b, .string c] 9))) := Lib.hid ((Below.refl _ w).alloc (Nat.le_refl _) _)
  have TT := Lib.hid T
  clear T hm
  go_enter Try.func6, Try.ntmps6
  go_wp2_with fail
  go_at_call 20; refine TT.out.great.mono ?_; rintro e w1 ⟨rfl, rfl⟩
  go_wp2_with fail
  go_at_call 25; refine (TT.out.dec _).mono ?_; rintro e w2 ⟨d, rfl, hd, hd9, hb2⟩; have HD := Lib.hid hd; have HB := Lib.hid (bstep H1.out hb2); clear hb2 hd
  have hd' : (d.size : Int) ≤ 9 := by omega
  have HD9 := Lib.hid hd9
  clear hd9
  go_wp2_with fail
  go_at_call 17; refine (MA _).mono ?_; rintro e wn ⟨rfl, hbn⟩; have HB := Lib.hid (bstep HB.out hbn); clear hbn
  go_wp2_with fail
  go_at_call 17; refine (ML _).mono ?_; rintro e wn ⟨rfl, hbn⟩; have HB := Lib.hid (bstep HB.out hbn); clear hbn
  go_wp2_with fail
  go_at_call 26; refine (DG _).mono ?_; rintro e wn ⟨rfl, rfl⟩
  go_wp2_with fail
  go_at_call 21; refine (CL _).mono ?_; rintro e wn ⟨rfl, hbn⟩; have HB := Lib.hid (bstep HB.out hbn); clear hbn
  cases vh : mayV (dot a d).data.toList with
  | false =>
    have MH : rMay (dot a d) false := by have h := TT.out.high d HD9.out; rwa [vh] at h
    clear vh
    go_wp2_with fail
    go_at_call 17; refine (MA _).mono ?_; rintro e wn ⟨rfl, hbn⟩; have HB := Lib.hid (bstep HB.out hbn); clear hbn
    go_wp2_with fail
    go_at_call 17; refine (MH _).mono ?_; rintro e wn ⟨rfl, hbn⟩; have HB := Lib.hid (bstep HB.out hbn); clear hbn
    go_wp2_with fail
    go_at_call 14; refine (fixed_any _).mono ?_; rintro e wn ⟨rfl, hbn⟩; have HB := Lib.hid (bstep HB.out hbn); clear hbn
    go_wp2_with fail
    go_at_call 21; refine (AB _).mono ?_; rintro e wn ⟨rfl, hbn⟩; have HB := Lib.hid (bstep HB.out hbn); clear hbn
    go_wp2_with fail
    go_ret
    exact ⟨rfl, HB.out⟩
  | true =>
    have MH : rMay (dot a d) true := by have h := TT.out.high d HD9.out; rwa [vh] at h
    have CH := TT.out.one d HD9.out VA.out HD.out vh
    clear vh
    go_wp2_with fail
    go_at_call 17; refine (MA _).mono ?_; rintro e wn ⟨rfl, hbn⟩; have HB := Lib.hid (bstep HB.out hbn); clear hbn
    go_wp2_with fail
    go_at_call 17; refine (MH _).mono ?_; rintro e wn ⟨rfl, hbn⟩; have HB := Lib.hid (bstep HB.out hbn); clear hbn
    go_wp2_with fail
    go_at_call 21; refine (CH _).mono ?_; rintro e wn ⟨rfl, hbn⟩; have HB := Lib.hid (bstep HB.out hbn); clear hbn
    go_wp2_with fail
    go_at_call 14; refine (fixed_any _).mono ?_; rintro e wn ⟨rfl, hbn⟩; have HB := Lib.hid (bstep HB.out hbn); clear hbn
    go_wp2_with fail
    go_at_call 21; refine (AB _).mono ?_; rintro e wn ⟨rfl, hbn⟩; have HB := Lib.hid (bstep HB.out hbn); clear hbn
    go_wp2_with fail
    go_ret
    exact ⟨rfl, HB.out⟩

set_option maxHeartbeats 4000000 in
theorem around_nn (a b c : ByteArray) (m : Nat) (w : World) (hm : m ≤ 4294967295) (T : Base a b c m w) (MA : rMay a true) (VA : Hid (mayV a.data.toList = true)) (ML : rMay (dot a c) true) (DG : rDig c false) (CL : pCmp (dot a c) a (-1)) (AB : pCmp a b (-1)) (MB : rMay b true) (BA : pCmp b a 1) :
    Calls Try.prog 6 #[.string a, .string b, .string c, .int .u32 m] w fun e w' => e = .returned (.bool true) ∧ Below w.heap.size w w' := by
  have ha' : (a.size : Int) ≤ 9000 := by have := T.a9; omega
  have hc' : (c.size : Int) ≤ 9000 := by have := T.c9; omega
  have hm' : (m : Int) ≤ 4294967295 := by omega
  have H1 : Hid (Below w.heap.size w (w.alloc (.cells #[.string a, .string b, .string c] 9))) := Lib.hid ((Below.refl _ w).alloc (Nat.le_refl _) _)
  have TT := Lib.hid T
  clear T hm
  go_enter Try.func6, Try.ntmps6
  go_wp2_with fail
  go_at_call 20; refine TT.out.great.mono ?_; rintro e w1 ⟨rfl, rfl⟩
  go_wp2_with fail
  go_at_call 25; refine (TT.out.dec _).mono ?_; rintro e w2 ⟨d, rfl, hd, hd9, hb2⟩; have HD := Lib.hid hd; have HB := Lib.hid (bstep H1.out hb2); clear hb2 hd
  have hd' : (d.size : Int) ≤ 9 := by omega
  have HD9 := Lib.hid hd9
  clear hd9
  go_wp2_with fail
  go_at_call 17; refine (MA _).mono ?_; rintro e wn ⟨rfl, hbn⟩; have HB := Lib.hid (bstep HB.out hbn); clear hbn
  go_wp2_with fail
  go_at_call 17; refine (ML _).mono ?_; rintro e wn ⟨rfl, hbn⟩; have HB := Lib.hid (bstep HB.out hbn); clear hbn
  go_wp2_with fail
  go_at_call 26; refine (DG _).mono ?_; rintro e wn ⟨rfl, rfl⟩
  go_wp2_with fail
  go_at_call 21; refine (CL _).mono ?_; rintro e wn ⟨rfl, hbn⟩; have HB := Lib.hid (bstep HB.out hbn); clear hbn
  cases vh : mayV (dot a d).data.toList with
  | false =>
    have MH : rMay (dot a d) false := by have h := TT.out.high d HD9.out; rwa [vh] at h
    clear vh
    go_wp2_with fail
    go_at_call 17; refine (MA _).mono ?_; rintro e wn ⟨rfl, hbn⟩; have HB := Lib.hid (bstep HB.out hbn); clear hbn
    go_wp2_with fail
    go_at_call 17; refine (MH _).mono ?_; rintro e wn ⟨rfl, hbn⟩; have HB := Lib.hid (bstep HB.out hbn); clear hbn
    go_wp2_with fail
    go_at_call 14; refine (fixed_any _).mono ?_; rintro e wn ⟨rfl, hbn⟩; have HB := Lib.hid (bstep HB.out hbn); clear hbn
    go_wp2_with fail
    go_at_call 21; refine (AB _).mono ?_; rintro e wn ⟨rfl, hbn⟩; have HB := Lib.hid (bstep HB.out hbn); clear hbn
    go_wp2_with fail
    go_at_call 17; refine (MA _).mono ?_; rintro e wn ⟨rfl, hbn⟩; have HB := Lib.hid (bstep HB.out hbn); clear hbn
    go_wp2_with fail
    go_at_call 17; refine (MB _).mono ?_; rintro e wn ⟨rfl, hbn⟩; have HB := Lib.hid (bstep HB.out hbn); clear hbn
    go_wp2_with fail
    go_at_call 21; refine (BA _).mono ?_; rintro e wn ⟨rfl, hbn⟩; have HB := Lib.hid (bstep HB.out hbn); clear hbn
    go_wp2_with fail
    go_ret
    exact ⟨rfl, HB.out⟩
  | true =>
    have MH : rMay (dot a d) true := by have h := TT.out.high d HD9.out; rwa [vh] at h
    have CH := TT.out.one d HD9.out VA.out HD.out vh
    clear vh
    go_wp2_with fail
    go_at_call 17; refine (MA _).mono ?_; rintro e wn ⟨rfl, hbn⟩; have HB := Lib.hid (bstep HB.out hbn); clear hbn
    go_wp2_with fail
    go_at_call 17; refine (MH _).mono ?_; rintro e wn ⟨rfl, hbn⟩; have HB := Lib.hid (bstep HB.out hbn); clear hbn
    go_wp2_with fail
    go_at_call 21; refine (CH _).mono ?_; rintro e wn ⟨rfl, hbn⟩; have HB := Lib.hid (bstep HB.out hbn); clear hbn
    go_wp2_with fail
    go_at_call 14; refine (fixed_any _).mono ?_; rintro e wn ⟨rfl, hbn⟩; have HB := Lib.hid (bstep HB.out hbn); clear hbn
    go_wp2_with fail
    go_at_call 21; refine (AB _).mono ?_; rintro e wn ⟨rfl, hbn⟩; have HB := Lib.hid (bstep HB.out hbn); clear hbn
    go_wp2_with fail
    go_at_call 17; refine (MA _).mono ?_; rintro e wn ⟨rfl, hbn⟩; have HB := Lib.hid (bstep HB.out hbn); clear hbn
    go_wp2_with fail
    go_at_call 17; refine (MB _).mono ?_; rintro e wn ⟨rfl, hbn⟩; have HB := Lib.hid (bstep HB.out hbn); clear hbn
    go_wp2_with fail
    go_at_call 21; refine (BA _).mono ?_; rintro e wn ⟨rfl, hbn⟩; have HB := Lib.hid (bstep HB.out hbn); clear hbn
    go_wp2_with fail
    go_ret
    exact ⟨rfl, HB.out⟩

set_option maxHeartbeats 4000000 in
theorem around_pp (a b c : ByteArray) (m : Nat) (w : World) (hm : m ≤ 4294967295) (T : Base a b c m w) (MA : rMay a true) (VA : Hid (mayV a.data.toList = true)) (ML : rMay (dot a c) true) (DG : rDig c false) (CL : pCmp (dot a c) a 1) (p0 : ByteArray) (CU : ∀ w, Calls Try.prog 19 #[.string c, .int .u8 46] w (CutPost w (cutAt 46 c.data.toList))) (LN : Hid (0 < (cutAt 46 c.data.toList).length)) (G0 : Hid (str ((cutAt 46 c.data.toList).getD 0 []) = .string p0)) (D0 : rDig p0 true) (x : Int) (hx : 0 ≤ x) (AB : pCmp a b x) :
    Calls Try.prog 6 #[.string a, .string b, .string c, .int .u32 m] w fun e w' => e = .returned (.bool true) ∧ Below w.heap.size w w' := by
  have ha' : (a.size : Int) ≤ 9000 := by have := T.a9; omega
  have hc' : (c.size : Int) ≤ 9000 := by have := T.c9; omega
  have hm' : (m : Int) ≤ 4294967295 := by omega
  have H1 : Hid (Below w.heap.size w (w.alloc (.cells #[.string a, .string b, .string c] 9))) := Lib.hid ((Below.refl _ w).alloc (Nat.le_refl _) _)
  have TT := Lib.hid T
  clear T hm
  go_enter Try.func6, Try.ntmps6
  go_wp2_with fail
  go_at_call 20; refine TT.out.great.mono ?_; rintro e w1 ⟨rfl, rfl⟩
  go_wp2_with fail
  go_at_call 25; refine (TT.out.dec _).mono ?_; rintro e w2 ⟨d, rfl, hd, hd9, hb2⟩; have HD := Lib.hid hd; have HB := Lib.hid (bstep H1.out hb2); clear hb2 hd
  have hd' : (d.size : Int) ≤ 9 := by omega
  have HD9 := Lib.hid hd9
  clear hd9
  go_wp2_with fail
  go_at_call 17; refine (MA _).mono ?_; rintro e wn ⟨rfl, hbn⟩; have HB := Lib.hid (bstep HB.out hbn); clear hbn
  go_wp2_with fail
  go_at_call 17; refine (ML _).mono ?_; rintro e wn ⟨rfl, hbn⟩; have HB := Lib.hid (bstep HB.out hbn); clear hbn
  go_wp2_with fail
  go_at_call 26; refine (DG _).mono ?_; rintro e wn ⟨rfl, rfl⟩
  go_wp2_with fail
  go_at_call 21; refine (CL _).mono ?_; rintro e wn ⟨rfl, hbn⟩; have HB := Lib.hid (bstep HB.out hbn); clear hbn
  go_wp2_with fail
  go_at_call 19; refine (CU _).mono ?_; rintro e wn hcp; obtain ⟨A1, c1, rfl, hr, hbn⟩ := hcp.row; obtain ⟨ad, rfl, _, hcell⟩ := hr 0 LN.out; have HB := Lib.hid (bstep HB.out hbn); clear hbn hcp hr
  rw [G0.out] at hcell
  obtain ⟨n, hn⟩ : ∃ n, n = (cutAt 46 c.data.toList).length := ⟨_, rfl⟩
  have LN2 := LN.out
  rw [← hn] at LN2 ⊢
  have hcell0 : wn.cell? ad = some (.string p0) := by simpa [Addr.add] using hcell
  have hn0 : 0 < (n : Int) := by omega
  clear hn hcell
  go_wp2_with fail
  go_at_call 26; refine (D0 _).mono ?_; rintro e wn ⟨rfl, rfl⟩
  cases vh : mayV (dot a d).data.toList with
  | false =>
    have MH : rMay (dot a d) false := by have h := TT.out.high d HD9.out; rwa [vh] at h
    clear vh
    go_wp2_with fail
    go_at_call 17; refine (MA _).mono ?_; rintro e wn ⟨rfl, hbn⟩; have HB := Lib.hid (bstep HB.out hbn); clear hbn
    go_wp2_with fail
    go_at_call 17; refine (MH _).mono ?_; rintro e wn ⟨rfl, hbn⟩; have HB := Lib.hid (bstep HB.out hbn); clear hbn
    go_wp2_with fail
    go_at_call 14; refine (fixed_any _).mono ?_; rintro e wn ⟨rfl, hbn⟩; have HB := Lib.hid (bstep HB.out hbn); clear hbn
    go_wp2_with fail
    go_at_call 21; refine (AB _).mono ?_; rintro e wn ⟨rfl, hbn⟩; have HB := Lib.hid (bstep HB.out hbn); clear hbn
    go_wp2_with fail
    go_ret
    exact ⟨rfl, HB.out⟩
  | true =>
    have MH : rMay (dot a d) true := by have h := TT.out.high d HD9.out; rwa [vh] at h
    have CH := TT.out.one d HD9.out VA.out HD.out vh
    clear vh
    go_wp2_with fail
    go_at_call 17; refine (MA _).mono ?_; rintro e wn ⟨rfl, hbn⟩; have HB := Lib.hid (bstep HB.out hbn); clear hbn
    go_wp2_with fail
    go_at_call 17; refine (MH _).mono ?_; rintro e wn ⟨rfl, hbn⟩; have HB := Lib.hid (bstep HB.out hbn); clear hbn
    go_wp2_with fail
    go_at_call 21; refine (CH _).mono ?_; rintro e wn ⟨rfl, hbn⟩; have HB := Lib.hid (bstep HB.out hbn); clear hbn
    go_wp2_with fail
    go_at_call 14; refine (fixed_any _).mono ?_; rintro e wn ⟨rfl, hbn⟩; have HB := Lib.hid (bstep HB.out hbn); clear hbn
    go_wp2_with fail
    go_at_call 21; refine (AB _).mono ?_; rintro e wn ⟨rfl, hbn⟩; have HB := Lib.hid (bstep HB.out hbn); clear hbn
    go_wp2_with fail
    go_ret
    exact ⟨rfl, HB.out⟩

set_option maxHeartbeats 4000000 in
theorem around_pn (a b c : ByteArray) (m : Nat) (w : World) (hm : m ≤ 4294967295) (T : Base a b c m w) (MA : rMay a true) (VA : Hid (mayV a.data.toList = true)) (ML : rMay (dot a c) true) (DG : rDig c false) (CL : pCmp (dot a c) a 1) (p0 : ByteArray) (CU : ∀ w, Calls Try.prog 19 #[.string c, .int .u8 46] w (CutPost w (cutAt 46 c.data.toList))) (LN : Hid (0 < (cutAt 46 c.data.toList).length)) (G0 : Hid (str ((cutAt 46 c.data.toList).getD 0 []) = .string p0)) (D0 : rDig p0 true) (AB : pCmp a b (-1)) (MB : rMay b true) (BA : pCmp b a 1) :
    Calls Try.prog 6 #[.string a, .string b, .string c, .int .u32 m] w fun e w' => e = .returned (.bool true) ∧ Below w.heap.size w w' := by
  have ha' : (a.size : Int) ≤ 9000 := by have := T.a9; omega
  have hc' : (c.size : Int) ≤ 9000 := by have := T.c9; omega
  have hm' : (m : Int) ≤ 4294967295 := by omega
  have H1 : Hid (Below w.heap.size w (w.alloc (.cells #[.string a, .string b, .string c] 9))) := Lib.hid ((Below.refl _ w).alloc (Nat.le_refl _) _)
  have TT := Lib.hid T
  clear T hm
  go_enter Try.func6, Try.ntmps6
  go_wp2_with fail
  go_at_call 20; refine TT.out.great.mono ?_; rintro e w1 ⟨rfl, rfl⟩
  go_wp2_with fail
  go_at_call 25; refine (TT.out.dec _).mono ?_; rintro e w2 ⟨d, rfl, hd, hd9, hb2⟩; have HD := Lib.hid hd; have HB := Lib.hid (bstep H1.out hb2); clear hb2 hd
  have hd' : (d.size : Int) ≤ 9 := by omega
  have HD9 := Lib.hid hd9
  clear hd9
  go_wp2_with fail
  go_at_call 17; refine (MA _).mono ?_; rintro e wn ⟨rfl, hbn⟩; have HB := Lib.hid (bstep HB.out hbn); clear hbn
  go_wp2_with fail
  go_at_call 17; refine (ML _).mono ?_; rintro e wn ⟨rfl, hbn⟩; have HB := Lib.hid (bstep HB.out hbn); clear hbn
  go_wp2_with fail
  go_at_call 26; refine (DG _).mono ?_; rintro e wn ⟨rfl, rfl⟩
  go_wp2_with fail
  go_at_call 21; refine (CL _).mono ?_; rintro e wn ⟨rfl, hbn⟩; have HB := Lib.hid (bstep HB.out hbn); clear hbn
  go_wp2_with fail
  go_at_call 19; refine (CU _).mono ?_; rintro e wn hcp; obtain ⟨A1, c1, rfl, hr, hbn⟩ := hcp.row; obtain ⟨ad, rfl, _, hcell⟩ := hr 0 LN.out; have HB := Lib.hid (bstep HB.out hbn); clear hbn hcp hr
  rw [G0.out] at hcell
  obtain ⟨n, hn⟩ : ∃ n, n = (cutAt 46 c.data.toList).length := ⟨_, rfl⟩
  have LN2 := LN.out
  rw [← hn] at LN2 ⊢
  have hcell0 : wn.cell? ad = some (.string p0) := by simpa [Addr.add] using hcell
  have hn0 : 0 < (n : Int) := by omega
  clear hn hcell
  go_wp2_with fail
  go_at_call 26; refine (D0 _).mono ?_; rintro e wn ⟨rfl, rfl⟩
  cases vh : mayV (dot a d).data.toList with
  | false =>
    have MH : rMay (dot a d) false := by have h := TT.out.high d HD9.out; rwa [vh] at h
    clear vh
    go_wp2_with fail
    go_at_call 17; refine (MA _).mono ?_; rintro e wn ⟨rfl, hbn⟩; have HB := Lib.hid (bstep HB.out hbn); clear hbn
    go_wp2_with fail
    go_at_call 17; refine (MH _).mono ?_; rintro e wn ⟨rfl, hbn⟩; have HB := Lib.hid (bstep HB.out hbn); clear hbn
    go_wp2_with fail
    go_at_call 14; refine (fixed_any _).mono ?_; rintro e wn ⟨rfl, hbn⟩; have HB := Lib.hid (bstep HB.out hbn); clear hbn
    go_wp2_with fail
    go_at_call 21; refine (AB _).mono ?_; rintro e wn ⟨rfl, hbn⟩; have HB := Lib.hid (bstep HB.out hbn); clear hbn
    go_wp2_with fail
    go_at_call 17; refine (MA _).mono ?_; rintro e wn ⟨rfl, hbn⟩; have HB := Lib.hid (bstep HB.out hbn); clear hbn
    go_wp2_with fail
    go_at_call 17; refine (MB _).mono ?_; rintro e wn ⟨rfl, hbn⟩; have HB := Lib.hid (bstep HB.out hbn); clear hbn
    go_wp2_with fail
    go_at_call 21; refine (BA _).mono ?_; rintro e wn ⟨rfl, hbn⟩; have HB := Lib.hid (bstep HB.out hbn); clear hbn
    go_wp2_with fail
    go_ret
    exact ⟨rfl, HB.out⟩
  | true =>
    have MH : rMay (dot a d) true := by have h := TT.out.high d HD9.out; rwa [vh] at h
    have CH := TT.out.one d HD9.out VA.out HD.out vh
    clear vh
    go_wp2_with fail
    go_at_call 17; refine (MA _).mono ?_; rintro e wn ⟨rfl, hbn⟩; have HB := Lib.hid (bstep HB.out hbn); clear hbn
    go_wp2_with fail
    go_at_call 17; refine (MH _).mono ?_; rintro e wn ⟨rfl, hbn⟩; have HB := Lib.hid (bstep HB.out hbn); clear hbn
    go_wp2_with fail
    go_at_call 21; refine (CH _).mono ?_; rintro e wn ⟨rfl, hbn⟩; have HB := Lib.hid (bstep HB.out hbn); clear hbn
    go_wp2_with fail
    go_at_call 14; refine (fixed_any _).mono ?_; rintro e wn ⟨rfl, hbn⟩; have HB := Lib.hid (bstep HB.out hbn); clear hbn
    go_wp2_with fail
    go_at_call 21; refine (AB _).mono ?_; rintro e wn ⟨rfl, hbn⟩; have HB := Lib.hid (bstep HB.out hbn); clear hbn
    go_wp2_with fail
    go_at_call 17; refine (MA _).mono ?_; rintro e wn ⟨rfl, hbn⟩; have HB := Lib.hid (bstep HB.out hbn); clear hbn
    go_wp2_with fail
    go_at_call 17; refine (MB _).mono ?_; rintro e wn ⟨rfl, hbn⟩; have HB := Lib.hid (bstep HB.out hbn); clear hbn
    go_wp2_with fail
    go_at_call 21; refine (BA _).mono ?_; rintro e wn ⟨rfl, hbn⟩; have HB := Lib.hid (bstep HB.out hbn); clear hbn
    go_wp2_with fail
    go_ret
    exact ⟨rfl, HB.out⟩

end Go.Proofs.Ytdmobdiffobdkaa.Ver
