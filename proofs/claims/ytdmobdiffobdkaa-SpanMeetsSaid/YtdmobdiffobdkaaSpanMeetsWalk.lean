/- The law SpanMeets, walked. -/
import Derived.Test.YtdmobdiffobdkaaSpanI
namespace Go.Proofs.Ytdmobdiffobdkaa.Ver
set_option linter.unusedVariables false
open Go.RowKit Go.Shelf

theorem upLoA_list (a b : ByteArray) : (upLoA a b).data.toList = upLo a.data.toList b.data.toList := by unfold upLoA upLo; split <;> rfl
theorem downHiA_list (a b : ByteArray) : (downHiA a b).data.toList = downHi a.data.toList b.data.toList := by unfold downHiA downHi; split <;> rfl
theorem meetC_list (a a' b b' : ByteArray) : meetC a a' b b' = meetB a.data.toList a'.data.toList b.data.toList b'.data.toList := by unfold meetC meetB; rw [upLoA_list, downHiA_list]
/-- what Meet comes to, and which versions are in it. -/
theorem meet_what (a a' b b' v : ByteArray) (za : a.size ≤ maxLen) (za' : a'.size ≤ maxLen) (zb : b.size ≤ maxLen) (zb' : b'.size ≤ maxLen) : ∃ x y : ByteArray, meetA a a' b b' = rd x y (meetC a a' b b') ∧ x.size ≤ maxLen ∧ y.size ≤ maxLen ∧
    (meetC a a' b b' && hasB x.data.toList y.data.toList v.data.toList) = (hasB a.data.toList a'.data.toList v.data.toList && hasB b.data.toList b'.data.toList v.data.toList) := by
  have mh := meet_has a.data.toList a'.data.toList b.data.toList b'.data.toList v.data.toList
  rw [← meetC_list] at mh
  cases hc : meetC a a' b b' with
  | true =>
    refine ⟨upLoA a b, downHiA a' b', by rw [meetA, hc]; rfl, by unfold upLoA; split <;> assumption, by unfold downHiA; split <;> assumption, ?_⟩
    rw [hc] at mh
    rw [← mh, upLoA_list, downHiA_list]
    have : meetS a.data.toList a'.data.toList b.data.toList b'.data.toList = (upLo a.data.toList b.data.toList, downHi a'.data.toList b'.data.toList) := by
      rw [meetS, ← meetC_list, hc]; rfl
    rw [this]
  | false =>
    refine ⟨⟨#[]⟩, ⟨#[]⟩, by rw [meetA, hc]; rfl, by decide, by decide, ?_⟩
    rw [hc] at mh
    rw [← mh]; rfl

/-- a great span: the chapter's example alone. -/
theorem sgreat_no (lo hi : ByteArray) (h1 : lo.size ≤ 3000) (h2 : hi.size ≤ 3000) : Says 27 #[spv lo hi] (.bool false) := by
  have h := sgreat_any lo hi (by unfold maxLen; omega) (by unfold maxLen; omega)
  rwa [decide_eq_false (by omega), decide_eq_false (by omega)] at h

set_option maxHeartbeats 2000000 in
theorem meets_ttt (a a' b b' v x y : ByteArray) (w : World) (z3 : v.size ≤ 3000)
    (GA : Says 27 #[spv a a'] (.bool false)) (GB : Says 27 #[spv b b'] (.bool false))
    (ME : Says 37 #[spv a a', spv b b'] (rd x y true)) (RM : Says 38 #[spv a a', spv b b'] (rd x y true)) (JO : Says 39 #[spv a a', spv b b'] (.bool true))
    (HA : Says 32 #[spv a a', .string v] (.bool true)) (HB : Says 32 #[spv b b', .string v] (.bool true)) (HX : Says 31 #[spv x y, .string v] (.bool true)) :
    Calls Try.prog 11 #[spv a a', spv b b', .string v] w fun e w' => e = .returned (.bool true) ∧ Below w.heap.size w w' := by
  have z3' : (v.size : Int) ≤ 3000 := by omega
  have J := Lib.hid (TB.start w a a' b b')
  have GA := Lib.hid GA; have GB := Lib.hid GB; have ME := Lib.hid ME; have RM := Lib.hid RM; have JO := Lib.hid JO; have HA := Lib.hid HA; have HB := Lib.hid HB; have HX := Lib.hid HX; have FX := Lib.hid sfixed_any
  go_enter Try.func11, Try.ntmps11
  go_wp2_with fail
  go_at_call 27; refine (GA.out _).mono ?_; rintro e wn ⟨rfl, hb⟩; have J := Lib.hid (J.out.step hb); clear hb; obtain ⟨a0, a1, b0, b1⟩ := J.out.cells
  go_wp2_with fail
  go_at_call 27; refine (GB.out _).mono ?_; rintro e wn ⟨rfl, hb⟩; have J := Lib.hid (J.out.step hb); clear hb; obtain ⟨a0, a1, b0, b1⟩ := J.out.cells
  go_wp2_with fail
  go_at_call 37; refine (ME.out _).mono ?_; rintro e wn ⟨rfl, hb⟩; have J := Lib.hid (J.out.step hb); clear hb; obtain ⟨a0, a1, b0, b1⟩ := J.out.cells
  have S := Lib.hid (Bx.new wn x y)
  have J := Lib.hid (TB.step J.out (Below.alloc (Below.refl _ wn) (Nat.le_refl _) (.cells #[.string x, .string y] 37)))
  obtain ⟨a0, a1, b0, b1⟩ := J.out.cells
  go_wp2_with fail
  go_at_call 38; refine (RM.out _).mono ?_; rintro e wn ⟨rfl, hb⟩; have J := Lib.hid (J.out.step hb); have S := Lib.hid (S.out.step hb); clear hb; obtain ⟨a0, a1, b0, b1⟩ := J.out.cells; obtain ⟨s0, s1⟩ := S.out.cells
  have M := Lib.hid (Bx.new wn x y)
  have S := Lib.hid (S.out.alloc (.cells #[.string x, .string y] 37))
  have J := Lib.hid (TB.step J.out (Below.alloc (Below.refl _ wn) (Nat.le_refl _) (.cells #[.string x, .string y] 37)))
  obtain ⟨a0, a1, b0, b1⟩ := J.out.cells
  obtain ⟨s0, s1⟩ := S.out.cells
  obtain ⟨m0, m1⟩ := M.out.cells
  go_wp2_with fail
  go_at_call 39; refine (JO.out _).mono ?_; rintro e wn ⟨rfl, hb⟩; have J := Lib.hid (J.out.step hb); have S := Lib.hid (S.out.step hb); have M := Lib.hid (M.out.step hb); clear hb; obtain ⟨a0, a1, b0, b1⟩ := J.out.cells; obtain ⟨s0, s1⟩ := S.out.cells; obtain ⟨m0, m1⟩ := M.out.cells
  go_wp2_with fail
  go_at_call 32; refine (HA.out _).mono ?_; rintro e wn ⟨rfl, hb⟩; have J := Lib.hid (J.out.step hb); have S := Lib.hid (S.out.step hb); have M := Lib.hid (M.out.step hb); clear hb; obtain ⟨a0, a1, b0, b1⟩ := J.out.cells; obtain ⟨s0, s1⟩ := S.out.cells; obtain ⟨m0, m1⟩ := M.out.cells
  go_wp2_with fail
  go_at_call 32; refine (HB.out _).mono ?_; rintro e wn ⟨rfl, hb⟩; have J := Lib.hid (J.out.step hb); have S := Lib.hid (S.out.step hb); have M := Lib.hid (M.out.step hb); clear hb; obtain ⟨a0, a1, b0, b1⟩ := J.out.cells; obtain ⟨s0, s1⟩ := S.out.cells; obtain ⟨m0, m1⟩ := M.out.cells
  go_wp2_with fail
  go_at_call 28; refine (FX.out _).mono ?_; rintro e wn ⟨rfl, hb⟩; have J := Lib.hid (J.out.step hb); have S := Lib.hid (S.out.step hb); have M := Lib.hid (M.out.step hb); clear hb; obtain ⟨a0, a1, b0, b1⟩ := J.out.cells; obtain ⟨s0, s1⟩ := S.out.cells; obtain ⟨m0, m1⟩ := M.out.cells
  go_wp2_with fail
  go_at_call 31; refine (HX.out _).mono ?_; rintro e wn ⟨rfl, hb⟩; have J := Lib.hid (J.out.step hb); have S := Lib.hid (S.out.step hb); have M := Lib.hid (M.out.step hb); clear hb; obtain ⟨a0, a1, b0, b1⟩ := J.out.cells; obtain ⟨s0, s1⟩ := S.out.cells; obtain ⟨m0, m1⟩ := M.out.cells
  go_wp2_with fail
  go_ret
  exact ⟨rfl, J.out.below⟩

set_option maxHeartbeats 2000000 in
theorem meets_ttf (a a' b b' v x y : ByteArray) (w : World) (z3 : v.size ≤ 3000)
    (GA : Says 27 #[spv a a'] (.bool false)) (GB : Says 27 #[spv b b'] (.bool false))
    (ME : Says 37 #[spv a a', spv b b'] (rd x y true)) (RM : Says 38 #[spv a a', spv b b'] (rd x y true)) (JO : Says 39 #[spv a a', spv b b'] (.bool true))
    (HA : Says 32 #[spv a a', .string v] (.bool true)) (HB : Says 32 #[spv b b', .string v] (.bool false)) (HX : Says 31 #[spv x y, .string v] (.bool false)) :
    Calls Try.prog 11 #[spv a a', spv b b', .string v] w fun e w' => e = .returned (.bool true) ∧ Below w.heap.size w w' := by
  have z3' : (v.size : Int) ≤ 3000 := by omega
  have J := Lib.hid (TB.start w a a' b b')
  have GA := Lib.hid GA; have GB := Lib.hid GB; have ME := Lib.hid ME; have RM := Lib.hid RM; have JO := Lib.hid JO; have HA := Lib.hid HA; have HB := Lib.hid HB; have HX := Lib.hid HX; have FX := Lib.hid sfixed_any
  go_enter Try.func11, Try.ntmps11
  go_wp2_with fail
  go_at_call 27; refine (GA.out _).mono ?_; rintro e wn ⟨rfl, hb⟩; have J := Lib.hid (J.out.step hb); clear hb; obtain ⟨a0, a1, b0, b1⟩ := J.out.cells
  go_wp2_with fail
  go_at_call 27; refine (GB.out _).mono ?_; rintro e wn ⟨rfl, hb⟩; have J := Lib.hid (J.out.step hb); clear hb; obtain ⟨a0, a1, b0, b1⟩ := J.out.cells
  go_wp2_with fail
  go_at_call 37; refine (ME.out _).mono ?_; rintro e wn ⟨rfl, hb⟩; have J := Lib.hid (J.out.step hb); clear hb; obtain ⟨a0, a1, b0, b1⟩ := J.out.cells
  have S := Lib.hid (Bx.new wn x y)
  have J := Lib.hid (TB.step J.out (Below.alloc (Below.refl _ wn) (Nat.le_refl _) (.cells #[.string x, .string y] 37)))
  obtain ⟨a0, a1, b0, b1⟩ := J.out.cells
  go_wp2_with fail
  go_at_call 38; refine (RM.out _).mono ?_; rintro e wn ⟨rfl, hb⟩; have J := Lib.hid (J.out.step hb); have S := Lib.hid (S.out.step hb); clear hb; obtain ⟨a0, a1, b0, b1⟩ := J.out.cells; obtain ⟨s0, s1⟩ := S.out.cells
  have M := Lib.hid (Bx.new wn x y)
  have S := Lib.hid (S.out.alloc (.cells #[.string x, .string y] 37))
  have J := Lib.hid (TB.step J.out (Below.alloc (Below.refl _ wn) (Nat.le_refl _) (.cells #[.string x, .string y] 37)))
  obtain ⟨a0, a1, b0, b1⟩ := J.out.cells
  obtain ⟨s0, s1⟩ := S.out.cells
  obtain ⟨m0, m1⟩ := M.out.cells
  go_wp2_with fail
  go_at_call 39; refine (JO.out _).mono ?_; rintro e wn ⟨rfl, hb⟩; have J := Lib.hid (J.out.step hb); have S := Lib.hid (S.out.step hb); have M := Lib.hid (M.out.step hb); clear hb; obtain ⟨a0, a1, b0, b1⟩ := J.out.cells; obtain ⟨s0, s1⟩ := S.out.cells; obtain ⟨m0, m1⟩ := M.out.cells
  go_wp2_with fail
  go_at_call 32; refine (HA.out _).mono ?_; rintro e wn ⟨rfl, hb⟩; have J := Lib.hid (J.out.step hb); have S := Lib.hid (S.out.step hb); have M := Lib.hid (M.out.step hb); clear hb; obtain ⟨a0, a1, b0, b1⟩ := J.out.cells; obtain ⟨s0, s1⟩ := S.out.cells; obtain ⟨m0, m1⟩ := M.out.cells
  go_wp2_with fail
  go_at_call 32; refine (HB.out _).mono ?_; rintro e wn ⟨rfl, hb⟩; have J := Lib.hid (J.out.step hb); have S := Lib.hid (S.out.step hb); have M := Lib.hid (M.out.step hb); clear hb; obtain ⟨a0, a1, b0, b1⟩ := J.out.cells; obtain ⟨s0, s1⟩ := S.out.cells; obtain ⟨m0, m1⟩ := M.out.cells
  go_wp2_with fail
  go_at_call 28; refine (FX.out _).mono ?_; rintro e wn ⟨rfl, hb⟩; have J := Lib.hid (J.out.step hb); have S := Lib.hid (S.out.step hb); have M := Lib.hid (M.out.step hb); clear hb; obtain ⟨a0, a1, b0, b1⟩ := J.out.cells; obtain ⟨s0, s1⟩ := S.out.cells; obtain ⟨m0, m1⟩ := M.out.cells
  go_wp2_with fail
  go_at_call 31; refine (HX.out _).mono ?_; rintro e wn ⟨rfl, hb⟩; have J := Lib.hid (J.out.step hb); have S := Lib.hid (S.out.step hb); have M := Lib.hid (M.out.step hb); clear hb; obtain ⟨a0, a1, b0, b1⟩ := J.out.cells; obtain ⟨s0, s1⟩ := S.out.cells; obtain ⟨m0, m1⟩ := M.out.cells
  go_wp2_with fail
  go_ret
  exact ⟨rfl, J.out.below⟩

set_option maxHeartbeats 2000000 in
theorem meets_tft (a a' b b' v x y : ByteArray) (w : World) (z3 : v.size ≤ 3000)
    (GA : Says 27 #[spv a a'] (.bool false)) (GB : Says 27 #[spv b b'] (.bool false))
    (ME : Says 37 #[spv a a', spv b b'] (rd x y true)) (RM : Says 38 #[spv a a', spv b b'] (rd x y true)) (JO : Says 39 #[spv a a', spv b b'] (.bool true))
    (HA : Says 32 #[spv a a', .string v] (.bool false)) (HB : Says 32 #[spv b b', .string v] (.bool true)) (HX : Says 31 #[spv x y, .string v] (.bool false)) :
    Calls Try.prog 11 #[spv a a', spv b b', .string v] w fun e w' => e = .returned (.bool true) ∧ Below w.heap.size w w' := by
  have z3' : (v.size : Int) ≤ 3000 := by omega
  have J := Lib.hid (TB.start w a a' b b')
  have GA := Lib.hid GA; have GB := Lib.hid GB; have ME := Lib.hid ME; have RM := Lib.hid RM; have JO := Lib.hid JO; have HA := Lib.hid HA; have HB := Lib.hid HB; have HX := Lib.hid HX; have FX := Lib.hid sfixed_any
  go_enter Try.func11, Try.ntmps11
  go_wp2_with fail
  go_at_call 27; refine (GA.out _).mono ?_; rintro e wn ⟨rfl, hb⟩; have J := Lib.hid (J.out.step hb); clear hb; obtain ⟨a0, a1, b0, b1⟩ := J.out.cells
  go_wp2_with fail
  go_at_call 27; refine (GB.out _).mono ?_; rintro e wn ⟨rfl, hb⟩; have J := Lib.hid (J.out.step hb); clear hb; obtain ⟨a0, a1, b0, b1⟩ := J.out.cells
  go_wp2_with fail
  go_at_call 37; refine (ME.out _).mono ?_; rintro e wn ⟨rfl, hb⟩; have J := Lib.hid (J.out.step hb); clear hb; obtain ⟨a0, a1, b0, b1⟩ := J.out.cells
  have S := Lib.hid (Bx.new wn x y)
  have J := Lib.hid (TB.step J.out (Below.alloc (Below.refl _ wn) (Nat.le_refl _) (.cells #[.string x, .string y] 37)))
  obtain ⟨a0, a1, b0, b1⟩ := J.out.cells
  go_wp2_with fail
  go_at_call 38; refine (RM.out _).mono ?_; rintro e wn ⟨rfl, hb⟩; have J := Lib.hid (J.out.step hb); have S := Lib.hid (S.out.step hb); clear hb; obtain ⟨a0, a1, b0, b1⟩ := J.out.cells; obtain ⟨s0, s1⟩ := S.out.cells
  have M := Lib.hid (Bx.new wn x y)
  have S := Lib.hid (S.out.alloc (.cells #[.string x, .string y] 37))
  have J := Lib.hid (TB.step J.out (Below.alloc (Below.refl _ wn) (Nat.le_refl _) (.cells #[.string x, .string y] 37)))
  obtain ⟨a0, a1, b0, b1⟩ := J.out.cells
  obtain ⟨s0, s1⟩ := S.out.cells
  obtain ⟨m0, m1⟩ := M.out.cells
  go_wp2_with fail
  go_at_call 39; refine (JO.out _).mono ?_; rintro e wn ⟨rfl, hb⟩; have J := Lib.hid (J.out.step hb); have S := Lib.hid (S.out.step hb); have M := Lib.hid (M.out.step hb); clear hb; obtain ⟨a0, a1, b0, b1⟩ := J.out.cells; obtain ⟨s0, s1⟩ := S.out.cells; obtain ⟨m0, m1⟩ := M.out.cells
  go_wp2_with fail
  go_at_call 32; refine (HA.out _).mono ?_; rintro e wn ⟨rfl, hb⟩; have J := Lib.hid (J.out.step hb); have S := Lib.hid (S.out.step hb); have M := Lib.hid (M.out.step hb); clear hb; obtain ⟨a0, a1, b0, b1⟩ := J.out.cells; obtain ⟨s0, s1⟩ := S.out.cells; obtain ⟨m0, m1⟩ := M.out.cells
  go_wp2_with fail
  go_at_call 28; refine (FX.out _).mono ?_; rintro e wn ⟨rfl, hb⟩; have J := Lib.hid (J.out.step hb); have S := Lib.hid (S.out.step hb); have M := Lib.hid (M.out.step hb); clear hb; obtain ⟨a0, a1, b0, b1⟩ := J.out.cells; obtain ⟨s0, s1⟩ := S.out.cells; obtain ⟨m0, m1⟩ := M.out.cells
  go_wp2_with fail
  go_at_call 31; refine (HX.out _).mono ?_; rintro e wn ⟨rfl, hb⟩; have J := Lib.hid (J.out.step hb); have S := Lib.hid (S.out.step hb); have M := Lib.hid (M.out.step hb); clear hb; obtain ⟨a0, a1, b0, b1⟩ := J.out.cells; obtain ⟨s0, s1⟩ := S.out.cells; obtain ⟨m0, m1⟩ := M.out.cells
  go_wp2_with fail
  go_ret
  exact ⟨rfl, J.out.below⟩

set_option maxHeartbeats 2000000 in
theorem meets_tff (a a' b b' v x y : ByteArray) (w : World) (z3 : v.size ≤ 3000)
    (GA : Says 27 #[spv a a'] (.bool false)) (GB : Says 27 #[spv b b'] (.bool false))
    (ME : Says 37 #[spv a a', spv b b'] (rd x y true)) (RM : Says 38 #[spv a a', spv b b'] (rd x y true)) (JO : Says 39 #[spv a a', spv b b'] (.bool true))
    (HA : Says 32 #[spv a a', .string v] (.bool false)) (HB : Says 32 #[spv b b', .string v] (.bool false)) (HX : Says 31 #[spv x y, .string v] (.bool false)) :
    Calls Try.prog 11 #[spv a a', spv b b', .string v] w fun e w' => e = .returned (.bool true) ∧ Below w.heap.size w w' := by
  have z3' : (v.size : Int) ≤ 3000 := by omega
  have J := Lib.hid (TB.start w a a' b b')
  have GA := Lib.hid GA; have GB := Lib.hid GB; have ME := Lib.hid ME; have RM := Lib.hid RM; have JO := Lib.hid JO; have HA := Lib.hid HA; have HB := Lib.hid HB; have HX := Lib.hid HX; have FX := Lib.hid sfixed_any
  go_enter Try.func11, Try.ntmps11
  go_wp2_with fail
  go_at_call 27; refine (GA.out _).mono ?_; rintro e wn ⟨rfl, hb⟩; have J := Lib.hid (J.out.step hb); clear hb; obtain ⟨a0, a1, b0, b1⟩ := J.out.cells
  go_wp2_with fail
  go_at_call 27; refine (GB.out _).mono ?_; rintro e wn ⟨rfl, hb⟩; have J := Lib.hid (J.out.step hb); clear hb; obtain ⟨a0, a1, b0, b1⟩ := J.out.cells
  go_wp2_with fail
  go_at_call 37; refine (ME.out _).mono ?_; rintro e wn ⟨rfl, hb⟩; have J := Lib.hid (J.out.step hb); clear hb; obtain ⟨a0, a1, b0, b1⟩ := J.out.cells
  have S := Lib.hid (Bx.new wn x y)
  have J := Lib.hid (TB.step J.out (Below.alloc (Below.refl _ wn) (Nat.le_refl _) (.cells #[.string x, .string y] 37)))
  obtain ⟨a0, a1, b0, b1⟩ := J.out.cells
  go_wp2_with fail
  go_at_call 38; refine (RM.out _).mono ?_; rintro e wn ⟨rfl, hb⟩; have J := Lib.hid (J.out.step hb); have S := Lib.hid (S.out.step hb); clear hb; obtain ⟨a0, a1, b0, b1⟩ := J.out.cells; obtain ⟨s0, s1⟩ := S.out.cells
  have M := Lib.hid (Bx.new wn x y)
  have S := Lib.hid (S.out.alloc (.cells #[.string x, .string y] 37))
  have J := Lib.hid (TB.step J.out (Below.alloc (Below.refl _ wn) (Nat.le_refl _) (.cells #[.string x, .string y] 37)))
  obtain ⟨a0, a1, b0, b1⟩ := J.out.cells
  obtain ⟨s0, s1⟩ := S.out.cells
  obtain ⟨m0, m1⟩ := M.out.cells
  go_wp2_with fail
  go_at_call 39; refine (JO.out _).mono ?_; rintro e wn ⟨rfl, hb⟩; have J := Lib.hid (J.out.step hb); have S := Lib.hid (S.out.step hb); have M := Lib.hid (M.out.step hb); clear hb; obtain ⟨a0, a1, b0, b1⟩ := J.out.cells; obtain ⟨s0, s1⟩ := S.out.cells; obtain ⟨m0, m1⟩ := M.out.cells
  go_wp2_with fail
  go_at_call 32; refine (HA.out _).mono ?_; rintro e wn ⟨rfl, hb⟩; have J := Lib.hid (J.out.step hb); have S := Lib.hid (S.out.step hb); have M := Lib.hid (M.out.step hb); clear hb; obtain ⟨a0, a1, b0, b1⟩ := J.out.cells; obtain ⟨s0, s1⟩ := S.out.cells; obtain ⟨m0, m1⟩ := M.out.cells
  go_wp2_with fail
  go_at_call 28; refine (FX.out _).mono ?_; rintro e wn ⟨rfl, hb⟩; have J := Lib.hid (J.out.step hb); have S := Lib.hid (S.out.step hb); have M := Lib.hid (M.out.step hb); clear hb; obtain ⟨a0, a1, b0, b1⟩ := J.out.cells; obtain ⟨s0, s1⟩ := S.out.cells; obtain ⟨m0, m1⟩ := M.out.cells
  go_wp2_with fail
  go_at_call 31; refine (HX.out _).mono ?_; rintro e wn ⟨rfl, hb⟩; have J := Lib.hid (J.out.step hb); have S := Lib.hid (S.out.step hb); have M := Lib.hid (M.out.step hb); clear hb; obtain ⟨a0, a1, b0, b1⟩ := J.out.cells; obtain ⟨s0, s1⟩ := S.out.cells; obtain ⟨m0, m1⟩ := M.out.cells
  go_wp2_with fail
  go_ret
  exact ⟨rfl, J.out.below⟩

set_option maxHeartbeats 2000000 in
theorem meets_ftf (a a' b b' v x y : ByteArray) {hx : Bool} (w : World) (z3 : v.size ≤ 3000)
    (GA : Says 27 #[spv a a'] (.bool false)) (GB : Says 27 #[spv b b'] (.bool false))
    (ME : Says 37 #[spv a a', spv b b'] (rd x y false)) (RM : Says 38 #[spv a a', spv b b'] (rd x y false)) (JO : Says 39 #[spv a a', spv b b'] (.bool false))
    (HA : Says 32 #[spv a a', .string v] (.bool true)) (HB : Says 32 #[spv b b', .string v] (.bool false)) (HX : Says 31 #[spv x y, .string v] (.bool hx)) :
    Calls Try.prog 11 #[spv a a', spv b b', .string v] w fun e w' => e = .returned (.bool true) ∧ Below w.heap.size w w' := by
  have z3' : (v.size : Int) ≤ 3000 := by omega
  have J := Lib.hid (TB.start w a a' b b')
  have GA := Lib.hid GA; have GB := Lib.hid GB; have ME := Lib.hid ME; have RM := Lib.hid RM; have JO := Lib.hid JO; have HA := Lib.hid HA; have HB := Lib.hid HB; have HX := Lib.hid HX; have FX := Lib.hid sfixed_any
  go_enter Try.func11, Try.ntmps11
  go_wp2_with fail
  go_at_call 27; refine (GA.out _).mono ?_; rintro e wn ⟨rfl, hb⟩; have J := Lib.hid (J.out.step hb); clear hb; obtain ⟨a0, a1, b0, b1⟩ := J.out.cells
  go_wp2_with fail
  go_at_call 27; refine (GB.out _).mono ?_; rintro e wn ⟨rfl, hb⟩; have J := Lib.hid (J.out.step hb); clear hb; obtain ⟨a0, a1, b0, b1⟩ := J.out.cells
  go_wp2_with fail
  go_at_call 37; refine (ME.out _).mono ?_; rintro e wn ⟨rfl, hb⟩; have J := Lib.hid (J.out.step hb); clear hb; obtain ⟨a0, a1, b0, b1⟩ := J.out.cells
  have S := Lib.hid (Bx.new wn x y)
  have J := Lib.hid (TB.step J.out (Below.alloc (Below.refl _ wn) (Nat.le_refl _) (.cells #[.string x, .string y] 37)))
  obtain ⟨a0, a1, b0, b1⟩ := J.out.cells
  go_wp2_with fail
  go_at_call 38; refine (RM.out _).mono ?_; rintro e wn ⟨rfl, hb⟩; have J := Lib.hid (J.out.step hb); have S := Lib.hid (S.out.step hb); clear hb; obtain ⟨a0, a1, b0, b1⟩ := J.out.cells; obtain ⟨s0, s1⟩ := S.out.cells
  have M := Lib.hid (Bx.new wn x y)
  have S := Lib.hid (S.out.alloc (.cells #[.string x, .string y] 37))
  have J := Lib.hid (TB.step J.out (Below.alloc (Below.refl _ wn) (Nat.le_refl _) (.cells #[.string x, .string y] 37)))
  obtain ⟨a0, a1, b0, b1⟩ := J.out.cells
  obtain ⟨s0, s1⟩ := S.out.cells
  obtain ⟨m0, m1⟩ := M.out.cells
  go_wp2_with fail
  go_at_call 39; refine (JO.out _).mono ?_; rintro e wn ⟨rfl, hb⟩; have J := Lib.hid (J.out.step hb); have S := Lib.hid (S.out.step hb); have M := Lib.hid (M.out.step hb); clear hb; obtain ⟨a0, a1, b0, b1⟩ := J.out.cells; obtain ⟨s0, s1⟩ := S.out.cells; obtain ⟨m0, m1⟩ := M.out.cells
  go_wp2_with fail
  go_at_call 32; refine (HA.out _).mono ?_; rintro e wn ⟨rfl, hb⟩; have J := Lib.hid (J.out.step hb); have S := Lib.hid (S.out.step hb); have M := Lib.hid (M.out.step hb); clear hb; obtain ⟨a0, a1, b0, b1⟩ := J.out.cells; obtain ⟨s0, s1⟩ := S.out.cells; obtain ⟨m0, m1⟩ := M.out.cells
  go_wp2_with fail
  go_at_call 32; refine (HB.out _).mono ?_; rintro e wn ⟨rfl, hb⟩; have J := Lib.hid (J.out.step hb); have S := Lib.hid (S.out.step hb); have M := Lib.hid (M.out.step hb); clear hb; obtain ⟨a0, a1, b0, b1⟩ := J.out.cells; obtain ⟨s0, s1⟩ := S.out.cells; obtain ⟨m0, m1⟩ := M.out.cells
  go_wp2_with fail
  go_at_call 28; refine (FX.out _).mono ?_; rintro e wn ⟨rfl, hb⟩; have J := Lib.hid (J.out.step hb); have S := Lib.hid (S.out.step hb); have M := Lib.hid (M.out.step hb); clear hb; obtain ⟨a0, a1, b0, b1⟩ := J.out.cells; obtain ⟨s0, s1⟩ := S.out.cells; obtain ⟨m0, m1⟩ := M.out.cells
  go_wp2_with fail
  go_ret
  exact ⟨rfl, J.out.below⟩

set_option maxHeartbeats 2000000 in
theorem meets_fft (a a' b b' v x y : ByteArray) {hx : Bool} (w : World) (z3 : v.size ≤ 3000)
    (GA : Says 27 #[spv a a'] (.bool false)) (GB : Says 27 #[spv b b'] (.bool false))
    (ME : Says 37 #[spv a a', spv b b'] (rd x y false)) (RM : Says 38 #[spv a a', spv b b'] (rd x y false)) (JO : Says 39 #[spv a a', spv b b'] (.bool false))
    (HA : Says 32 #[spv a a', .string v] (.bool false)) (HB : Says 32 #[spv b b', .string v] (.bool true)) (HX : Says 31 #[spv x y, .string v] (.bool hx)) :
    Calls Try.prog 11 #[spv a a', spv b b', .string v] w fun e w' => e = .returned (.bool true) ∧ Below w.heap.size w w' := by
  have z3' : (v.size : Int) ≤ 3000 := by omega
  have J := Lib.hid (TB.start w a a' b b')
  have GA := Lib.hid GA; have GB := Lib.hid GB; have ME := Lib.hid ME; have RM := Lib.hid RM; have JO := Lib.hid JO; have HA := Lib.hid HA; have HB := Lib.hid HB; have HX := Lib.hid HX; have FX := Lib.hid sfixed_any
  go_enter Try.func11, Try.ntmps11
  go_wp2_with fail
  go_at_call 27; refine (GA.out _).mono ?_; rintro e wn ⟨rfl, hb⟩; have J := Lib.hid (J.out.step hb); clear hb; obtain ⟨a0, a1, b0, b1⟩ := J.out.cells
  go_wp2_with fail
  go_at_call 27; refine (GB.out _).mono ?_; rintro e wn ⟨rfl, hb⟩; have J := Lib.hid (J.out.step hb); clear hb; obtain ⟨a0, a1, b0, b1⟩ := J.out.cells
  go_wp2_with fail
  go_at_call 37; refine (ME.out _).mono ?_; rintro e wn ⟨rfl, hb⟩; have J := Lib.hid (J.out.step hb); clear hb; obtain ⟨a0, a1, b0, b1⟩ := J.out.cells
  have S := Lib.hid (Bx.new wn x y)
  have J := Lib.hid (TB.step J.out (Below.alloc (Below.refl _ wn) (Nat.le_refl _) (.cells #[.string x, .string y] 37)))
  obtain ⟨a0, a1, b0, b1⟩ := J.out.cells
  go_wp2_with fail
  go_at_call 38; refine (RM.out _).mono ?_; rintro e wn ⟨rfl, hb⟩; have J := Lib.hid (J.out.step hb); have S := Lib.hid (S.out.step hb); clear hb; obtain ⟨a0, a1, b0, b1⟩ := J.out.cells; obtain ⟨s0, s1⟩ := S.out.cells
  have M := Lib.hid (Bx.new wn x y)
  have S := Lib.hid (S.out.alloc (.cells #[.string x, .string y] 37))
  have J := Lib.hid (TB.step J.out (Below.alloc (Below.refl _ wn) (Nat.le_refl _) (.cells #[.string x, .string y] 37)))
  obtain ⟨a0, a1, b0, b1⟩ := J.out.cells
  obtain ⟨s0, s1⟩ := S.out.cells
  obtain ⟨m0, m1⟩ := M.out.cells
  go_wp2_with fail
  go_at_call 39; refine (JO.out _).mono ?_; rintro e wn ⟨rfl, hb⟩; have J := Lib.hid (J.out.step hb); have S := Lib.hid (S.out.step hb); have M := Lib.hid (M.out.step hb); clear hb; obtain ⟨a0, a1, b0, b1⟩ := J.out.cells; obtain ⟨s0, s1⟩ := S.out.cells; obtain ⟨m0, m1⟩ := M.out.cells
  go_wp2_with fail
  go_at_call 32; refine (HA.out _).mono ?_; rintro e wn ⟨rfl, hb⟩; have J := Lib.hid (J.out.step hb); have S := Lib.hid (S.out.step hb); have M := Lib.hid (M.out.step hb); clear hb; obtain ⟨a0, a1, b0, b1⟩ := J.out.cells; obtain ⟨s0, s1⟩ := S.out.cells; obtain ⟨m0, m1⟩ := M.out.cells
  go_wp2_with fail
  go_at_call 28; refine (FX.out _).mono ?_; rintro e wn ⟨rfl, hb⟩; have J := Lib.hid (J.out.step hb); have S := Lib.hid (S.out.step hb); have M := Lib.hid (M.out.step hb); clear hb; obtain ⟨a0, a1, b0, b1⟩ := J.out.cells; obtain ⟨s0, s1⟩ := S.out.cells; obtain ⟨m0, m1⟩ := M.out.cells
  go_wp2_with fail
  go_ret
  exact ⟨rfl, J.out.below⟩

set_option maxHeartbeats 2000000 in
theorem meets_fff (a a' b b' v x y : ByteArray) {hx : Bool} (w : World) (z3 : v.size ≤ 3000)
    (GA : Says 27 #[spv a a'] (.bool false)) (GB : Says 27 #[spv b b'] (.bool false))
    (ME : Says 37 #[spv a a', spv b b'] (rd x y false)) (RM : Says 38 #[spv a a', spv b b'] (rd x y false)) (JO : Says 39 #[spv a a', spv b b'] (.bool false))
    (HA : Says 32 #[spv a a', .string v] (.bool false)) (HB : Says 32 #[spv b b', .string v] (.bool false)) (HX : Says 31 #[spv x y, .string v] (.bool hx)) :
    Calls Try.prog 11 #[spv a a', spv b b', .string v] w fun e w' => e = .returned (.bool true) ∧ Below w.heap.size w w' := by
  have z3' : (v.size : Int) ≤ 3000 := by omega
  have J := Lib.hid (TB.start w a a' b b')
  have GA := Lib.hid GA; have GB := Lib.hid GB; have ME := Lib.hid ME; have RM := Lib.hid RM; have JO := Lib.hid JO; have HA := Lib.hid HA; have HB := Lib.hid HB; have HX := Lib.hid HX; have FX := Lib.hid sfixed_any
  go_enter Try.func11, Try.ntmps11
  go_wp2_with fail
  go_at_call 27; refine (GA.out _).mono ?_; rintro e wn ⟨rfl, hb⟩; have J := Lib.hid (J.out.step hb); clear hb; obtain ⟨a0, a1, b0, b1⟩ := J.out.cells
  go_wp2_with fail
  go_at_call 27; refine (GB.out _).mono ?_; rintro e wn ⟨rfl, hb⟩; have J := Lib.hid (J.out.step hb); clear hb; obtain ⟨a0, a1, b0, b1⟩ := J.out.cells
  go_wp2_with fail
  go_at_call 37; refine (ME.out _).mono ?_; rintro e wn ⟨rfl, hb⟩; have J := Lib.hid (J.out.step hb); clear hb; obtain ⟨a0, a1, b0, b1⟩ := J.out.cells
  have S := Lib.hid (Bx.new wn x y)
  have J := Lib.hid (TB.step J.out (Below.alloc (Below.refl _ wn) (Nat.le_refl _) (.cells #[.string x, .string y] 37)))
  obtain ⟨a0, a1, b0, b1⟩ := J.out.cells
  go_wp2_with fail
  go_at_call 38; refine (RM.out _).mono ?_; rintro e wn ⟨rfl, hb⟩; have J := Lib.hid (J.out.step hb); have S := Lib.hid (S.out.step hb); clear hb; obtain ⟨a0, a1, b0, b1⟩ := J.out.cells; obtain ⟨s0, s1⟩ := S.out.cells
  have M := Lib.hid (Bx.new wn x y)
  have S := Lib.hid (S.out.alloc (.cells #[.string x, .string y] 37))
  have J := Lib.hid (TB.step J.out (Below.alloc (Below.refl _ wn) (Nat.le_refl _) (.cells #[.string x, .string y] 37)))
  obtain ⟨a0, a1, b0, b1⟩ := J.out.cells
  obtain ⟨s0, s1⟩ := S.out.cells
  obtain ⟨m0, m1⟩ := M.out.cells
  go_wp2_with fail
  go_at_call 39; refine (JO.out _).mono ?_; rintro e wn ⟨rfl, hb⟩; have J := Lib.hid (J.out.step hb); have S := Lib.hid (S.out.step hb); have M := Lib.hid (M.out.step hb); clear hb; obtain ⟨a0, a1, b0, b1⟩ := J.out.cells; obtain ⟨s0, s1⟩ := S.out.cells; obtain ⟨m0, m1⟩ := M.out.cells
  go_wp2_with fail
  go_at_call 32; refine (HA.out _).mono ?_; rintro e wn ⟨rfl, hb⟩; have J := Lib.hid (J.out.step hb); have S := Lib.hid (S.out.step hb); have M := Lib.hid (M.out.step hb); clear hb; obtain ⟨a0, a1, b0, b1⟩ := J.out.cells; obtain ⟨s0, s1⟩ := S.out.cells; obtain ⟨m0, m1⟩ := M.out.cells
  go_wp2_with fail
  go_at_call 28; refine (FX.out _).mono ?_; rintro e wn ⟨rfl, hb⟩; have J := Lib.hid (J.out.step hb); have S := Lib.hid (S.out.step hb); have M := Lib.hid (M.out.step hb); clear hb; obtain ⟨a0, a1, b0, b1⟩ := J.out.cells; obtain ⟨s0, s1⟩ := S.out.cells; obtain ⟨m0, m1⟩ := M.out.cells
  go_wp2_with fail
  go_ret
  exact ⟨rfl, J.out.below⟩

set_option maxHeartbeats 1000000 in
theorem meets_great (a a' b b' v : ByteArray) (w : World) (za : a.size ≤ maxLen) (za' : a'.size ≤ maxLen) (zb : b.size ≤ maxLen) (zb' : b'.size ≤ maxLen) (zv : v.size ≤ maxLen)
    (h : (decide (3000 < a.size) || decide (3000 < a'.size)) = true ∨ (decide (3000 < b.size) || decide (3000 < b'.size)) = true ∨ 3000 < v.size) :
    Calls Try.prog 11 #[spv a a', spv b b', .string v] w fun e w' => e = .returned (.bool true) ∧ Below w.heap.size w w' := by
  have GA := Lib.hid (sgreat_any a a' za za')
  have GB := Lib.hid (sgreat_any b b' zb zb')
  have FX := Lib.hid sfixed_any
  have J := Lib.hid (TB.start w a a' b b')
  have zv' : (v.size : Int) ≤ 9223372036854775807 := by unfold maxLen at zv; omega
  clear za za' zb zb' zv
  cases ga : (decide (3000 < a.size) || decide (3000 < a'.size)) with
  | true =>
    rw [ga] at GA
    clear h ga
    go_enter Try.func11, Try.ntmps11
    go_wp2_with fail
    go_at_call 27; refine (GA.out _).mono ?_; rintro e wn ⟨rfl, hb⟩; have J := Lib.hid (J.out.step hb); clear hb
    go_wp2_with fail
    go_at_call 28; refine (FX.out _).mono ?_; rintro e wn ⟨rfl, hb⟩; have J := Lib.hid (J.out.step hb); clear hb
    go_wp2_with fail
    go_ret
    exact ⟨rfl, J.out.below⟩
  | false =>
    cases gb : (decide (3000 < b.size) || decide (3000 < b'.size)) with
    | true =>
      rw [ga] at GA
      rw [gb] at GB
      clear h ga gb
      go_enter Try.func11, Try.ntmps11
      go_wp2_with fail
      go_at_call 27; refine (GA.out _).mono ?_; rintro e wn ⟨rfl, hb⟩; have J := Lib.hid (J.out.step hb); clear hb; obtain ⟨a0, a1, b0, b1⟩ := J.out.cells
      go_wp2_with fail
      go_at_call 27; refine (GB.out _).mono ?_; rintro e wn ⟨rfl, hb⟩; have J := Lib.hid (J.out.step hb); clear hb
      go_wp2_with fail
      go_at_call 28; refine (FX.out _).mono ?_; rintro e wn ⟨rfl, hb⟩; have J := Lib.hid (J.out.step hb); clear hb
      go_wp2_with fail
      go_ret
      exact ⟨rfl, J.out.below⟩
    | false =>
      have hv : 3000 < (v.size : Int) := by rw [ga, gb] at h; simp at h; omega
      rw [ga] at GA
      rw [gb] at GB
      clear h ga gb
      go_enter Try.func11, Try.ntmps11
      go_wp2_with fail
      go_at_call 27; refine (GA.out _).mono ?_; rintro e wn ⟨rfl, hb⟩; have J := Lib.hid (J.out.step hb); clear hb; obtain ⟨a0, a1, b0, b1⟩ := J.out.cells
      go_wp2_with fail
      go_at_call 27; refine (GB.out _).mono ?_; rintro e wn ⟨rfl, hb⟩; have J := Lib.hid (J.out.step hb); clear hb
      go_wp2_with fail
      go_at_call 28; refine (FX.out _).mono ?_; rintro e wn ⟨rfl, hb⟩; have J := Lib.hid (J.out.step hb); clear hb
      go_wp2_with fail
      go_ret
      exact ⟨rfl, J.out.below⟩

theorem law_spanmeets (a a' b b' v : ByteArray) (w : World) (za : a.size ≤ maxLen) (za' : a'.size ≤ maxLen) (zb : b.size ≤ maxLen) (zb' : b'.size ≤ maxLen) (zv : v.size ≤ maxLen) :
    Calls Try.prog 11 #[spv a a', spv b b', .string v] w fun e w' => e = .returned (.bool true) ∧ Below w.heap.size w w' := by
  by_cases h : (decide (3000 < a.size) || decide (3000 < a'.size)) = true ∨ (decide (3000 < b.size) || decide (3000 < b'.size)) = true ∨ 3000 < v.size
  · exact meets_great a a' b b' v w za za' zb zb' zv h
  · have ga : (decide (3000 < a.size) || decide (3000 < a'.size)) = false := by cases e : (decide (3000 < a.size) || decide (3000 < a'.size)) with | false => rfl | true => exact absurd (.inl e) h
    have gb : (decide (3000 < b.size) || decide (3000 < b'.size)) = false := by cases e : (decide (3000 < b.size) || decide (3000 < b'.size)) with | false => rfl | true => exact absurd (.inr (.inl e)) h
    have hv : v.size ≤ 3000 := by rcases Nat.lt_or_ge 3000 v.size with h' | h'; exact absurd (.inr (.inr h')) h; exact h'
    have pa := great_parts a a' ga
    have pb := great_parts b b' gb
    have GA := sgreat_no a a' pa.1 pa.2
    have GB := sgreat_no b b' pb.1 pb.2
    obtain ⟨x, y, e, zx, zy, hxy⟩ := meet_what a a' b b' v za za' zb zb'
    have ME := meet_any a a' b b' za za' zb zb'
    have RM := rmeet_any a a' b b' za za' zb zb'
    have JO := joins_any a a' b b' za za' zb zb'
    have HA := rhas_any a a' v za za' zv
    have HB := rhas_any b b' v zb zb' zv
    have HX := has_any x y v zx zy zv
    rw [e] at ME RM
    generalize hasB x.data.toList y.data.toList v.data.toList = hx at HX hxy
    generalize hasB a.data.toList a'.data.toList v.data.toList = ha at HA hxy
    generalize hasB b.data.toList b'.data.toList v.data.toList = hb at HB hxy
    generalize meetC a a' b b' = c at ME RM JO hxy
    cases c with
    | false =>
      cases ha <;> cases hb
      · exact meets_fff a a' b b' v x y w hv GA GB ME RM JO HA HB HX
      · exact meets_fft a a' b b' v x y w hv GA GB ME RM JO HA HB HX
      · exact meets_ftf a a' b b' v x y w hv GA GB ME RM JO HA HB HX
      · exact absurd hxy (by simp)
    | true =>
      cases ha <;> cases hb <;> cases hx <;> first | exact meets_ttt a a' b b' v x y w hv GA GB ME RM JO HA HB HX | exact meets_ttf a a' b b' v x y w hv GA GB ME RM JO HA HB HX | exact meets_tft a a' b b' v x y w hv GA GB ME RM JO HA HB HX | exact meets_tff a a' b b' v x y w hv GA GB ME RM JO HA HB HX | exact Bool.noConfusion hxy

end Go.Proofs.Ytdmobdiffobdkaa.Ver
