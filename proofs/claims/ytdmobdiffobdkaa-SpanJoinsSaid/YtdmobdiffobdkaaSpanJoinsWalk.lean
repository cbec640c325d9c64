/- The law SpanJoins, walked. -/
import Derived.Test.YtdmobdiffobdkaaSpanI
namespace Go.Proofs.Ytdmobdiffobdkaa.Ver
set_option linter.unusedVariables false
set_option linter.unusedSimpArgs false
open Go.RowKit Go.Shelf

theorem sgreat_not (lo hi : ByteArray) (h1 : lo.size ≤ 3000) (h2 : hi.size ≤ 3000) : Says 27 #[spv lo hi] (.bool false) := by
  have h := sgreat_any lo hi (by unfold maxLen; omega) (by unfold maxLen; omega)
  rwa [decide_eq_false (by omega), decide_eq_false (by omega)] at h

/-- three spans boxed. -/
structure TC (w : World) (a a' b b' c c' : ByteArray) (W : World) : Prop where
  a : Bx W w.heap.size a a'
  b : Bx W (w.heap.size + 1) b b'
  c : Bx W (w.heap.size + 1 + 1) c c'
  below : Below w.heap.size w W
theorem TC.step {w W W' : World} {a a' b b' c c' : ByteArray} (h : TC w a a' b b' c c' W) (hb : Below W.heap.size W W') : TC w a a' b b' c c' W' := ⟨h.a.step hb, h.b.step hb, h.c.step hb, bstep h.below hb⟩
theorem TC.start (w : World) (a a' b b' c c' : ByteArray) : TC w a a' b b' c c' (((w.alloc (.cells #[.string a, .string a'] 37)).alloc (.cells #[.string b, .string b'] 37)).alloc (.cells #[.string c, .string c'] 37)) := by
  refine ⟨((Bx.new w a a').alloc _).alloc _, ?_, ?_, ?_⟩
  · have h := Bx.new (w.alloc (.cells #[.string a, .string a'] 37)) b b'
    rw [World.size_alloc] at h
    exact h.alloc _
  · have h := Bx.new ((w.alloc (.cells #[.string a, .string a'] 37)).alloc (.cells #[.string b, .string b'] 37)) c c'
    rw [World.size_alloc, World.size_alloc] at h
    exact h
  · exact (((Below.refl _ w).alloc (Nat.le_refl _) _).alloc (by simp) _).alloc (by simp; omega) _
theorem TC.cells {w W : World} {a a' b b' c c' : ByteArray} (h : TC w a a' b b' c c' W) : W.cell? ⟨w.heap.size, 0, none⟩ = some (.string a) ∧ W.cell? ⟨w.heap.size, 1, none⟩ = some (.string a') ∧ W.cell? ⟨w.heap.size + 1, 0, none⟩ = some (.string b) ∧ W.cell? ⟨w.heap.size + 1, 1, none⟩ = some (.string b') ∧ W.cell? ⟨w.heap.size + 1 + 1, 0, none⟩ = some (.string c) ∧ W.cell? ⟨w.heap.size + 1 + 1, 1, none⟩ = some (.string c') :=
  ⟨h.a.cells.1, h.a.cells.2, h.b.cells.1, h.b.cells.2, h.c.cells.1, h.c.cells.2⟩

set_option maxHeartbeats 2000000 in
theorem joins_1000 (a a' b b' c c' v x y : ByteArray) (w : World)  (z3 : v.size ≤ 3000)
    (GA : Says 27 #[spv a a'] (.bool false)) (GB : Says 27 #[spv b b'] (.bool false)) (GC : Says 27 #[spv c c'] (.bool false))
    (JN : Says 40 #[spv a a', spv b b'] (spv x y))
    (MA : Says 30 #[spv a a'] (.bool true))
    (MB : Says 30 #[spv b b'] (.bool true))
    (HA : Says 32 #[spv a a', .string v] (.bool true))
    (HS : Says 32 #[spv x y, .string v] (.bool true))
    (WA : Says 41 #[spv a a', spv x y] (.bool true))
    (WB : Says 41 #[spv b b', spv x y] (.bool true))
    (AC : Says 41 #[spv a a', spv c c'] (.bool false)) :
    Calls Try.prog 12 #[spv a a', spv b b', spv c c', .string v] w fun e w' => e = .returned (.bool true) ∧ Below w.heap.size w w' := by
  have z3' : (v.size : Int) ≤ 3000 := by omega
  have J := Lib.hid (TC.start w a a' b b' c c')
  obtain ⟨a0, a1, b0, b1, c0, c1⟩ := J.out.cells
  have GA := Lib.hid GA; have GB := Lib.hid GB; have GC := Lib.hid GC; have JN := Lib.hid JN; have MA := Lib.hid MA; have MB := Lib.hid MB; have HA := Lib.hid HA; have HS := Lib.hid HS; have WA := Lib.hid WA; have WB := Lib.hid WB; have AC := Lib.hid AC; have FX := Lib.hid sfixed_any
  go_enter Try.func12, Try.ntmps12
  go_wp2_with fail
  go_at_call 27; refine (GA.out _).mono ?_; rintro e wn ⟨rfl, hb⟩; clear a0 a1 b0 b1 c0 c1; have J := Lib.hid (J.out.step hb); clear hb; obtain ⟨a0, a1, b0, b1, c0, c1⟩ := J.out.cells
  go_wp2_with fail
  go_at_call 27; refine (GB.out _).mono ?_; rintro e wn ⟨rfl, hb⟩; clear a0 a1 b0 b1 c0 c1; have J := Lib.hid (J.out.step hb); clear hb; obtain ⟨a0, a1, b0, b1, c0, c1⟩ := J.out.cells
  go_wp2_with fail
  go_at_call 27; refine (GC.out _).mono ?_; rintro e wn ⟨rfl, hb⟩; clear a0 a1 b0 b1 c0 c1; have J := Lib.hid (J.out.step hb); clear hb; obtain ⟨a0, a1, b0, b1, c0, c1⟩ := J.out.cells
  go_wp2_with fail
  go_at_call 40; refine (JN.out _).mono ?_; rintro e wn ⟨rfl, hb⟩; clear a0 a1 b0 b1 c0 c1; have J := Lib.hid (J.out.step hb); clear hb; obtain ⟨a0, a1, b0, b1, c0, c1⟩ := J.out.cells
  have S := Lib.hid (Bx.new wn x y)
  have J := Lib.hid (TC.step J.out (Below.alloc (Below.refl _ wn) (Nat.le_refl _) (.cells #[.string x, .string y] 37)))
  clear a0 a1 b0 b1 c0 c1; obtain ⟨a0, a1, b0, b1, c0, c1⟩ := J.out.cells; obtain ⟨s0, s1⟩ := S.out.cells
  go_wp2_with fail
  go_at_call 30; refine (MA.out _).mono ?_; rintro e wn ⟨rfl, hb⟩; clear a0 a1 b0 b1 c0 c1; have J := Lib.hid (J.out.step hb); clear s0 s1; have S := Lib.hid (S.out.step hb); clear hb; obtain ⟨a0, a1, b0, b1, c0, c1⟩ := J.out.cells; obtain ⟨s0, s1⟩ := S.out.cells
  go_wp2_with fail
  go_at_call 30; refine (MB.out _).mono ?_; rintro e wn ⟨rfl, hb⟩; clear a0 a1 b0 b1 c0 c1; have J := Lib.hid (J.out.step hb); clear s0 s1; have S := Lib.hid (S.out.step hb); clear hb; obtain ⟨a0, a1, b0, b1, c0, c1⟩ := J.out.cells; obtain ⟨s0, s1⟩ := S.out.cells
  go_wp2_with fail
  go_at_call 32; refine (HA.out _).mono ?_; rintro e wn ⟨rfl, hb⟩; clear a0 a1 b0 b1 c0 c1; have J := Lib.hid (J.out.step hb); clear s0 s1; have S := Lib.hid (S.out.step hb); clear hb; obtain ⟨a0, a1, b0, b1, c0, c1⟩ := J.out.cells; obtain ⟨s0, s1⟩ := S.out.cells
  go_wp2_with fail
  go_at_call 32; refine (HS.out _).mono ?_; rintro e wn ⟨rfl, hb⟩; clear a0 a1 b0 b1 c0 c1; have J := Lib.hid (J.out.step hb); clear s0 s1; have S := Lib.hid (S.out.step hb); clear hb; obtain ⟨a0, a1, b0, b1, c0, c1⟩ := J.out.cells; obtain ⟨s0, s1⟩ := S.out.cells
  go_wp2_with fail
  go_at_call 41; refine (WA.out _).mono ?_; rintro e wn ⟨rfl, hb⟩; clear a0 a1 b0 b1 c0 c1; have J := Lib.hid (J.out.step hb); clear s0 s1; have S := Lib.hid (S.out.step hb); clear hb; obtain ⟨a0, a1, b0, b1, c0, c1⟩ := J.out.cells; obtain ⟨s0, s1⟩ := S.out.cells
  go_wp2_with fail
  go_at_call 41; refine (WB.out _).mono ?_; rintro e wn ⟨rfl, hb⟩; clear a0 a1 b0 b1 c0 c1; have J := Lib.hid (J.out.step hb); clear s0 s1; have S := Lib.hid (S.out.step hb); clear hb; obtain ⟨a0, a1, b0, b1, c0, c1⟩ := J.out.cells; obtain ⟨s0, s1⟩ := S.out.cells
  go_wp2_with fail
  go_at_call 28; refine (FX.out _).mono ?_; rintro e wn ⟨rfl, hb⟩; clear a0 a1 b0 b1 c0 c1; have J := Lib.hid (J.out.step hb); clear s0 s1; have S := Lib.hid (S.out.step hb); clear hb; obtain ⟨a0, a1, b0, b1, c0, c1⟩ := J.out.cells; obtain ⟨s0, s1⟩ := S.out.cells
  go_wp2_with fail
  go_at_call 41; refine (AC.out _).mono ?_; rintro e wn ⟨rfl, hb⟩; clear a0 a1 b0 b1 c0 c1; have J := Lib.hid (J.out.step hb); clear s0 s1; have S := Lib.hid (S.out.step hb); clear hb; obtain ⟨a0, a1, b0, b1, c0, c1⟩ := J.out.cells; obtain ⟨s0, s1⟩ := S.out.cells
  go_wp2_with fail
  go_at_call 41; refine (AC.out _).mono ?_; rintro e wn ⟨rfl, hb⟩; clear a0 a1 b0 b1 c0 c1; have J := Lib.hid (J.out.step hb); clear s0 s1; have S := Lib.hid (S.out.step hb); clear hb; obtain ⟨a0, a1, b0, b1, c0, c1⟩ := J.out.cells; obtain ⟨s0, s1⟩ := S.out.cells
  go_wp2_with fail
  go_ret
  exact ⟨rfl, J.out.below⟩

set_option maxHeartbeats 2000000 in
theorem joins_1010 (a a' b b' c c' v x y : ByteArray) (w : World)  (z3 : v.size ≤ 3000)
    (GA : Says 27 #[spv a a'] (.bool false)) (GB : Says 27 #[spv b b'] (.bool false)) (GC : Says 27 #[spv c c'] (.bool false))
    (JN : Says 40 #[spv a a', spv b b'] (spv x y))
    (MA : Says 30 #[spv a a'] (.bool true))
    (MB : Says 30 #[spv b b'] (.bool true))
    (HA : Says 32 #[spv a a', .string v] (.bool true))
    (HS : Says 32 #[spv x y, .string v] (.bool true))
    (WA : Says 41 #[spv a a', spv x y] (.bool true))
    (WB : Says 41 #[spv b b', spv x y] (.bool true))
    (AC : Says 41 #[spv a a', spv c c'] (.bool true))
    (BC : Says 41 #[spv b b', spv c c'] (.bool false))
    (HC : Says 32 #[spv c c', .string v] (.bool true)) :
    Calls Try.prog 12 #[spv a a', spv b b', spv c c', .string v] w fun e w' => e = .returned (.bool true) ∧ Below w.heap.size w w' := by
  have z3' : (v.size : Int) ≤ 3000 := by omega
  have J := Lib.hid (TC.start w a a' b b' c c')
  obtain ⟨a0, a1, b0, b1, c0, c1⟩ := J.out.cells
  have GA := Lib.hid GA; have GB := Lib.hid GB; have GC := Lib.hid GC; have JN := Lib.hid JN; have MA := Lib.hid MA; have MB := Lib.hid MB; have HA := Lib.hid HA; have HS := Lib.hid HS; have WA := Lib.hid WA; have WB := Lib.hid WB; have AC := Lib.hid AC; have BC := Lib.hid BC; have HC := Lib.hid HC; have FX := Lib.hid sfixed_any
  go_enter Try.func12, Try.ntmps12
  go_wp2_with fail
  go_at_call 27; refine (GA.out _).mono ?_; rintro e wn ⟨rfl, hb⟩; clear a0 a1 b0 b1 c0 c1; have J := Lib.hid (J.out.step hb); clear hb; obtain ⟨a0, a1, b0, b1, c0, c1⟩ := J.out.cells
  go_wp2_with fail
  go_at_call 27; refine (GB.out _).mono ?_; rintro e wn ⟨rfl, hb⟩; clear a0 a1 b0 b1 c0 c1; have J := Lib.hid (J.out.step hb); clear hb; obtain ⟨a0, a1, b0, b1, c0, c1⟩ := J.out.cells
  go_wp2_with fail
  go_at_call 27; refine (GC.out _).mono ?_; rintro e wn ⟨rfl, hb⟩; clear a0 a1 b0 b1 c0 c1; have J := Lib.hid (J.out.step hb); clear hb; obtain ⟨a0, a1, b0, b1, c0, c1⟩ := J.out.cells
  go_wp2_with fail
  go_at_call 40; refine (JN.out _).mono ?_; rintro e wn ⟨rfl, hb⟩; clear a0 a1 b0 b1 c0 c1; have J := Lib.hid (J.out.step hb); clear hb; obtain ⟨a0, a1, b0, b1, c0, c1⟩ := J.out.cells
  have S := Lib.hid (Bx.new wn x y)
  have J := Lib.hid (TC.step J.out (Below.alloc (Below.refl _ wn) (Nat.le_refl _) (.cells #[.string x, .string y] 37)))
  clear a0 a1 b0 b1 c0 c1; obtain ⟨a0, a1, b0, b1, c0, c1⟩ := J.out.cells; obtain ⟨s0, s1⟩ := S.out.cells
  go_wp2_with fail
  go_at_call 30; refine (MA.out _).mono ?_; rintro e wn ⟨rfl, hb⟩; clear a0 a1 b0 b1 c0 c1; have J := Lib.hid (J.out.step hb); clear s0 s1; have S := Lib.hid (S.out.step hb); clear hb; obtain ⟨a0, a1, b0, b1, c0, c1⟩ := J.out.cells; obtain ⟨s0, s1⟩ := S.out.cells
  go_wp2_with fail
  go_at_call 30; refine (MB.out _).mono ?_; rintro e wn ⟨rfl, hb⟩; clear a0 a1 b0 b1 c0 c1; have J := Lib.hid (J.out.step hb); clear s0 s1; have S := Lib.hid (S.out.step hb); clear hb; obtain ⟨a0, a1, b0, b1, c0, c1⟩ := J.out.cells; obtain ⟨s0, s1⟩ := S.out.cells
  go_wp2_with fail
  go_at_call 32; refine (HA.out _).mono ?_; rintro e wn ⟨rfl, hb⟩; clear a0 a1 b0 b1 c0 c1; have J := Lib.hid (J.out.step hb); clear s0 s1; have S := Lib.hid (S.out.step hb); clear hb; obtain ⟨a0, a1, b0, b1, c0, c1⟩ := J.out.cells; obtain ⟨s0, s1⟩ := S.out.cells
  go_wp2_with fail
  go_at_call 32; refine (HS.out _).mono ?_; rintro e wn ⟨rfl, hb⟩; clear a0 a1 b0 b1 c0 c1; have J := Lib.hid (J.out.step hb); clear s0 s1; have S := Lib.hid (S.out.step hb); clear hb; obtain ⟨a0, a1, b0, b1, c0, c1⟩ := J.out.cells; obtain ⟨s0, s1⟩ := S.out.cells
  go_wp2_with fail
  go_at_call 41; refine (WA.out _).mono ?_; rintro e wn ⟨rfl, hb⟩; clear a0 a1 b0 b1 c0 c1; have J := Lib.hid (J.out.step hb); clear s0 s1; have S := Lib.hid (S.out.step hb); clear hb; obtain ⟨a0, a1, b0, b1, c0, c1⟩ := J.out.cells; obtain ⟨s0, s1⟩ := S.out.cells
  go_wp2_with fail
  go_at_call 41; refine (WB.out _).mono ?_; rintro e wn ⟨rfl, hb⟩; clear a0 a1 b0 b1 c0 c1; have J := Lib.hid (J.out.step hb); clear s0 s1; have S := Lib.hid (S.out.step hb); clear hb; obtain ⟨a0, a1, b0, b1, c0, c1⟩ := J.out.cells; obtain ⟨s0, s1⟩ := S.out.cells
  go_wp2_with fail
  go_at_call 28; refine (FX.out _).mono ?_; rintro e wn ⟨rfl, hb⟩; clear a0 a1 b0 b1 c0 c1; have J := Lib.hid (J.out.step hb); clear s0 s1; have S := Lib.hid (S.out.step hb); clear hb; obtain ⟨a0, a1, b0, b1, c0, c1⟩ := J.out.cells; obtain ⟨s0, s1⟩ := S.out.cells
  go_wp2_with fail
  go_at_call 41; refine (AC.out _).mono ?_; rintro e wn ⟨rfl, hb⟩; clear a0 a1 b0 b1 c0 c1; have J := Lib.hid (J.out.step hb); clear s0 s1; have S := Lib.hid (S.out.step hb); clear hb; obtain ⟨a0, a1, b0, b1, c0, c1⟩ := J.out.cells; obtain ⟨s0, s1⟩ := S.out.cells
  go_wp2_with fail
  go_at_call 41; refine (BC.out _).mono ?_; rintro e wn ⟨rfl, hb⟩; clear a0 a1 b0 b1 c0 c1; have J := Lib.hid (J.out.step hb); clear s0 s1; have S := Lib.hid (S.out.step hb); clear hb; obtain ⟨a0, a1, b0, b1, c0, c1⟩ := J.out.cells; obtain ⟨s0, s1⟩ := S.out.cells
  go_wp2_with fail
  go_at_call 41; refine (AC.out _).mono ?_; rintro e wn ⟨rfl, hb⟩; clear a0 a1 b0 b1 c0 c1; have J := Lib.hid (J.out.step hb); clear s0 s1; have S := Lib.hid (S.out.step hb); clear hb; obtain ⟨a0, a1, b0, b1, c0, c1⟩ := J.out.cells; obtain ⟨s0, s1⟩ := S.out.cells
  go_wp2_with fail
  go_at_call 32; refine (HA.out _).mono ?_; rintro e wn ⟨rfl, hb⟩; clear a0 a1 b0 b1 c0 c1; have J := Lib.hid (J.out.step hb); clear s0 s1; have S := Lib.hid (S.out.step hb); clear hb; obtain ⟨a0, a1, b0, b1, c0, c1⟩ := J.out.cells; obtain ⟨s0, s1⟩ := S.out.cells
  go_wp2_with fail
  go_at_call 32; refine (HC.out _).mono ?_; rintro e wn ⟨rfl, hb⟩; clear a0 a1 b0 b1 c0 c1; have J := Lib.hid (J.out.step hb); clear s0 s1; have S := Lib.hid (S.out.step hb); clear hb; obtain ⟨a0, a1, b0, b1, c0, c1⟩ := J.out.cells; obtain ⟨s0, s1⟩ := S.out.cells
  go_wp2_with fail
  go_ret
  exact ⟨rfl, J.out.below⟩

set_option maxHeartbeats 2000000 in
theorem joins_1011 (a a' b b' c c' v x y : ByteArray) (w : World)  (z3 : v.size ≤ 3000)
    (GA : Says 27 #[spv a a'] (.bool false)) (GB : Says 27 #[spv b b'] (.bool false)) (GC : Says 27 #[spv c c'] (.bool false))
    (JN : Says 40 #[spv a a', spv b b'] (spv x y))
    (MA : Says 30 #[spv a a'] (.bool true))
    (MB : Says 30 #[spv b b'] (.bool true))
    (HA : Says 32 #[spv a a', .string v] (.bool true))
    (HS : Says 32 #[spv x y, .string v] (.bool true))
    (WA : Says 41 #[spv a a', spv x y] (.bool true))
    (WB : Says 41 #[spv b b', spv x y] (.bool true))
    (AC : Says 41 #[spv a a', spv c c'] (.bool true))
    (BC : Says 41 #[spv b b', spv c c'] (.bool true))
    (SC : Says 41 #[spv x y, spv c c'] (.bool true))
    (HC : Says 32 #[spv c c', .string v] (.bool true)) :
    Calls Try.prog 12 #[spv a a', spv b b', spv c c', .string v] w fun e w' => e = .returned (.bool true) ∧ Below w.heap.size w w' := by
  have z3' : (v.size : Int) ≤ 3000 := by omega
  have J := Lib.hid (TC.start w a a' b b' c c')
  obtain ⟨a0, a1, b0, b1, c0, c1⟩ := J.out.cells
  have GA := Lib.hid GA; have GB := Lib.hid GB; have GC := Lib.hid GC; have JN := Lib.hid JN; have MA := Lib.hid MA; have MB := Lib.hid MB; have HA := Lib.hid HA; have HS := Lib.hid HS; have WA := Lib.hid WA; have WB := Lib.hid WB; have AC := Lib.hid AC; have BC := Lib.hid BC; have SC := Lib.hid SC; have HC := Lib.hid HC; have FX := Lib.hid sfixed_any
  go_enter Try.func12, Try.ntmps12
  go_wp2_with fail
  go_at_call 27; refine (GA.out _).mono ?_; rintro e wn ⟨rfl, hb⟩; clear a0 a1 b0 b1 c0 c1; have J := Lib.hid (J.out.step hb); clear hb; obtain ⟨a0, a1, b0, b1, c0, c1⟩ := J.out.cells
  go_wp2_with fail
  go_at_call 27; refine (GB.out _).mono ?_; rintro e wn ⟨rfl, hb⟩; clear a0 a1 b0 b1 c0 c1; have J := Lib.hid (J.out.step hb); clear hb; obtain ⟨a0, a1, b0, b1, c0, c1⟩ := J.out.cells
  go_wp2_with fail
  go_at_call 27; refine (GC.out _).mono ?_; rintro e wn ⟨rfl, hb⟩; clear a0 a1 b0 b1 c0 c1; have J := Lib.hid (J.out.step hb); clear hb; obtain ⟨a0, a1, b0, b1, c0, c1⟩ := J.out.cells
  go_wp2_with fail
  go_at_call 40; refine (JN.out _).mono ?_; rintro e wn ⟨rfl, hb⟩; clear a0 a1 b0 b1 c0 c1; have J := Lib.hid (J.out.step hb); clear hb; obtain ⟨a0, a1, b0, b1, c0, c1⟩ := J.out.cells
  have S := Lib.hid (Bx.new wn x y)
  have J := Lib.hid (TC.step J.out (Below.alloc (Below.refl _ wn) (Nat.le_refl _) (.cells #[.string x, .string y] 37)))
  clear a0 a1 b0 b1 c0 c1; obtain ⟨a0, a1, b0, b1, c0, c1⟩ := J.out.cells; obtain ⟨s0, s1⟩ := S.out.cells
  go_wp2_with fail
  go_at_call 30; refine (MA.out _).mono ?_; rintro e wn ⟨rfl, hb⟩; clear a0 a1 b0 b1 c0 c1; have J := Lib.hid (J.out.step hb); clear s0 s1; have S := Lib.hid (S.out.step hb); clear hb; obtain ⟨a0, a1, b0, b1, c0, c1⟩ := J.out.cells; obtain ⟨s0, s1⟩ := S.out.cells
  go_wp2_with fail
  go_at_call 30; refine (MB.out _).mono ?_; rintro e wn ⟨rfl, hb⟩; clear a0 a1 b0 b1 c0 c1; have J := Lib.hid (J.out.step hb); clear s0 s1; have S := Lib.hid (S.out.step hb); clear hb; obtain ⟨a0, a1, b0, b1, c0, c1⟩ := J.out.cells; obtain ⟨s0, s1⟩ := S.out.cells
  go_wp2_with fail
  go_at_call 32; refine (HA.out _).mono ?_; rintro e wn ⟨rfl, hb⟩; clear a0 a1 b0 b1 c0 c1; have J := Lib.hid (J.out.step hb); clear s0 s1; have S := Lib.hid (S.out.step hb); clear hb; obtain ⟨a0, a1, b0, b1, c0, c1⟩ := J.out.cells; obtain ⟨s0, s1⟩ := S.out.cells
  go_wp2_with fail
  go_at_call 32; refine (HS.out _).mono ?_; rintro e wn ⟨rfl, hb⟩; clear a0 a1 b0 b1 c0 c1; have J := Lib.hid (J.out.step hb); clear s0 s1; have S := Lib.hid (S.out.step hb); clear hb; obtain ⟨a0, a1, b0, b1, c0, c1⟩ := J.out.cells; obtain ⟨s0, s1⟩ := S.out.cells
  go_wp2_with fail
  go_at_call 41; refine (WA.out _).mono ?_; rintro e wn ⟨rfl, hb⟩; clear a0 a1 b0 b1 c0 c1; have J := Lib.hid (J.out.step hb); clear s0 s1; have S := Lib.hid (S.out.step hb); clear hb; obtain ⟨a0, a1, b0, b1, c0, c1⟩ := J.out.cells; obtain ⟨s0, s1⟩ := S.out.cells
  go_wp2_with fail
  go_at_call 41; refine (WB.out _).mono ?_; rintro e wn ⟨rfl, hb⟩; clear a0 a1 b0 b1 c0 c1; have J := Lib.hid (J.out.step hb); clear s0 s1; have S := Lib.hid (S.out.step hb); clear hb; obtain ⟨a0, a1, b0, b1, c0, c1⟩ := J.out.cells; obtain ⟨s0, s1⟩ := S.out.cells
  go_wp2_with fail
  go_at_call 28; refine (FX.out _).mono ?_; rintro e wn ⟨rfl, hb⟩; clear a0 a1 b0 b1 c0 c1; have J := Lib.hid (J.out.step hb); clear s0 s1; have S := Lib.hid (S.out.step hb); clear hb; obtain ⟨a0, a1, b0, b1, c0, c1⟩ := J.out.cells; obtain ⟨s0, s1⟩ := S.out.cells
  go_wp2_with fail
  go_at_call 41; refine (AC.out _).mono ?_; rintro e wn ⟨rfl, hb⟩; clear a0 a1 b0 b1 c0 c1; have J := Lib.hid (J.out.step hb); clear s0 s1; have S := Lib.hid (S.out.step hb); clear hb; obtain ⟨a0, a1, b0, b1, c0, c1⟩ := J.out.cells; obtain ⟨s0, s1⟩ := S.out.cells
  go_wp2_with fail
  go_at_call 41; refine (BC.out _).mono ?_; rintro e wn ⟨rfl, hb⟩; clear a0 a1 b0 b1 c0 c1; have J := Lib.hid (J.out.step hb); clear s0 s1; have S := Lib.hid (S.out.step hb); clear hb; obtain ⟨a0, a1, b0, b1, c0, c1⟩ := J.out.cells; obtain ⟨s0, s1⟩ := S.out.cells
  go_wp2_with fail
  go_at_call 41; refine (SC.out _).mono ?_; rintro e wn ⟨rfl, hb⟩; clear a0 a1 b0 b1 c0 c1; have J := Lib.hid (J.out.step hb); clear s0 s1; have S := Lib.hid (S.out.step hb); clear hb; obtain ⟨a0, a1, b0, b1, c0, c1⟩ := J.out.cells; obtain ⟨s0, s1⟩ := S.out.cells
  go_wp2_with fail
  go_at_call 41; refine (AC.out _).mono ?_; rintro e wn ⟨rfl, hb⟩; clear a0 a1 b0 b1 c0 c1; have J := Lib.hid (J.out.step hb); clear s0 s1; have S := Lib.hid (S.out.step hb); clear hb; obtain ⟨a0, a1, b0, b1, c0, c1⟩ := J.out.cells; obtain ⟨s0, s1⟩ := S.out.cells
  go_wp2_with fail
  go_at_call 32; refine (HA.out _).mono ?_; rintro e wn ⟨rfl, hb⟩; clear a0 a1 b0 b1 c0 c1; have J := Lib.hid (J.out.step hb); clear s0 s1; have S := Lib.hid (S.out.step hb); clear hb; obtain ⟨a0, a1, b0, b1, c0, c1⟩ := J.out.cells; obtain ⟨s0, s1⟩ := S.out.cells
  go_wp2_with fail
  go_at_call 32; refine (HC.out _).mono ?_; rintro e wn ⟨rfl, hb⟩; clear a0 a1 b0 b1 c0 c1; have J := Lib.hid (J.out.step hb); clear s0 s1; have S := Lib.hid (S.out.step hb); clear hb; obtain ⟨a0, a1, b0, b1, c0, c1⟩ := J.out.cells; obtain ⟨s0, s1⟩ := S.out.cells
  go_wp2_with fail
  go_ret
  exact ⟨rfl, J.out.below⟩

set_option maxHeartbeats 2000000 in
theorem joins_0100 (a a' b b' c c' v x y : ByteArray) (w : World)  (z3 : v.size ≤ 3000)
    (GA : Says 27 #[spv a a'] (.bool false)) (GB : Says 27 #[spv b b'] (.bool false)) (GC : Says 27 #[spv c c'] (.bool false))
    (JN : Says 40 #[spv a a', spv b b'] (spv x y))
    (MA : Says 30 #[spv a a'] (.bool true))
    (MB : Says 30 #[spv b b'] (.bool true))
    (HA : Says 32 #[spv a a', .string v] (.bool false))
    (HB : Says 32 #[spv b b', .string v] (.bool true))
    (HS : Says 32 #[spv x y, .string v] (.bool true))
    (WA : Says 41 #[spv a a', spv x y] (.bool true))
    (WB : Says 41 #[spv b b', spv x y] (.bool true))
    (AC : Says 41 #[spv a a', spv c c'] (.bool false)) :
    Calls Try.prog 12 #[spv a a', spv b b', spv c c', .string v] w fun e w' => e = .returned (.bool true) ∧ Below w.heap.size w w' := by
  have z3' : (v.size : Int) ≤ 3000 := by omega
  have J := Lib.hid (TC.start w a a' b b' c c')
  obtain ⟨a0, a1, b0, b1, c0, c1⟩ := J.out.cells
  have GA := Lib.hid GA; have GB := Lib.hid GB; have GC := Lib.hid GC; have JN := Lib.hid JN; have MA := Lib.hid MA; have MB := Lib.hid MB; have HA := Lib.hid HA; have HB := Lib.hid HB; have HS := Lib.hid HS; have WA := Lib.hid WA; have WB := Lib.hid WB; have AC := Lib.hid AC; have FX := Lib.hid sfixed_any
  go_enter Try.func12, Try.ntmps12
  go_wp2_with fail
  go_at_call 27; refine (GA.out _).mono ?_; rintro e wn ⟨rfl, hb⟩; clear a0 a1 b0 b1 c0 c1; have J := Lib.hid (J.out.step hb); clear hb; obtain ⟨a0, a1, b0, b1, c0, c1⟩ := J.out.cells
  go_wp2_with fail
  go_at_call 27; refine (GB.out _).mono ?_; rintro e wn ⟨rfl, hb⟩; clear a0 a1 b0 b1 c0 c1; have J := Lib.hid (J.out.step hb); clear hb; obtain ⟨a0, a1, b0, b1, c0, c1⟩ := J.out.cells
  go_wp2_with fail
  go_at_call 27; refine (GC.out _).mono ?_; rintro e wn ⟨rfl, hb⟩; clear a0 a1 b0 b1 c0 c1; have J := Lib.hid (J.out.step hb); clear hb; obtain ⟨a0, a1, b0, b1, c0, c1⟩ := J.out.cells
  go_wp2_with fail
  go_at_call 40; refine (JN.out _).mono ?_; rintro e wn ⟨rfl, hb⟩; clear a0 a1 b0 b1 c0 c1; have J := Lib.hid (J.out.step hb); clear hb; obtain ⟨a0, a1, b0, b1, c0, c1⟩ := J.out.cells
  have S := Lib.hid (Bx.new wn x y)
  have J := Lib.hid (TC.step J.out (Below.alloc (Below.refl _ wn) (Nat.le_refl _) (.cells #[.string x, .string y] 37)))
  clear a0 a1 b0 b1 c0 c1; obtain ⟨a0, a1, b0, b1, c0, c1⟩ := J.out.cells; obtain ⟨s0, s1⟩ := S.out.cells
  go_wp2_with fail
  go_at_call 30; refine (MA.out _).mono ?_; rintro e wn ⟨rfl, hb⟩; clear a0 a1 b0 b1 c0 c1; have J := Lib.hid (J.out.step hb); clear s0 s1; have S := Lib.hid (S.out.step hb); clear hb; obtain ⟨a0, a1, b0, b1, c0, c1⟩ := J.out.cells; obtain ⟨s0, s1⟩ := S.out.cells
  go_wp2_with fail
  go_at_call 30; refine (MB.out _).mono ?_; rintro e wn ⟨rfl, hb⟩; clear a0 a1 b0 b1 c0 c1; have J := Lib.hid (J.out.step hb); clear s0 s1; have S := Lib.hid (S.out.step hb); clear hb; obtain ⟨a0, a1, b0, b1, c0, c1⟩ := J.out.cells; obtain ⟨s0, s1⟩ := S.out.cells
  go_wp2_with fail
  go_at_call 32; refine (HA.out _).mono ?_; rintro e wn ⟨rfl, hb⟩; clear a0 a1 b0 b1 c0 c1; have J := Lib.hid (J.out.step hb); clear s0 s1; have S := Lib.hid (S.out.step hb); clear hb; obtain ⟨a0, a1, b0, b1, c0, c1⟩ := J.out.cells; obtain ⟨s0, s1⟩ := S.out.cells
  go_wp2_with fail
  go_at_call 32; refine (HB.out _).mono ?_; rintro e wn ⟨rfl, hb⟩; clear a0 a1 b0 b1 c0 c1; have J := Lib.hid (J.out.step hb); clear s0 s1; have S := Lib.hid (S.out.step hb); clear hb; obtain ⟨a0, a1, b0, b1, c0, c1⟩ := J.out.cells; obtain ⟨s0, s1⟩ := S.out.cells
  go_wp2_with fail
  go_at_call 32; refine (HS.out _).mono ?_; rintro e wn ⟨rfl, hb⟩; clear a0 a1 b0 b1 c0 c1; have J := Lib.hid (J.out.step hb); clear s0 s1; have S := Lib.hid (S.out.step hb); clear hb; obtain ⟨a0, a1, b0, b1, c0, c1⟩ := J.out.cells; obtain ⟨s0, s1⟩ := S.out.cells
  go_wp2_with fail
  go_at_call 41; refine (WA.out _).mono ?_; rintro e wn ⟨rfl, hb⟩; clear a0 a1 b0 b1 c0 c1; have J := Lib.hid (J.out.step hb); clear s0 s1; have S := Lib.hid (S.out.step hb); clear hb; obtain ⟨a0, a1, b0, b1, c0, c1⟩ := J.out.cells; obtain ⟨s0, s1⟩ := S.out.cells
  go_wp2_with fail
  go_at_call 41; refine (WB.out _).mono ?_; rintro e wn ⟨rfl, hb⟩; clear a0 a1 b0 b1 c0 c1; have J := Lib.hid (J.out.step hb); clear s0 s1; have S := Lib.hid (S.out.step hb); clear hb; obtain ⟨a0, a1, b0, b1, c0, c1⟩ := J.out.cells; obtain ⟨s0, s1⟩ := S.out.cells
  go_wp2_with fail
  go_at_call 28; refine (FX.out _).mono ?_; rintro e wn ⟨rfl, hb⟩; clear a0 a1 b0 b1 c0 c1; have J := Lib.hid (J.out.step hb); clear s0 s1; have S := Lib.hid (S.out.step hb); clear hb; obtain ⟨a0, a1, b0, b1, c0, c1⟩ := J.out.cells; obtain ⟨s0, s1⟩ := S.out.cells
  go_wp2_with fail
  go_at_call 41; refine (AC.out _).mono ?_; rintro e wn ⟨rfl, hb⟩; clear a0 a1 b0 b1 c0 c1; have J := Lib.hid (J.out.step hb); clear s0 s1; have S := Lib.hid (S.out.step hb); clear hb; obtain ⟨a0, a1, b0, b1, c0, c1⟩ := J.out.cells; obtain ⟨s0, s1⟩ := S.out.cells
  go_wp2_with fail
  go_at_call 41; refine (AC.out _).mono ?_; rintro e wn ⟨rfl, hb⟩; clear a0 a1 b0 b1 c0 c1; have J := Lib.hid (J.out.step hb); clear s0 s1; have S := Lib.hid (S.out.step hb); clear hb; obtain ⟨a0, a1, b0, b1, c0, c1⟩ := J.out.cells; obtain ⟨s0, s1⟩ := S.out.cells
  go_wp2_with fail
  go_ret
  exact ⟨rfl, J.out.below⟩

set_option maxHeartbeats 2000000 in
theorem joins_0110 (a a' b b' c c' v x y : ByteArray) (w : World)  (z3 : v.size ≤ 3000)
    (GA : Says 27 #[spv a a'] (.bool false)) (GB : Says 27 #[spv b b'] (.bool false)) (GC : Says 27 #[spv c c'] (.bool false))
    (JN : Says 40 #[spv a a', spv b b'] (spv x y))
    (MA : Says 30 #[spv a a'] (.bool true))
    (MB : Says 30 #[spv b b'] (.bool true))
    (HA : Says 32 #[spv a a', .string v] (.bool false))
    (HB : Says 32 #[spv b b', .string v] (.bool true))
    (HS : Says 32 #[spv x y, .string v] (.bool true))
    (WA : Says 41 #[spv a a', spv x y] (.bool true))
    (WB : Says 41 #[spv b b', spv x y] (.bool true))
    (AC : Says 41 #[spv a a', spv c c'] (.bool true))
    (BC : Says 41 #[spv b b', spv c c'] (.bool false)) :
    Calls Try.prog 12 #[spv a a', spv b b', spv c c', .string v] w fun e w' => e = .returned (.bool true) ∧ Below w.heap.size w w' := by
  have z3' : (v.size : Int) ≤ 3000 := by omega
  have J := Lib.hid (TC.start w a a' b b' c c')
  obtain ⟨a0, a1, b0, b1, c0, c1⟩ := J.out.cells
  have GA := Lib.hid GA; have GB := Lib.hid GB; have GC := Lib.hid GC; have JN := Lib.hid JN; have MA := Lib.hid MA; have MB := Lib.hid MB; have HA := Lib.hid HA; have HB := Lib.hid HB; have HS := Lib.hid HS; have WA := Lib.hid WA; have WB := Lib.hid WB; have AC := Lib.hid AC; have BC := Lib.hid BC; have FX := Lib.hid sfixed_any
  go_enter Try.func12, Try.ntmps12
  go_wp2_with fail
  go_at_call 27; refine (GA.out _).mono ?_; rintro e wn ⟨rfl, hb⟩; clear a0 a1 b0 b1 c0 c1; have J := Lib.hid (J.out.step hb); clear hb; obtain ⟨a0, a1, b0, b1, c0, c1⟩ := J.out.cells
  go_wp2_with fail
  go_at_call 27; refine (GB.out _).mono ?_; rintro e wn ⟨rfl, hb⟩; clear a0 a1 b0 b1 c0 c1; have J := Lib.hid (J.out.step hb); clear hb; obtain ⟨a0, a1, b0, b1, c0, c1⟩ := J.out.cells
  go_wp2_with fail
  go_at_call 27; refine (GC.out _).mono ?_; rintro e wn ⟨rfl, hb⟩; clear a0 a1 b0 b1 c0 c1; have J := Lib.hid (J.out.step hb); clear hb; obtain ⟨a0, a1, b0, b1, c0, c1⟩ := J.out.cells
  go_wp2_with fail
  go_at_call 40; refine (JN.out _).mono ?_; rintro e wn ⟨rfl, hb⟩; clear a0 a1 b0 b1 c0 c1; have J := Lib.hid (J.out.step hb); clear hb; obtain ⟨a0, a1, b0, b1, c0, c1⟩ := J.out.cells
  have S := Lib.hid (Bx.new wn x y)
  have J := Lib.hid (TC.step J.out (Below.alloc (Below.refl _ wn) (Nat.le_refl _) (.cells #[.string x, .string y] 37)))
  clear a0 a1 b0 b1 c0 c1; obtain ⟨a0, a1, b0, b1, c0, c1⟩ := J.out.cells; obtain ⟨s0, s1⟩ := S.out.cells
  go_wp2_with fail
  go_at_call 30; refine (MA.out _).mono ?_; rintro e wn ⟨rfl, hb⟩; clear a0 a1 b0 b1 c0 c1; have J := Lib.hid (J.out.step hb); clear s0 s1; have S := Lib.hid (S.out.step hb); clear hb; obtain ⟨a0, a1, b0, b1, c0, c1⟩ := J.out.cells; obtain ⟨s0, s1⟩ := S.out.cells
  go_wp2_with fail
  go_at_call 30; refine (MB.out _).mono ?_; rintro e wn ⟨rfl, hb⟩; clear a0 a1 b0 b1 c0 c1; have J := Lib.hid (J.out.step hb); clear s0 s1; have S := Lib.hid (S.out.step hb); clear hb; obtain ⟨a0, a1, b0, b1, c0, c1⟩ := J.out.cells; obtain ⟨s0, s1⟩ := S.out.cells
  go_wp2_with fail
  go_at_call 32; refine (HA.out _).mono ?_; rintro e wn ⟨rfl, hb⟩; clear a0 a1 b0 b1 c0 c1; have J := Lib.hid (J.out.step hb); clear s0 s1; have S := Lib.hid (S.out.step hb); clear hb; obtain ⟨a0, a1, b0, b1, c0, c1⟩ := J.out.cells; obtain ⟨s0, s1⟩ := S.out.cells
  go_wp2_with fail
  go_at_call 32; refine (HB.out _).mono ?_; rintro e wn ⟨rfl, hb⟩; clear a0 a1 b0 b1 c0 c1; have J := Lib.hid (J.out.step hb); clear s0 s1; have S := Lib.hid (S.out.step hb); clear hb; obtain ⟨a0, a1, b0, b1, c0, c1⟩ := J.out.cells; obtain ⟨s0, s1⟩ := S.out.cells
  go_wp2_with fail
  go_at_call 32; refine (HS.out _).mono ?_; rintro e wn ⟨rfl, hb⟩; clear a0 a1 b0 b1 c0 c1; have J := Lib.hid (J.out.step hb); clear s0 s1; have S := Lib.hid (S.out.step hb); clear hb; obtain ⟨a0, a1, b0, b1, c0, c1⟩ := J.out.cells; obtain ⟨s0, s1⟩ := S.out.cells
  go_wp2_with fail
  go_at_call 41; refine (WA.out _).mono ?_; rintro e wn ⟨rfl, hb⟩; clear a0 a1 b0 b1 c0 c1; have J := Lib.hid (J.out.step hb); clear s0 s1; have S := Lib.hid (S.out.step hb); clear hb; obtain ⟨a0, a1, b0, b1, c0, c1⟩ := J.out.cells; obtain ⟨s0, s1⟩ := S.out.cells
  go_wp2_with fail
  go_at_call 41; refine (WB.out _).mono ?_; rintro e wn ⟨rfl, hb⟩; clear a0 a1 b0 b1 c0 c1; have J := Lib.hid (J.out.step hb); clear s0 s1; have S := Lib.hid (S.out.step hb); clear hb; obtain ⟨a0, a1, b0, b1, c0, c1⟩ := J.out.cells; obtain ⟨s0, s1⟩ := S.out.cells
  go_wp2_with fail
  go_at_call 28; refine (FX.out _).mono ?_; rintro e wn ⟨rfl, hb⟩; clear a0 a1 b0 b1 c0 c1; have J := Lib.hid (J.out.step hb); clear s0 s1; have S := Lib.hid (S.out.step hb); clear hb; obtain ⟨a0, a1, b0, b1, c0, c1⟩ := J.out.cells; obtain ⟨s0, s1⟩ := S.out.cells
  go_wp2_with fail
  go_at_call 41; refine (AC.out _).mono ?_; rintro e wn ⟨rfl, hb⟩; clear a0 a1 b0 b1 c0 c1; have J := Lib.hid (J.out.step hb); clear s0 s1; have S := Lib.hid (S.out.step hb); clear hb; obtain ⟨a0, a1, b0, b1, c0, c1⟩ := J.out.cells; obtain ⟨s0, s1⟩ := S.out.cells
  go_wp2_with fail
  go_at_call 41; refine (BC.out _).mono ?_; rintro e wn ⟨rfl, hb⟩; clear a0 a1 b0 b1 c0 c1; have J := Lib.hid (J.out.step hb); clear s0 s1; have S := Lib.hid (S.out.step hb); clear hb; obtain ⟨a0, a1, b0, b1, c0, c1⟩ := J.out.cells; obtain ⟨s0, s1⟩ := S.out.cells
  go_wp2_with fail
  go_at_call 41; refine (AC.out _).mono ?_; rintro e wn ⟨rfl, hb⟩; clear a0 a1 b0 b1 c0 c1; have J := Lib.hid (J.out.step hb); clear s0 s1; have S := Lib.hid (S.out.step hb); clear hb; obtain ⟨a0, a1, b0, b1, c0, c1⟩ := J.out.cells; obtain ⟨s0, s1⟩ := S.out.cells
  go_wp2_with fail
  go_at_call 32; refine (HA.out _).mono ?_; rintro e wn ⟨rfl, hb⟩; clear a0 a1 b0 b1 c0 c1; have J := Lib.hid (J.out.step hb); clear s0 s1; have S := Lib.hid (S.out.step hb); clear hb; obtain ⟨a0, a1, b0, b1, c0, c1⟩ := J.out.cells; obtain ⟨s0, s1⟩ := S.out.cells
  go_wp2_with fail
  go_ret
  exact ⟨rfl, J.out.below⟩

set_option maxHeartbeats 2000000 in
theorem joins_0111 (a a' b b' c c' v x y : ByteArray) (w : World)  (z3 : v.size ≤ 3000)
    (GA : Says 27 #[spv a a'] (.bool false)) (GB : Says 27 #[spv b b'] (.bool false)) (GC : Says 27 #[spv c c'] (.bool false))
    (JN : Says 40 #[spv a a', spv b b'] (spv x y))
    (MA : Says 30 #[spv a a'] (.bool true))
    (MB : Says 30 #[spv b b'] (.bool true))
    (HA : Says 32 #[spv a a', .string v] (.bool false))
    (HB : Says 32 #[spv b b', .string v] (.bool true))
    (HS : Says 32 #[spv x y, .string v] (.bool true))
    (WA : Says 41 #[spv a a', spv x y] (.bool true))
    (WB : Says 41 #[spv b b', spv x y] (.bool true))
    (AC : Says 41 #[spv a a', spv c c'] (.bool true))
    (BC : Says 41 #[spv b b', spv c c'] (.bool true))
    (SC : Says 41 #[spv x y, spv c c'] (.bool true)) :
    Calls Try.prog 12 #[spv a a', spv b b', spv c c', .string v] w fun e w' => e = .returned (.bool true) ∧ Below w.heap.size w w' := by
  have z3' : (v.size : Int) ≤ 3000 := by omega
  have J := Lib.hid (TC.start w a a' b b' c c')
  obtain ⟨a0, a1, b0, b1, c0, c1⟩ := J.out.cells
  have GA := Lib.hid GA; have GB := Lib.hid GB; have GC := Lib.hid GC; have JN := Lib.hid JN; have MA := Lib.hid MA; have MB := Lib.hid MB; have HA := Lib.hid HA; have HB := Lib.hid HB; have HS := Lib.hid HS; have WA := Lib.hid WA; have WB := Lib.hid WB; have AC := Lib.hid AC; have BC := Lib.hid BC; have SC := Lib.hid SC; have FX := Lib.hid sfixed_any
  go_enter Try.func12, Try.ntmps12
  go_wp2_with fail
  go_at_call 27; refine (GA.out _).mono ?_; rintro e wn ⟨rfl, hb⟩; clear a0 a1 b0 b1 c0 c1; have J := Lib.hid (J.out.step hb); clear hb; obtain ⟨a0, a1, b0, b1, c0, c1⟩ := J.out.cells
  go_wp2_with fail
  go_at_call 27; refine (GB.out _).mono ?_; rintro e wn ⟨rfl, hb⟩; clear a0 a1 b0 b1 c0 c1; have J := Lib.hid (J.out.step hb); clear hb; obtain ⟨a0, a1, b0, b1, c0, c1⟩ := J.out.cells
  go_wp2_with fail
  go_at_call 27; refine (GC.out _).mono ?_; rintro e wn ⟨rfl, hb⟩; clear a0 a1 b0 b1 c0 c1; have J := Lib.hid (J.out.step hb); clear hb; obtain ⟨a0, a1, b0, b1, c0, c1⟩ := J.out.cells
  go_wp2_with fail
  go_at_call 40; refine (JN.out _).mono ?_; rintro e wn ⟨rfl, hb⟩; clear a0 a1 b0 b1 c0 c1; have J := Lib.hid (J.out.step hb); clear hb; obtain ⟨a0, a1, b0, b1, c0, c1⟩ := J.out.cells
  have S := Lib.hid (Bx.new wn x y)
  have J := Lib.hid (TC.step J.out (Below.alloc (Below.refl _ wn) (Nat.le_refl _) (.cells #[.string x, .string y] 37)))
  clear a0 a1 b0 b1 c0 c1; obtain ⟨a0, a1, b0, b1, c0, c1⟩ := J.out.cells; obtain ⟨s0, s1⟩ := S.out.cells
  go_wp2_with fail
  go_at_call 30; refine (MA.out _).mono ?_; rintro e wn ⟨rfl, hb⟩; clear a0 a1 b0 b1 c0 c1; have J := Lib.hid (J.out.step hb); clear s0 s1; have S := Lib.hid (S.out.step hb); clear hb; obtain ⟨a0, a1, b0, b1, c0, c1⟩ := J.out.cells; obtain ⟨s0, s1⟩ := S.out.cells
  go_wp2_with fail
  go_at_call 30; refine (MB.out _).mono ?_; rintro e wn ⟨rfl, hb⟩; clear a0 a1 b0 b1 c0 c1; have J := Lib.hid (J.out.step hb); clear s0 s1; have S := Lib.hid (S.out.step hb); clear hb; obtain ⟨a0, a1, b0, b1, c0, c1⟩ := J.out.cells; obtain ⟨s0, s1⟩ := S.out.cells
  go_wp2_with fail
  go_at_call 32; refine (HA.out _).mono ?_; rintro e wn ⟨rfl, hb⟩; clear a0 a1 b0 b1 c0 c1; have J := Lib.hid (J.out.step hb); clear s0 s1; have S := Lib.hid (S.out.step hb); clear hb; obtain ⟨a0, a1, b0, b1, c0, c1⟩ := J.out.cells; obtain ⟨s0, s1⟩ := S.out.cells
  go_wp2_with fail
  go_at_call 32; refine (HB.out _).mono ?_; rintro e wn ⟨rfl, hb⟩; clear a0 a1 b0 b1 c0 c1; have J := Lib.hid (J.out.step hb); clear s0 s1; have S := Lib.hid (S.out.step hb); clear hb; obtain ⟨a0, a1, b0, b1, c0, c1⟩ := J.out.cells; obtain ⟨s0, s1⟩ := S.out.cells
  go_wp2_with fail
  go_at_call 32; refine (HS.out _).mono ?_; rintro e wn ⟨rfl, hb⟩; clear a0 a1 b0 b1 c0 c1; have J := Lib.hid (J.out.step hb); clear s0 s1; have S := Lib.hid (S.out.step hb); clear hb; obtain ⟨a0, a1, b0, b1, c0, c1⟩ := J.out.cells; obtain ⟨s0, s1⟩ := S.out.cells
  go_wp2_with fail
  go_at_call 41; refine (WA.out _).mono ?_; rintro e wn ⟨rfl, hb⟩; clear a0 a1 b0 b1 c0 c1; have J := Lib.hid (J.out.step hb); clear s0 s1; have S := Lib.hid (S.out.step hb); clear hb; obtain ⟨a0, a1, b0, b1, c0, c1⟩ := J.out.cells; obtain ⟨s0, s1⟩ := S.out.cells
  go_wp2_with fail
  go_at_call 41; refine (WB.out _).mono ?_; rintro e wn ⟨rfl, hb⟩; clear a0 a1 b0 b1 c0 c1; have J := Lib.hid (J.out.step hb); clear s0 s1; have S := Lib.hid (S.out.step hb); clear hb; obtain ⟨a0, a1, b0, b1, c0, c1⟩ := J.out.cells; obtain ⟨s0, s1⟩ := S.out.cells
  go_wp2_with fail
  go_at_call 28; refine (FX.out _).mono ?_; rintro e wn ⟨rfl, hb⟩; clear a0 a1 b0 b1 c0 c1; have J := Lib.hid (J.out.step hb); clear s0 s1; have S := Lib.hid (S.out.step hb); clear hb; obtain ⟨a0, a1, b0, b1, c0, c1⟩ := J.out.cells; obtain ⟨s0, s1⟩ := S.out.cells
  go_wp2_with fail
  go_at_call 41; refine (AC.out _).mono ?_; rintro e wn ⟨rfl, hb⟩; clear a0 a1 b0 b1 c0 c1; have J := Lib.hid (J.out.step hb); clear s0 s1; have S := Lib.hid (S.out.step hb); clear hb; obtain ⟨a0, a1, b0, b1, c0, c1⟩ := J.out.cells; obtain ⟨s0, s1⟩ := S.out.cells
  go_wp2_with fail
  go_at_call 41; refine (BC.out _).mono ?_; rintro e wn ⟨rfl, hb⟩; clear a0 a1 b0 b1 c0 c1; have J := Lib.hid (J.out.step hb); clear s0 s1; have S := Lib.hid (S.out.step hb); clear hb; obtain ⟨a0, a1, b0, b1, c0, c1⟩ := J.out.cells; obtain ⟨s0, s1⟩ := S.out.cells
  go_wp2_with fail
  go_at_call 41; refine (SC.out _).mono ?_; rintro e wn ⟨rfl, hb⟩; clear a0 a1 b0 b1 c0 c1; have J := Lib.hid (J.out.step hb); clear s0 s1; have S := Lib.hid (S.out.step hb); clear hb; obtain ⟨a0, a1, b0, b1, c0, c1⟩ := J.out.cells; obtain ⟨s0, s1⟩ := S.out.cells
  go_wp2_with fail
  go_at_call 41; refine (AC.out _).mono ?_; rintro e wn ⟨rfl, hb⟩; clear a0 a1 b0 b1 c0 c1; have J := Lib.hid (J.out.step hb); clear s0 s1; have S := Lib.hid (S.out.step hb); clear hb; obtain ⟨a0, a1, b0, b1, c0, c1⟩ := J.out.cells; obtain ⟨s0, s1⟩ := S.out.cells
  go_wp2_with fail
  go_at_call 32; refine (HA.out _).mono ?_; rintro e wn ⟨rfl, hb⟩; clear a0 a1 b0 b1 c0 c1; have J := Lib.hid (J.out.step hb); clear s0 s1; have S := Lib.hid (S.out.step hb); clear hb; obtain ⟨a0, a1, b0, b1, c0, c1⟩ := J.out.cells; obtain ⟨s0, s1⟩ := S.out.cells
  go_wp2_with fail
  go_ret
  exact ⟨rfl, J.out.below⟩

set_option maxHeartbeats 2000000 in
theorem joins_0000 (a a' b b' c c' v x y : ByteArray) (w : World)  (z3 : v.size ≤ 3000)
    (GA : Says 27 #[spv a a'] (.bool false)) (GB : Says 27 #[spv b b'] (.bool false)) (GC : Says 27 #[spv c c'] (.bool false))
    (JN : Says 40 #[spv a a', spv b b'] (spv x y))
    (MA : Says 30 #[spv a a'] (.bool true))
    (MB : Says 30 #[spv b b'] (.bool true))
    (HA : Says 32 #[spv a a', .string v] (.bool false))
    (HB : Says 32 #[spv b b', .string v] (.bool false))
    (WA : Says 41 #[spv a a', spv x y] (.bool true))
    (WB : Says 41 #[spv b b', spv x y] (.bool true))
    (AC : Says 41 #[spv a a', spv c c'] (.bool false)) :
    Calls Try.prog 12 #[spv a a', spv b b', spv c c', .string v] w fun e w' => e = .returned (.bool true) ∧ Below w.heap.size w w' := by
  have z3' : (v.size : Int) ≤ 3000 := by omega
  have J := Lib.hid (TC.start w a a' b b' c c')
  obtain ⟨a0, a1, b0, b1, c0, c1⟩ := J.out.cells
  have GA := Lib.hid GA; have GB := Lib.hid GB; have GC := Lib.hid GC; have JN := Lib.hid JN; have MA := Lib.hid MA; have MB := Lib.hid MB; have HA := Lib.hid HA; have HB := Lib.hid HB; have WA := Lib.hid WA; have WB := Lib.hid WB; have AC := Lib.hid AC; have FX := Lib.hid sfixed_any
  go_enter Try.func12, Try.ntmps12
  go_wp2_with fail
  go_at_call 27; refine (GA.out _).mono ?_; rintro e wn ⟨rfl, hb⟩; clear a0 a1 b0 b1 c0 c1; have J := Lib.hid (J.out.step hb); clear hb; obtain ⟨a0, a1, b0, b1, c0, c1⟩ := J.out.cells
  go_wp2_with fail
  go_at_call 27; refine (GB.out _).mono ?_; rintro e wn ⟨rfl, hb⟩; clear a0 a1 b0 b1 c0 c1; have J := Lib.hid (J.out.step hb); clear hb; obtain ⟨a0, a1, b0, b1, c0, c1⟩ := J.out.cells
  go_wp2_with fail
  go_at_call 27; refine (GC.out _).mono ?_; rintro e wn ⟨rfl, hb⟩; clear a0 a1 b0 b1 c0 c1; have J := Lib.hid (J.out.step hb); clear hb; obtain ⟨a0, a1, b0, b1, c0, c1⟩ := J.out.cells
  go_wp2_with fail
  go_at_call 40; refine (JN.out _).mono ?_; rintro e wn ⟨rfl, hb⟩; clear a0 a1 b0 b1 c0 c1; have J := Lib.hid (J.out.step hb); clear hb; obtain ⟨a0, a1, b0, b1, c0, c1⟩ := J.out.cells
  have S := Lib.hid (Bx.new wn x y)
  have J := Lib.hid (TC.step J.out (Below.alloc (Below.refl _ wn) (Nat.le_refl _) (.cells #[.string x, .string y] 37)))
  clear a0 a1 b0 b1 c0 c1; obtain ⟨a0, a1, b0, b1, c0, c1⟩ := J.out.cells; obtain ⟨s0, s1⟩ := S.out.cells
  go_wp2_with fail
  go_at_call 30; refine (MA.out _).mono ?_; rintro e wn ⟨rfl, hb⟩; clear a0 a1 b0 b1 c0 c1; have J := Lib.hid (J.out.step hb); clear s0 s1; have S := Lib.hid (S.out.step hb); clear hb; obtain ⟨a0, a1, b0, b1, c0, c1⟩ := J.out.cells; obtain ⟨s0, s1⟩ := S.out.cells
  go_wp2_with fail
  go_at_call 30; refine (MB.out _).mono ?_; rintro e wn ⟨rfl, hb⟩; clear a0 a1 b0 b1 c0 c1; have J := Lib.hid (J.out.step hb); clear s0 s1; have S := Lib.hid (S.out.step hb); clear hb; obtain ⟨a0, a1, b0, b1, c0, c1⟩ := J.out.cells; obtain ⟨s0, s1⟩ := S.out.cells
  go_wp2_with fail
  go_at_call 32; refine (HA.out _).mono ?_; rintro e wn ⟨rfl, hb⟩; clear a0 a1 b0 b1 c0 c1; have J := Lib.hid (J.out.step hb); clear s0 s1; have S := Lib.hid (S.out.step hb); clear hb; obtain ⟨a0, a1, b0, b1, c0, c1⟩ := J.out.cells; obtain ⟨s0, s1⟩ := S.out.cells
  go_wp2_with fail
  go_at_call 32; refine (HB.out _).mono ?_; rintro e wn ⟨rfl, hb⟩; clear a0 a1 b0 b1 c0 c1; have J := Lib.hid (J.out.step hb); clear s0 s1; have S := Lib.hid (S.out.step hb); clear hb; obtain ⟨a0, a1, b0, b1, c0, c1⟩ := J.out.cells; obtain ⟨s0, s1⟩ := S.out.cells
  go_wp2_with fail
  go_at_call 41; refine (WA.out _).mono ?_; rintro e wn ⟨rfl, hb⟩; clear a0 a1 b0 b1 c0 c1; have J := Lib.hid (J.out.step hb); clear s0 s1; have S := Lib.hid (S.out.step hb); clear hb; obtain ⟨a0, a1, b0, b1, c0, c1⟩ := J.out.cells; obtain ⟨s0, s1⟩ := S.out.cells
  go_wp2_with fail
  go_at_call 41; refine (WB.out _).mono ?_; rintro e wn ⟨rfl, hb⟩; clear a0 a1 b0 b1 c0 c1; have J := Lib.hid (J.out.step hb); clear s0 s1; have S := Lib.hid (S.out.step hb); clear hb; obtain ⟨a0, a1, b0, b1, c0, c1⟩ := J.out.cells; obtain ⟨s0, s1⟩ := S.out.cells
  go_wp2_with fail
  go_at_call 28; refine (FX.out _).mono ?_; rintro e wn ⟨rfl, hb⟩; clear a0 a1 b0 b1 c0 c1; have J := Lib.hid (J.out.step hb); clear s0 s1; have S := Lib.hid (S.out.step hb); clear hb; obtain ⟨a0, a1, b0, b1, c0, c1⟩ := J.out.cells; obtain ⟨s0, s1⟩ := S.out.cells
  go_wp2_with fail
  go_at_call 41; refine (AC.out _).mono ?_; rintro e wn ⟨rfl, hb⟩; clear a0 a1 b0 b1 c0 c1; have J := Lib.hid (J.out.step hb); clear s0 s1; have S := Lib.hid (S.out.step hb); clear hb; obtain ⟨a0, a1, b0, b1, c0, c1⟩ := J.out.cells; obtain ⟨s0, s1⟩ := S.out.cells
  go_wp2_with fail
  go_at_call 41; refine (AC.out _).mono ?_; rintro e wn ⟨rfl, hb⟩; clear a0 a1 b0 b1 c0 c1; have J := Lib.hid (J.out.step hb); clear s0 s1; have S := Lib.hid (S.out.step hb); clear hb; obtain ⟨a0, a1, b0, b1, c0, c1⟩ := J.out.cells; obtain ⟨s0, s1⟩ := S.out.cells
  go_wp2_with fail
  go_ret
  exact ⟨rfl, J.out.below⟩

set_option maxHeartbeats 2000000 in
theorem joins_0010 (a a' b b' c c' v x y : ByteArray) (w : World)  (z3 : v.size ≤ 3000)
    (GA : Says 27 #[spv a a'] (.bool false)) (GB : Says 27 #[spv b b'] (.bool false)) (GC : Says 27 #[spv c c'] (.bool false))
    (JN : Says 40 #[spv a a', spv b b'] (spv x y))
    (MA : Says 30 #[spv a a'] (.bool true))
    (MB : Says 30 #[spv b b'] (.bool true))
    (HA : Says 32 #[spv a a', .string v] (.bool false))
    (HB : Says 32 #[spv b b', .string v] (.bool false))
    (WA : Says 41 #[spv a a', spv x y] (.bool true))
    (WB : Says 41 #[spv b b', spv x y] (.bool true))
    (AC : Says 41 #[spv a a', spv c c'] (.bool true))
    (BC : Says 41 #[spv b b', spv c c'] (.bool false)) :
    Calls Try.prog 12 #[spv a a', spv b b', spv c c', .string v] w fun e w' => e = .returned (.bool true) ∧ Below w.heap.size w w' := by
  have z3' : (v.size : Int) ≤ 3000 := by omega
  have J := Lib.hid (TC.start w a a' b b' c c')
  obtain ⟨a0, a1, b0, b1, c0, c1⟩ := J.out.cells
  have GA := Lib.hid GA; have GB := Lib.hid GB; have GC := Lib.hid GC; have JN := Lib.hid JN; have MA := Lib.hid MA; have MB := Lib.hid MB; have HA := Lib.hid HA; have HB := Lib.hid HB; have WA := Lib.hid WA; have WB := Lib.hid WB; have AC := Lib.hid AC; have BC := Lib.hid BC; have FX := Lib.hid sfixed_any
  go_enter Try.func12, Try.ntmps12
  go_wp2_with fail
  go_at_call 27; refine (GA.out _).mono ?_; rintro e wn ⟨rfl, hb⟩; clear a0 a1 b0 b1 c0 c1; have J := Lib.hid (J.out.step hb); clear hb; obtain ⟨a0, a1, b0, b1, c0, c1⟩ := J.out.cells
  go_wp2_with fail
  go_at_call 27; refine (GB.out _).mono ?_; rintro e wn ⟨rfl, hb⟩; clear a0 a1 b0 b1 c0 c1; have J := Lib.hid (J.out.step hb); clear hb; obtain ⟨a0, a1, b0, b1, c0, c1⟩ := J.out.cells
  go_wp2_with fail
  go_at_call 27; refine (GC.out _).mono ?_; rintro e wn ⟨rfl, hb⟩; clear a0 a1 b0 b1 c0 c1; have J := Lib.hid (J.out.step hb); clear hb; obtain ⟨a0, a1, b0, b1, c0, c1⟩ := J.out.cells
  go_wp2_with fail
  go_at_call 40; refine (JN.out _).mono ?_; rintro e wn ⟨rfl, hb⟩; clear a0 a1 b0 b1 c0 c1; have J := Lib.hid (J.out.step hb); clear hb; obtain ⟨a0, a1, b0, b1, c0, c1⟩ := J.out.cells
  have S := Lib.hid (Bx.new wn x y)
  have J := Lib.hid (TC.step J.out (Below.alloc (Below.refl _ wn) (Nat.le_refl _) (.cells #[.string x, .string y] 37)))
  clear a0 a1 b0 b1 c0 c1; obtain ⟨a0, a1, b0, b1, c0, c1⟩ := J.out.cells; obtain ⟨s0, s1⟩ := S.out.cells
  go_wp2_with fail
  go_at_call 30; refine (MA.out _).mono ?_; rintro e wn ⟨rfl, hb⟩; clear a0 a1 b0 b1 c0 c1; have J := Lib.hid (J.out.step hb); clear s0 s1; have S := Lib.hid (S.out.step hb); clear hb; obtain ⟨a0, a1, b0, b1, c0, c1⟩ := J.out.cells; obtain ⟨s0, s1⟩ := S.out.cells
  go_wp2_with fail
  go_at_call 30; refine (MB.out _).mono ?_; rintro e wn ⟨rfl, hb⟩; clear a0 a1 b0 b1 c0 c1; have J := Lib.hid (J.out.step hb); clear s0 s1; have S := Lib.hid (S.out.step hb); clear hb; obtain ⟨a0, a1, b0, b1, c0, c1⟩ := J.out.cells; obtain ⟨s0, s1⟩ := S.out.cells
  go_wp2_with fail
  go_at_call 32; refine (HA.out _).mono ?_; rintro e wn ⟨rfl, hb⟩; clear a0 a1 b0 b1 c0 c1; have J := Lib.hid (J.out.step hb); clear s0 s1; have S := Lib.hid (S.out.step hb); clear hb; obtain ⟨a0, a1, b0, b1, c0, c1⟩ := J.out.cells; obtain ⟨s0, s1⟩ := S.out.cells
  go_wp2_with fail
  go_at_call 32; refine (HB.out _).mono ?_; rintro e wn ⟨rfl, hb⟩; clear a0 a1 b0 b1 c0 c1; have J := Lib.hid (J.out.step hb); clear s0 s1; have S := Lib.hid (S.out.step hb); clear hb; obtain ⟨a0, a1, b0, b1, c0, c1⟩ := J.out.cells; obtain ⟨s0, s1⟩ := S.out.cells
  go_wp2_with fail
  go_at_call 41; refine (WA.out _).mono ?_; rintro e wn ⟨rfl, hb⟩; clear a0 a1 b0 b1 c0 c1; have J := Lib.hid (J.out.step hb); clear s0 s1; have S := Lib.hid (S.out.step hb); clear hb; obtain ⟨a0, a1, b0, b1, c0, c1⟩ := J.out.cells; obtain ⟨s0, s1⟩ := S.out.cells
  go_wp2_with fail
  go_at_call 41; refine (WB.out _).mono ?_; rintro e wn ⟨rfl, hb⟩; clear a0 a1 b0 b1 c0 c1; have J := Lib.hid (J.out.step hb); clear s0 s1; have S := Lib.hid (S.out.step hb); clear hb; obtain ⟨a0, a1, b0, b1, c0, c1⟩ := J.out.cells; obtain ⟨s0, s1⟩ := S.out.cells
  go_wp2_with fail
  go_at_call 28; refine (FX.out _).mono ?_; rintro e wn ⟨rfl, hb⟩; clear a0 a1 b0 b1 c0 c1; have J := Lib.hid (J.out.step hb); clear s0 s1; have S := Lib.hid (S.out.step hb); clear hb; obtain ⟨a0, a1, b0, b1, c0, c1⟩ := J.out.cells; obtain ⟨s0, s1⟩ := S.out.cells
  go_wp2_with fail
  go_at_call 41; refine (AC.out _).mono ?_; rintro e wn ⟨rfl, hb⟩; clear a0 a1 b0 b1 c0 c1; have J := Lib.hid (J.out.step hb); clear s0 s1; have S := Lib.hid (S.out.step hb); clear hb; obtain ⟨a0, a1, b0, b1, c0, c1⟩ := J.out.cells; obtain ⟨s0, s1⟩ := S.out.cells
  go_wp2_with fail
  go_at_call 41; refine (BC.out _).mono ?_; rintro e wn ⟨rfl, hb⟩; clear a0 a1 b0 b1 c0 c1; have J := Lib.hid (J.out.step hb); clear s0 s1; have S := Lib.hid (S.out.step hb); clear hb; obtain ⟨a0, a1, b0, b1, c0, c1⟩ := J.out.cells; obtain ⟨s0, s1⟩ := S.out.cells
  go_wp2_with fail
  go_at_call 41; refine (AC.out _).mono ?_; rintro e wn ⟨rfl, hb⟩; clear a0 a1 b0 b1 c0 c1; have J := Lib.hid (J.out.step hb); clear s0 s1; have S := Lib.hid (S.out.step hb); clear hb; obtain ⟨a0, a1, b0, b1, c0, c1⟩ := J.out.cells; obtain ⟨s0, s1⟩ := S.out.cells
  go_wp2_with fail
  go_at_call 32; refine (HA.out _).mono ?_; rintro e wn ⟨rfl, hb⟩; clear a0 a1 b0 b1 c0 c1; have J := Lib.hid (J.out.step hb); clear s0 s1; have S := Lib.hid (S.out.step hb); clear hb; obtain ⟨a0, a1, b0, b1, c0, c1⟩ := J.out.cells; obtain ⟨s0, s1⟩ := S.out.cells
  go_wp2_with fail
  go_ret
  exact ⟨rfl, J.out.below⟩

set_option maxHeartbeats 2000000 in
theorem joins_0011 (a a' b b' c c' v x y : ByteArray) (w : World)  (z3 : v.size ≤ 3000)
    (GA : Says 27 #[spv a a'] (.bool false)) (GB : Says 27 #[spv b b'] (.bool false)) (GC : Says 27 #[spv c c'] (.bool false))
    (JN : Says 40 #[spv a a', spv b b'] (spv x y))
    (MA : Says 30 #[spv a a'] (.bool true))
    (MB : Says 30 #[spv b b'] (.bool true))
    (HA : Says 32 #[spv a a', .string v] (.bool false))
    (HB : Says 32 #[spv b b', .string v] (.bool false))
    (WA : Says 41 #[spv a a', spv x y] (.bool true))
    (WB : Says 41 #[spv b b', spv x y] (.bool true))
    (AC : Says 41 #[spv a a', spv c c'] (.bool true))
    (BC : Says 41 #[spv b b', spv c c'] (.bool true))
    (SC : Says 41 #[spv x y, spv c c'] (.bool true)) :
    Calls Try.prog 12 #[spv a a', spv b b', spv c c', .string v] w fun e w' => e = .returned (.bool true) ∧ Below w.heap.size w w' := by
  have z3' : (v.size : Int) ≤ 3000 := by omega
  have J := Lib.hid (TC.start w a a' b b' c c')
  obtain ⟨a0, a1, b0, b1, c0, c1⟩ := J.out.cells
  have GA := Lib.hid GA; have GB := Lib.hid GB; have GC := Lib.hid GC; have JN := Lib.hid JN; have MA := Lib.hid MA; have MB := Lib.hid MB; have HA := Lib.hid HA; have HB := Lib.hid HB; have WA := Lib.hid WA; have WB := Lib.hid WB; have AC := Lib.hid AC; have BC := Lib.hid BC; have SC := Lib.hid SC; have FX := Lib.hid sfixed_any
  go_enter Try.func12, Try.ntmps12
  go_wp2_with fail
  go_at_call 27; refine (GA.out _).mono ?_; rintro e wn ⟨rfl, hb⟩; clear a0 a1 b0 b1 c0 c1; have J := Lib.hid (J.out.step hb); clear hb; obtain ⟨a0, a1, b0, b1, c0, c1⟩ := J.out.cells
  go_wp2_with fail
  go_at_call 27; refine (GB.out _).mono ?_; rintro e wn ⟨rfl, hb⟩; clear a0 a1 b0 b1 c0 c1; have J := Lib.hid (J.out.step hb); clear hb; obtain ⟨a0, a1, b0, b1, c0, c1⟩ := J.out.cells
  go_wp2_with fail
  go_at_call 27; refine (GC.out _).mono ?_; rintro e wn ⟨rfl, hb⟩; clear a0 a1 b0 b1 c0 c1; have J := Lib.hid (J.out.step hb); clear hb; obtain ⟨a0, a1, b0, b1, c0, c1⟩ := J.out.cells
  go_wp2_with fail
  go_at_call 40; refine (JN.out _).mono ?_; rintro e wn ⟨rfl, hb⟩; clear a0 a1 b0 b1 c0 c1; have J := Lib.hid (J.out.step hb); clear hb; obtain ⟨a0, a1, b0, b1, c0, c1⟩ := J.out.cells
  have S := Lib.hid (Bx.new wn x y)
  have J := Lib.hid (TC.step J.out (Below.alloc (Below.refl _ wn) (Nat.le_refl _) (.cells #[.string x, .string y] 37)))
  clear a0 a1 b0 b1 c0 c1; obtain ⟨a0, a1, b0, b1, c0, c1⟩ := J.out.cells; obtain ⟨s0, s1⟩ := S.out.cells
  go_wp2_with fail
  go_at_call 30; refine (MA.out _).mono ?_; rintro e wn ⟨rfl, hb⟩; clear a0 a1 b0 b1 c0 c1; have J := Lib.hid (J.out.step hb); clear s0 s1; have S := Lib.hid (S.out.step hb); clear hb; obtain ⟨a0, a1, b0, b1, c0, c1⟩ := J.out.cells; obtain ⟨s0, s1⟩ := S.out.cells
  go_wp2_with fail
  go_at_call 30; refine (MB.out _).mono ?_; rintro e wn ⟨rfl, hb⟩; clear a0 a1 b0 b1 c0 c1; have J := Lib.hid (J.out.step hb); clear s0 s1; have S := Lib.hid (S.out.step hb); clear hb; obtain ⟨a0, a1, b0, b1, c0, c1⟩ := J.out.cells; obtain ⟨s0, s1⟩ := S.out.cells
  go_wp2_with fail
  go_at_call 32; refine (HA.out _).mono ?_; rintro e wn ⟨rfl, hb⟩; clear a0 a1 b0 b1 c0 c1; have J := Lib.hid (J.out.step hb); clear s0 s1; have S := Lib.hid (S.out.step hb); clear hb; obtain ⟨a0, a1, b0, b1, c0, c1⟩ := J.out.cells; obtain ⟨s0, s1⟩ := S.out.cells
  go_wp2_with fail
  go_at_call 32; refine (HB.out _).mono ?_; rintro e wn ⟨rfl, hb⟩; clear a0 a1 b0 b1 c0 c1; have J := Lib.hid (J.out.step hb); clear s0 s1; have S := Lib.hid (S.out.step hb); clear hb; obtain ⟨a0, a1, b0, b1, c0, c1⟩ := J.out.cells; obtain ⟨s0, s1⟩ := S.out.cells
  go_wp2_with fail
  go_at_call 41; refine (WA.out _).mono ?_; rintro e wn ⟨rfl, hb⟩; clear a0 a1 b0 b1 c0 c1; have J := Lib.hid (J.out.step hb); clear s0 s1; have S := Lib.hid (S.out.step hb); clear hb; obtain ⟨a0, a1, b0, b1, c0, c1⟩ := J.out.cells; obtain ⟨s0, s1⟩ := S.out.cells
  go_wp2_with fail
  go_at_call 41; refine (WB.out _).mono ?_; rintro e wn ⟨rfl, hb⟩; clear a0 a1 b0 b1 c0 c1; have J := Lib.hid (J.out.step hb); clear s0 s1; have S := Lib.hid (S.out.step hb); clear hb; obtain ⟨a0, a1, b0, b1, c0, c1⟩ := J.out.cells; obtain ⟨s0, s1⟩ := S.out.cells
  go_wp2_with fail
  go_at_call 28; refine (FX.out _).mono ?_; rintro e wn ⟨rfl, hb⟩; clear a0 a1 b0 b1 c0 c1; have J := Lib.hid (J.out.step hb); clear s0 s1; have S := Lib.hid (S.out.step hb); clear hb; obtain ⟨a0, a1, b0, b1, c0, c1⟩ := J.out.cells; obtain ⟨s0, s1⟩ := S.out.cells
  go_wp2_with fail
  go_at_call 41; refine (AC.out _).mono ?_; rintro e wn ⟨rfl, hb⟩; clear a0 a1 b0 b1 c0 c1; have J := Lib.hid (J.out.step hb); clear s0 s1; have S := Lib.hid (S.out.step hb); clear hb; obtain ⟨a0, a1, b0, b1, c0, c1⟩ := J.out.cells; obtain ⟨s0, s1⟩ := S.out.cells
  go_wp2_with fail
  go_at_call 41; refine (BC.out _).mono ?_; rintro e wn ⟨rfl, hb⟩; clear a0 a1 b0 b1 c0 c1; have J := Lib.hid (J.out.step hb); clear s0 s1; have S := Lib.hid (S.out.step hb); clear hb; obtain ⟨a0, a1, b0, b1, c0, c1⟩ := J.out.cells; obtain ⟨s0, s1⟩ := S.out.cells
  go_wp2_with fail
  go_at_call 41; refine (SC.out _).mono ?_; rintro e wn ⟨rfl, hb⟩; clear a0 a1 b0 b1 c0 c1; have J := Lib.hid (J.out.step hb); clear s0 s1; have S := Lib.hid (S.out.step hb); clear hb; obtain ⟨a0, a1, b0, b1, c0, c1⟩ := J.out.cells; obtain ⟨s0, s1⟩ := S.out.cells
  go_wp2_with fail
  go_at_call 41; refine (AC.out _).mono ?_; rintro e wn ⟨rfl, hb⟩; clear a0 a1 b0 b1 c0 c1; have J := Lib.hid (J.out.step hb); clear s0 s1; have S := Lib.hid (S.out.step hb); clear hb; obtain ⟨a0, a1, b0, b1, c0, c1⟩ := J.out.cells; obtain ⟨s0, s1⟩ := S.out.cells
  go_wp2_with fail
  go_at_call 32; refine (HA.out _).mono ?_; rintro e wn ⟨rfl, hb⟩; clear a0 a1 b0 b1 c0 c1; have J := Lib.hid (J.out.step hb); clear s0 s1; have S := Lib.hid (S.out.step hb); clear hb; obtain ⟨a0, a1, b0, b1, c0, c1⟩ := J.out.cells; obtain ⟨s0, s1⟩ := S.out.cells
  go_wp2_with fail
  go_ret
  exact ⟨rfl, J.out.below⟩

set_option maxHeartbeats 2000000 in
theorem joins_no0 (a a' b b' c c' v : ByteArray) (w : World)  (z3 : v.size ≤ 3000)
    (GA : Says 27 #[spv a a'] (.bool false)) (GB : Says 27 #[spv b b'] (.bool false)) (GC : Says 27 #[spv c c'] (.bool false))
    (JN : Says 40 #[spv a a', spv b b'] (spv ⟨#[]⟩ ⟨#[]⟩))
    (MA : Says 30 #[spv a a'] (.bool false)) :
    Calls Try.prog 12 #[spv a a', spv b b', spv c c', .string v] w fun e w' => e = .returned (.bool true) ∧ Below w.heap.size w w' := by
  have z3' : (v.size : Int) ≤ 3000 := by omega
  have J := Lib.hid (TC.start w a a' b b' c c')
  obtain ⟨a0, a1, b0, b1, c0, c1⟩ := J.out.cells
  have GA := Lib.hid GA; have GB := Lib.hid GB; have GC := Lib.hid GC; have JN := Lib.hid JN; have MA := Lib.hid MA; have FX := Lib.hid sfixed_any
  go_enter Try.func12, Try.ntmps12
  go_wp2_with fail
  go_at_call 27; refine (GA.out _).mono ?_; rintro e wn ⟨rfl, hb⟩; clear a0 a1 b0 b1 c0 c1; have J := Lib.hid (J.out.step hb); clear hb; obtain ⟨a0, a1, b0, b1, c0, c1⟩ := J.out.cells
  go_wp2_with fail
  go_at_call 27; refine (GB.out _).mono ?_; rintro e wn ⟨rfl, hb⟩; clear a0 a1 b0 b1 c0 c1; have J := Lib.hid (J.out.step hb); clear hb; obtain ⟨a0, a1, b0, b1, c0, c1⟩ := J.out.cells
  go_wp2_with fail
  go_at_call 27; refine (GC.out _).mono ?_; rintro e wn ⟨rfl, hb⟩; clear a0 a1 b0 b1 c0 c1; have J := Lib.hid (J.out.step hb); clear hb; obtain ⟨a0, a1, b0, b1, c0, c1⟩ := J.out.cells
  go_wp2_with fail
  go_at_call 40; refine (JN.out _).mono ?_; rintro e wn ⟨rfl, hb⟩; clear a0 a1 b0 b1 c0 c1; have J := Lib.hid (J.out.step hb); clear hb; obtain ⟨a0, a1, b0, b1, c0, c1⟩ := J.out.cells
  have S := Lib.hid (Bx.new wn ⟨#[]⟩ ⟨#[]⟩)
  have J := Lib.hid (TC.step J.out (Below.alloc (Below.refl _ wn) (Nat.le_refl _) (.cells #[.string ⟨#[]⟩, .string ⟨#[]⟩] 37)))
  clear a0 a1 b0 b1 c0 c1; obtain ⟨a0, a1, b0, b1, c0, c1⟩ := J.out.cells; obtain ⟨s0, s1⟩ := S.out.cells
  go_wp2_with fail
  go_at_call 30; refine (MA.out _).mono ?_; rintro e wn ⟨rfl, hb⟩; clear a0 a1 b0 b1 c0 c1; have J := Lib.hid (J.out.step hb); clear s0 s1; have S := Lib.hid (S.out.step hb); clear hb; obtain ⟨a0, a1, b0, b1, c0, c1⟩ := J.out.cells; obtain ⟨s0, s1⟩ := S.out.cells
  go_wp2_with fail
  go_at_call 28; refine (FX.out _).mono ?_; rintro e wn ⟨rfl, hb⟩; clear a0 a1 b0 b1 c0 c1; have J := Lib.hid (J.out.step hb); clear s0 s1; have S := Lib.hid (S.out.step hb); clear hb; obtain ⟨a0, a1, b0, b1, c0, c1⟩ := J.out.cells; obtain ⟨s0, s1⟩ := S.out.cells
  go_wp2_with fail
  go_ret
  exact ⟨rfl, J.out.below⟩

set_option maxHeartbeats 2000000 in
theorem joins_no1 (a a' b b' c c' v : ByteArray) (w : World)  (z3 : v.size ≤ 3000)
    (GA : Says 27 #[spv a a'] (.bool false)) (GB : Says 27 #[spv b b'] (.bool false)) (GC : Says 27 #[spv c c'] (.bool false))
    (JN : Says 40 #[spv a a', spv b b'] (spv ⟨#[]⟩ ⟨#[]⟩))
    (MA : Says 30 #[spv a a'] (.bool true))
    (MB : Says 30 #[spv b b'] (.bool false)) :
    Calls Try.prog 12 #[spv a a', spv b b', spv c c', .string v] w fun e w' => e = .returned (.bool true) ∧ Below w.heap.size w w' := by
  have z3' : (v.size : Int) ≤ 3000 := by omega
  have J := Lib.hid (TC.start w a a' b b' c c')
  obtain ⟨a0, a1, b0, b1, c0, c1⟩ := J.out.cells
  have GA := Lib.hid GA; have GB := Lib.hid GB; have GC := Lib.hid GC; have JN := Lib.hid JN; have MA := Lib.hid MA; have MB := Lib.hid MB; have FX := Lib.hid sfixed_any
  go_enter Try.func12, Try.ntmps12
  go_wp2_with fail
  go_at_call 27; refine (GA.out _).mono ?_; rintro e wn ⟨rfl, hb⟩; clear a0 a1 b0 b1 c0 c1; have J := Lib.hid (J.out.step hb); clear hb; obtain ⟨a0, a1, b0, b1, c0, c1⟩ := J.out.cells
  go_wp2_with fail
  go_at_call 27; refine (GB.out _).mono ?_; rintro e wn ⟨rfl, hb⟩; clear a0 a1 b0 b1 c0 c1; have J := Lib.hid (J.out.step hb); clear hb; obtain ⟨a0, a1, b0, b1, c0, c1⟩ := J.out.cells
  go_wp2_with fail
  go_at_call 27; refine (GC.out _).mono ?_; rintro e wn ⟨rfl, hb⟩; clear a0 a1 b0 b1 c0 c1; have J := Lib.hid (J.out.step hb); clear hb; obtain ⟨a0, a1, b0, b1, c0, c1⟩ := J.out.cells
  go_wp2_with fail
  go_at_call 40; refine (JN.out _).mono ?_; rintro e wn ⟨rfl, hb⟩; clear a0 a1 b0 b1 c0 c1; have J := Lib.hid (J.out.step hb); clear hb; obtain ⟨a0, a1, b0, b1, c0, c1⟩ := J.out.cells
  have S := Lib.hid (Bx.new wn ⟨#[]⟩ ⟨#[]⟩)
  have J := Lib.hid (TC.step J.out (Below.alloc (Below.refl _ wn) (Nat.le_refl _) (.cells #[.string ⟨#[]⟩, .string ⟨#[]⟩] 37)))
  clear a0 a1 b0 b1 c0 c1; obtain ⟨a0, a1, b0, b1, c0, c1⟩ := J.out.cells; obtain ⟨s0, s1⟩ := S.out.cells
  go_wp2_with fail
  go_at_call 30; refine (MA.out _).mono ?_; rintro e wn ⟨rfl, hb⟩; clear a0 a1 b0 b1 c0 c1; have J := Lib.hid (J.out.step hb); clear s0 s1; have S := Lib.hid (S.out.step hb); clear hb; obtain ⟨a0, a1, b0, b1, c0, c1⟩ := J.out.cells; obtain ⟨s0, s1⟩ := S.out.cells
  go_wp2_with fail
  go_at_call 30; refine (MB.out _).mono ?_; rintro e wn ⟨rfl, hb⟩; clear a0 a1 b0 b1 c0 c1; have J := Lib.hid (J.out.step hb); clear s0 s1; have S := Lib.hid (S.out.step hb); clear hb; obtain ⟨a0, a1, b0, b1, c0, c1⟩ := J.out.cells; obtain ⟨s0, s1⟩ := S.out.cells
  go_wp2_with fail
  go_at_call 28; refine (FX.out _).mono ?_; rintro e wn ⟨rfl, hb⟩; clear a0 a1 b0 b1 c0 c1; have J := Lib.hid (J.out.step hb); clear s0 s1; have S := Lib.hid (S.out.step hb); clear hb; obtain ⟨a0, a1, b0, b1, c0, c1⟩ := J.out.cells; obtain ⟨s0, s1⟩ := S.out.cells
  go_wp2_with fail
  go_ret
  exact ⟨rfl, J.out.below⟩

set_option maxHeartbeats 4000000 in
theorem joins_great (a a' b b' c c' v : ByteArray) (w : World) (za : a.size ≤ maxLen) (za' : a'.size ≤ maxLen) (zb : b.size ≤ maxLen) (zb' : b'.size ≤ maxLen) (zc : c.size ≤ maxLen) (zc' : c'.size ≤ maxLen) (zv : v.size ≤ maxLen)
    (h : (decide (3000 < a.size) || decide (3000 < a'.size)) = true ∨ (decide (3000 < b.size) || decide (3000 < b'.size)) = true ∨ (decide (3000 < c.size) || decide (3000 < c'.size)) = true ∨ 3000 < v.size) :
    Calls Try.prog 12 #[spv a a', spv b b', spv c c', .string v] w fun e w' => e = .returned (.bool true) ∧ Below w.heap.size w w' := by
  have GA := Lib.hid (sgreat_any a a' za za')
  have GB := Lib.hid (sgreat_any b b' zb zb')
  have GC := Lib.hid (sgreat_any c c' zc zc')
  have FX := Lib.hid sfixed_any
  have J := Lib.hid (TC.start w a a' b b' c c')
  obtain ⟨a0, a1, b0, b1, c0, c1⟩ := J.out.cells
  have zv' : (v.size : Int) ≤ 9223372036854775807 := by unfold maxLen at zv; omega
  clear za za' zb zb' zc zc' zv
  generalize (decide (3000 < a.size) || decide (3000 < a'.size)) = ga at GA h
  generalize (decide (3000 < b.size) || decide (3000 < b'.size)) = gb at GB h
  generalize (decide (3000 < c.size) || decide (3000 < c'.size)) = gc at GC h
  cases ga with
  | true =>
    clear h
    go_enter Try.func12, Try.ntmps12
    go_wp2_with fail
    go_at_call 27; refine (GA.out _).mono ?_; rintro e wn ⟨rfl, hb⟩; clear a0 a1 b0 b1 c0 c1; have J := Lib.hid (J.out.step hb); clear hb; obtain ⟨a0, a1, b0, b1, c0, c1⟩ := J.out.cells
    go_wp2_with fail
    go_at_call 28; refine (FX.out _).mono ?_; rintro e wn ⟨rfl, hb⟩; clear a0 a1 b0 b1 c0 c1; have J := Lib.hid (J.out.step hb); clear hb; obtain ⟨a0, a1, b0, b1, c0, c1⟩ := J.out.cells
    go_wp2_with fail
    go_ret
    exact ⟨rfl, J.out.below⟩
  | false =>
    cases gb with
    | true =>
      clear h
      go_enter Try.func12, Try.ntmps12
      go_wp2_with fail
      go_at_call 27; refine (GA.out _).mono ?_; rintro e wn ⟨rfl, hb⟩; clear a0 a1 b0 b1 c0 c1; have J := Lib.hid (J.out.step hb); clear hb; obtain ⟨a0, a1, b0, b1, c0, c1⟩ := J.out.cells
      go_wp2_with fail
      go_at_call 27; refine (GB.out _).mono ?_; rintro e wn ⟨rfl, hb⟩; clear a0 a1 b0 b1 c0 c1; have J := Lib.hid (J.out.step hb); clear hb; obtain ⟨a0, a1, b0, b1, c0, c1⟩ := J.out.cells
      go_wp2_with fail
      go_at_call 28; refine (FX.out _).mono ?_; rintro e wn ⟨rfl, hb⟩; clear a0 a1 b0 b1 c0 c1; have J := Lib.hid (J.out.step hb); clear hb; obtain ⟨a0, a1, b0, b1, c0, c1⟩ := J.out.cells
      go_wp2_with fail
      go_ret
      exact ⟨rfl, J.out.below⟩
    | false =>
      cases gc with
      | true =>
        clear h
        go_enter Try.func12, Try.ntmps12
        go_wp2_with fail
        go_at_call 27; refine (GA.out _).mono ?_; rintro e wn ⟨rfl, hb⟩; clear a0 a1 b0 b1 c0 c1; have J := Lib.hid (J.out.step hb); clear hb; obtain ⟨a0, a1, b0, b1, c0, c1⟩ := J.out.cells
        go_wp2_with fail
        go_at_call 27; refine (GB.out _).mono ?_; rintro e wn ⟨rfl, hb⟩; clear a0 a1 b0 b1 c0 c1; have J := Lib.hid (J.out.step hb); clear hb; obtain ⟨a0, a1, b0, b1, c0, c1⟩ := J.out.cells
        go_wp2_with fail
        go_at_call 27; refine (GC.out _).mono ?_; rintro e wn ⟨rfl, hb⟩; clear a0 a1 b0 b1 c0 c1; have J := Lib.hid (J.out.step hb); clear hb; obtain ⟨a0, a1, b0, b1, c0, c1⟩ := J.out.cells
        go_wp2_with fail
        go_at_call 28; refine (FX.out _).mono ?_; rintro e wn ⟨rfl, hb⟩; clear a0 a1 b0 b1 c0 c1; have J := Lib.hid (J.out.step hb); clear hb; obtain ⟨a0, a1, b0, b1, c0, c1⟩ := J.out.cells
        go_wp2_with fail
        go_ret
        exact ⟨rfl, J.out.below⟩
      | false =>
        have hv : 3000 < (v.size : Int) := by simp at h; omega
        clear h
        go_enter Try.func12, Try.ntmps12
        go_wp2_with fail
        go_at_call 27; refine (GA.out _).mono ?_; rintro e wn ⟨rfl, hb⟩; clear a0 a1 b0 b1 c0 c1; have J := Lib.hid (J.out.step hb); clear hb; obtain ⟨a0, a1, b0, b1, c0, c1⟩ := J.out.cells
        go_wp2_with fail
        go_at_call 27; refine (GB.out _).mono ?_; rintro e wn ⟨rfl, hb⟩; clear a0 a1 b0 b1 c0 c1; have J := Lib.hid (J.out.step hb); clear hb; obtain ⟨a0, a1, b0, b1, c0, c1⟩ := J.out.cells
        go_wp2_with fail
        go_at_call 27; refine (GC.out _).mono ?_; rintro e wn ⟨rfl, hb⟩; clear a0 a1 b0 b1 c0 c1; have J := Lib.hid (J.out.step hb); clear hb; obtain ⟨a0, a1, b0, b1, c0, c1⟩ := J.out.cells
        go_wp2_with fail
        go_at_call 28; refine (FX.out _).mono ?_; rintro e wn ⟨rfl, hb⟩; clear a0 a1 b0 b1 c0 c1; have J := Lib.hid (J.out.step hb); clear hb; obtain ⟨a0, a1, b0, b1, c0, c1⟩ := J.out.cells
        go_wp2_with fail
        go_ret
        exact ⟨rfl, J.out.below⟩

theorem downLoA_list (a b : ByteArray) : (downLoA a b).data.toList = downLo a.data.toList b.data.toList := by unfold downLoA downLo; split <;> rfl
theorem upHiA_list (a b : ByteArray) : (upHiA a b).data.toList = upHi a.data.toList b.data.toList := by unfold upHiA upHi; split <;> rfl
theorem has_span {lo hi v : Bs} (h : spanB lo hi = false) : hasB lo hi v = false := by
  cases e : hasB lo hi v with
  | false => rfl
  | true => rw [(has_iff.1 e).1] at h; exact h

theorem law_spanjoins (a a' b b' c c' v : ByteArray) (w : World) (za : a.size ≤ maxLen) (za' : a'.size ≤ maxLen) (zb : b.size ≤ maxLen) (zb' : b'.size ≤ maxLen) (zc : c.size ≤ maxLen) (zc' : c'.size ≤ maxLen) (zv : v.size ≤ maxLen) :
    Calls Try.prog 12 #[spv a a', spv b b', spv c c', .string v] w fun e w' => e = .returned (.bool true) ∧ Below w.heap.size w w' := by
  by_cases h : (decide (3000 < a.size) || decide (3000 < a'.size)) = true ∨ (decide (3000 < b.size) || decide (3000 < b'.size)) = true ∨ (decide (3000 < c.size) || decide (3000 < c'.size)) = true ∨ 3000 < v.size
  · exact joins_great a a' b b' c c' v w za za' zb zb' zc zc' zv h
  · have ga : (decide (3000 < a.size) || decide (3000 < a'.size)) = false := by cases e : (decide (3000 < a.size) || decide (3000 < a'.size)) with | false => rfl | true => exact absurd (.inl e) h
    have gb : (decide (3000 < b.size) || decide (3000 < b'.size)) = false := by cases e : (decide (3000 < b.size) || decide (3000 < b'.size)) with | false => rfl | true => exact absurd (.inr (.inl e)) h
    have gc : (decide (3000 < c.size) || decide (3000 < c'.size)) = false := by cases e : (decide (3000 < c.size) || decide (3000 < c'.size)) with | false => rfl | true => exact absurd (.inr (.inr (.inl e))) h
    have hv : v.size ≤ 3000 := by rcases Nat.lt_or_ge 3000 v.size with h' | h'; exact absurd (.inr (.inr (.inr h'))) h; exact h'
    have pa := great_parts a a' ga
    have pb := great_parts b b' gb
    have pc := great_parts c c' gc
    have GA := sgreat_not a a' pa.1 pa.2
    have GB := sgreat_not b b' pb.1 pb.2
    have GC := sgreat_not c c' pc.1 pc.2
    have JN := join_any a a' b b' za za' zb zb'
    have MA := rspanMay_any a a' za za'
    have MB := rspanMay_any b b' zb zb'
    cases sa : spanB a.data.toList a'.data.toList with
    | false =>
      rw [sa] at MA
      have e : joinA a a' b b' = spv ⟨#[]⟩ ⟨#[]⟩ := by rw [joinA, sa]; rfl
      rw [e] at JN
      exact joins_no0 a a' b b' c c' v w hv GA GB GC JN MA
    | true =>
      rw [sa] at MA
      cases sb : spanB b.data.toList b'.data.toList with
      | false =>
        rw [sb] at MB
        have e : joinA a a' b b' = spv ⟨#[]⟩ ⟨#[]⟩ := by rw [joinA, sa, sb]; rfl
        rw [e] at JN
        exact joins_no1 a a' b b' c c' v w hv GA GB GC JN MA MB
      | true =>
        rw [sb] at MB
        have e : joinA a a' b b' = spv (downLoA a b) (upHiA a' b') := by rw [joinA, sa, sb]; rfl
        rw [e] at JN
        have zx : (downLoA a b).size ≤ maxLen := by unfold downLoA; split <;> assumption
        have zy : (upHiA a' b').size ≤ maxLen := by unfold upHiA; split <;> assumption
        have wide := join_wide sa sb
        rw [← downLoA_list, ← upHiA_list] at wide
        have HA := rhas_any a a' v za za' zv
        have HB := rhas_any b b' v zb zb' zv
        have HC := rhas_any c c' v zc zc' zv
        have HS := rhas_any _ _ v zx zy zv
        have WA := within_any a a' _ _ za za' zx zy
        have WB := within_any b b' _ _ zb zb' zx zy
        have AC := within_any a a' c c' za za' zc zc'
        have BC := within_any b b' c c' zb zb' zc zc'
        have SC := within_any _ _ c c' zx zy zc zc'
        rw [wide.1] at WA
        rw [wide.2] at WB
        have k1 := within_has (v := v.data.toList) wide.1
        have k2 := within_has (v := v.data.toList) wide.2
        have k3 : withinB a.data.toList a'.data.toList c.data.toList c'.data.toList = true → withinB b.data.toList b'.data.toList c.data.toList c'.data.toList = true → withinB (downLoA a b).data.toList (upHiA a' b').data.toList c.data.toList c'.data.toList = true := fun p q => by
          have := join_least p q
          rwa [← downLoA_list, ← upHiA_list] at this
        have k4 : withinB a.data.toList a'.data.toList c.data.toList c'.data.toList = true → hasB a.data.toList a'.data.toList v.data.toList = true → hasB c.data.toList c'.data.toList v.data.toList = true := fun p q => within_has p q
        clear wide e sa sb
        generalize hasB a.data.toList a'.data.toList v.data.toList = ha at HA k1 k4
        generalize hasB b.data.toList b'.data.toList v.data.toList = hb at HB k2
        generalize hasB c.data.toList c'.data.toList v.data.toList = hc at HC k4
        generalize hasB (downLoA a b).data.toList (upHiA a' b').data.toList v.data.toList = hs at HS k1 k2
        generalize withinB a.data.toList a'.data.toList c.data.toList c'.data.toList = wac at AC k3 k4
        generalize withinB b.data.toList b'.data.toList c.data.toList c'.data.toList = wbc at BC k3
        generalize withinB (downLoA a b).data.toList (upHiA a' b').data.toList c.data.toList c'.data.toList = wsc at SC k3
        cases ha with
        | true =>
          obtain rfl := k1 rfl
          cases wac with
          | false => exact joins_1000 a a' b b' c c' v (downLoA a b) (upHiA a' b') w hv GA GB GC JN MA MB HA HS WA WB AC
          | true =>
            obtain rfl := k4 rfl rfl
            cases wbc with
            | false => exact joins_1010 a a' b b' c c' v (downLoA a b) (upHiA a' b') w hv GA GB GC JN MA MB HA HS WA WB AC BC HC
            | true =>
              obtain rfl := k3 rfl rfl
              exact joins_1011 a a' b b' c c' v (downLoA a b) (upHiA a' b') w hv GA GB GC JN MA MB HA HS WA WB AC BC SC HC
        | false =>
          cases hb with
          | true =>
            obtain rfl := k2 rfl
            cases wac with
            | false => exact joins_0100 a a' b b' c c' v (downLoA a b) (upHiA a' b') w hv GA GB GC JN MA MB HA HB HS WA WB AC
            | true =>
              cases wbc with
              | false => exact joins_0110 a a' b b' c c' v (downLoA a b) (upHiA a' b') w hv GA GB GC JN MA MB HA HB HS WA WB AC BC
              | true =>
                obtain rfl := k3 rfl rfl
                exact joins_0111 a a' b b' c c' v (downLoA a b) (upHiA a' b') w hv GA GB GC JN MA MB HA HB HS WA WB AC BC SC
          | false =>
            cases wac with
            | false => exact joins_0000 a a' b b' c c' v (downLoA a b) (upHiA a' b') w hv GA GB GC JN MA MB HA HB WA WB AC
            | true =>
              cases wbc with
              | false => exact joins_0010 a a' b b' c c' v (downLoA a b) (upHiA a' b') w hv GA GB GC JN MA MB HA HB WA WB AC BC
              | true =>
                obtain rfl := k3 rfl rfl
                exact joins_0011 a a' b b' c c' v (downLoA a b) (upHiA a' b') w hv GA GB GC JN MA MB HA HB WA WB AC BC SC

end Go.Proofs.Ytdmobdiffobdkaa.Ver
