/- Asking a heap, taking its first atom out, putting an atom in. -/
import Derived.Test.YtapconhgcoefeaaHeapState
namespace Go.Proofs.Ytapconhgcoefeaa.Heap
set_option linter.unusedVariables false
open Go.RowKit

variable {w : World} {I : Ids} {n : Nat} {sc : List Nat} {inn : Nat → Bool} {pl : List Int} {rw : List Nat}

theorem HM.trim (h : HM w I sc pl rw) (m : Nat) (hm : m ≤ rw.length) : HM (w.setCell ⟨I.hb, 2, none⟩ (.slice (some ⟨I.g3, 0, none⟩) m I.c3)) I sc pl (rw.take m) := by
  obtain ⟨a1, a2, a3, a4, a5, a6⟩ := h.apart
  have hr := h.room
  refine ⟨?_, ?_, ?_, ?_, h.apart, h.len, h.small, by simp; omega, h.cap⟩
  · rw [blk_set _ _ h.head]
    simp [Nat.min_eq_left hm]
  · rw [set_other _ _ _ _ _ (fun e => a1 e.symm)]; exact h.scs
  · rw [set_other _ _ _ _ _ (fun e => a2 e.symm)]; exact h.pls
  · rw [set_other _ _ _ _ _ (fun e => a3 e.symm)]
    obtain ⟨j, hj, hl⟩ := h.rws
    refine ⟨nats (rw.drop m) ++ j, ?_, ?_⟩
    · rw [hj]
      have e : nats rw = nats (rw.take m) ++ nats (rw.drop m) := by
        unfold nats
        rw [← List.map_append, List.take_append_drop]
      rw [e, List.append_assoc]
    · simp [nats]; omega

set_option maxHeartbeats 400000 in
theorem may_yes (hm : HM w I sc pl rw) (hp : Places n pl rw) (a : Nat) (h1 : 1 ≤ a) (h2 : a ≤ n) :
    Calls Try.prog 60 #[.pointer (some ⟨I.hb, 0, none⟩), .int .i64 a] w fun e w' => e = .returned (.bool true) ∧ w = w' := by
  have c0 := hm.c0
  have hl : sc.length = n + 1 := by rw [hm.len, hp.len]
  rw [hl] at c0
  clear hl
  have hx : a < n + 1 := by omega
  have hd : decide ((a : Int) < (n : Int) + 1) = true := by simp; omega
  clear hm hp
  go_enter Try.func60, Try.ntmps60
  go_wp2
  go_ret
  exact ⟨rfl, rfl⟩

set_option maxHeartbeats 400000 in
theorem may_no (hm : HM w I sc pl rw) (hp : Places n pl rw) (a : Int) (h1 : a < 1 ∨ (n : Int) < a) :
    Calls Try.prog 60 #[.pointer (some ⟨I.hb, 0, none⟩), .int .i64 a] w fun e w' => e = .returned (.bool false) ∧ w = w' := by
  have c0 := hm.c0
  have hl : sc.length = n + 1 := by rw [hm.len, hp.len]
  rw [hl] at c0
  clear hl hm hp
  by_cases h2 : a < 1
  · clear h1
    have hd : decide (1 ≤ a) = false := by simp; omega
    go_enter Try.func60, Try.ntmps60
    go_wp2
    go_ret
    exact ⟨rfl, rfl⟩
  · have h3 : ¬ a < (n : Int) + 1 := by omega
    have hd : decide (a < (n : Int) + 1) = false := by simp; omega
    clear h1
    go_enter Try.func60, Try.ntmps60
    go_wp2
    go_ret
    exact ⟨rfl, rfl⟩

set_option maxHeartbeats 400000 in
theorem len_at (h : IsAt w I n sc inn pl rw) :
    Calls Try.prog 39 #[.pointer (some ⟨I.hb, 0, none⟩)] w fun e w' => e = .returned (.int .i64 (rw.length : Nat)) ∧ w = w' := by
  have c2 := h.mem.c2
  have hr := h.mem.room
  have hs := h.mem.small
  clear h
  go_enter Try.func39, Try.ntmps39
  go_wp2
  go_ret
  exact ⟨rfl, rfl⟩

set_option maxHeartbeats 800000 in
theorem has_pre (hm0 : HM w I sc pl rw) (hp0 : Places n pl rw) (a : Nat) (h1 : 1 ≤ a) (h2 : a ≤ n) (hi0 : inn a = true ↔ pl.getD a (-1) ≠ -1) :
    Calls Try.prog 38 #[.pointer (some ⟨I.hb, 0, none⟩), .int .i64 a] w fun e w' => e = .returned (.bool (inn a)) ∧ w = w' := by
  have c1 := hm0.c1
  have hl := hp0.len
  have p := hm0.place a (by omega)
  rw [hl] at c1
  have hin : (pl.getD a (-1) != -1) = inn a := by
    have := hi0
    cases hi : inn a
    · rw [hi] at this
      simp at this
      simp [this]
    · rw [hi] at this
      simp at this
      simpa using this
  have hm := may_yes hm0 hp0 a h1 h2
  have HM1 := Lib.hid hm
  generalize pl.getD a (-1) = x at p hin
  clear hm0 hp0 hi0 hl hm
  go_enter Try.func38, Try.ntmps38
  go_wp2_with (go_at_call 60; refine HM1.out.mono ?_; rintro e w' ⟨rfl, rfl⟩)
  go_ret
  exact ⟨rfl, rfl⟩

theorem has_yes (h : IsAt w I n sc inn pl rw) (a : Nat) (h1 : 1 ≤ a) (h2 : a ≤ n) :
    Calls Try.prog 38 #[.pointer (some ⟨I.hb, 0, none⟩), .int .i64 a] w fun e w' => e = .returned (.bool (inn a)) ∧ w = w' := has_pre h.mem h.pla a h1 h2 (h.isin a h1 h2)

set_option maxHeartbeats 800000 in
theorem has_no (h : IsAt w I n sc inn pl rw) (a : Int) (h1 : a < 1 ∨ (n : Int) < a) :
    Calls Try.prog 38 #[.pointer (some ⟨I.hb, 0, none⟩), .int .i64 a] w fun e w' => e = .returned (.bool false) ∧ w = w' := by
  have hm := may_no h.mem h.pla a h1
  have HM1 := Lib.hid hm
  clear h hm h1
  go_enter Try.func38, Try.ntmps38
  go_wp2_with (go_at_call 60; refine HM1.out.mono ?_; rintro e w' ⟨rfl, rfl⟩)
  go_ret
  exact ⟨rfl, rfl⟩

set_option maxHeartbeats 800000 in
theorem score_yes (h : IsAt w I n sc inn pl rw) (a : Nat) (h1 : 1 ≤ a) (h2 : a ≤ n) :
    Calls Try.prog 40 #[.pointer (some ⟨I.hb, 0, none⟩), .int .i64 a] w fun e w' => e = .returned (.int .u64 (sc.getD a 0 : Nat)) ∧ w = w' := by
  have c0 := h.mem.c0
  have hl := h.lenS
  have p := h.mem.score a (by omega)
  rw [hl] at c0
  have hm := may_yes h.mem h.pla a h1 h2
  have HM1 := Lib.hid hm
  generalize sc.getD a 0 = x at p ⊢
  clear h hl hm
  go_enter Try.func40, Try.ntmps40
  go_wp2_with (go_at_call 60; refine HM1.out.mono ?_; rintro e w' ⟨rfl, rfl⟩)
  go_ret
  exact ⟨rfl, rfl⟩

set_option maxHeartbeats 800000 in
theorem score_no (h : IsAt w I n sc inn pl rw) (a : Int) (h1 : a < 1 ∨ (n : Int) < a) :
    Calls Try.prog 40 #[.pointer (some ⟨I.hb, 0, none⟩), .int .i64 a] w fun e w' => e = .returned (.int .u64 0) ∧ w = w' := by
  have hm := may_no h.mem h.pla a h1
  have HM1 := Lib.hid hm
  clear h hm h1
  go_enter Try.func40, Try.ntmps40
  go_wp2_with (go_at_call 60; refine HM1.out.mono ?_; rintro e w' ⟨rfl, rfl⟩)
  go_ret
  exact ⟨rfl, rfl⟩

theorem IsAt.popped (h : IsAt w I n sc inn pl rw) (h0 : 0 < rw.length) {w' : World} {pl' : List Int} {rw' : List Nat} (hm : HM w' I sc pl' rw') (hp : Places n pl' rw') (ho : HeapFrom sc rw' 0)
    (he : Eqv (popPl pl rw) pl' (popRw rw) rw') : Is w' I n sc (fun x => inn x && decide (x ≠ rw.getD 0 0)) := by
  have r0 := h.pla.row 0 h0
  have hin0 : inn (rw.getD 0 0) = true := (h.isin _ r0.1 r0.2.1).2 (by rw [r0.2.2]; simp)
  refine ⟨pl', rw', hm, hp, ho, ?_, ?_, h.top⟩
  · intro a h1 h2
    have e := he.isin a
    rw [popPl_at h.pla h0] at e
    have i := h.isin a h1 h2
    by_cases x : a = rw.getD 0 0
    · rw [if_pos x] at e
      simp [x] at e ⊢
      exact e
    · rw [if_neg x] at e
      by_cases y : a = rw.getD (rw.length - 1) 0
      · rw [if_pos y] at e
        have r1 := h.pla.row (rw.length - 1) (by omega)
        have ia : inn a = true := i.2 (by rw [y, r1.2.2]; omega)
        simp only [ia, Bool.true_and, decide_eq_true_eq]
        constructor
        · intro _ z; have := e.1 z; omega
        · intro _; exact x
      · rw [if_neg y] at e
        simp only [Bool.and_eq_true, decide_eq_true_eq]
        constructor
        · intro z t; exact i.1 z.1 (e.1 t)
        · intro z; exact ⟨i.2 (fun t => z (e.2 t)), x⟩
  · rw [he.len, popRw_len, h.cnt]
    have := cin_more (f := fun x => inn x && decide (x ≠ rw.getD 0 0)) (g := inn) r0.1 r0.2.1 (by simp) hin0 (fun x _ _ hx => by rw [decide_eq_true hx, Bool.and_true])
    omega

theorem IsAt.pushed (h : IsAt w I n sc inn pl rw) {a : Nat} (h1 : 1 ≤ a) (h2 : a ≤ n) (hf : inn a = false) {w' : World} {pl' : List Int} {rw' : List Nat} (hm : HM w' I sc pl' rw') (hp : Places n pl' rw') (ho : HeapFrom sc rw' 0)
    (he : Eqv (pl.set a (rw.length : Int)) pl' (rw ++ [a]) rw') : Is w' I n sc (fun x => inn x || decide (x = a)) := by
  have hl := h.pla.len
  refine ⟨pl', rw', hm, hp, ho, ?_, ?_, h.top⟩
  · intro b b1 b2
    have e := he.isin b
    rw [getD_set] at e
    have i := h.isin b b1 b2
    by_cases x : a = b
    · subst x
      rw [if_pos ⟨rfl, by omega⟩] at e
      simp only [decide_true, Bool.or_true, true_iff]
      intro z; have := e.1 z; omega
    · rw [if_neg (fun t => x t.1)] at e
      have x' : ¬ b = a := fun t => x t.symm
      simp only [x', decide_false, Bool.or_false]
      rw [i]
      constructor
      · intro z t; exact z (e.1 t)
      · intro z t; exact z (e.2 t)
  · rw [he.len]
    have := cin_more (f := inn) (g := fun x => inn x || decide (x = a)) h1 h2 hf (by simp) (fun x _ _ hx => by simp [hx])
    rw [this, ← h.cnt]
    simp

/-- what a pop comes to. -/
def Popped (I : Ids) (n : Nat) (sc : List Nat) (inn : Nat → Bool) (w : World) (e : Ending) (w' : World) : Prop :=
  Sm I.has w w' ∧ ((cin inn n = 0 ∧ e = .returned (.int .i64 0) ∧ Is w' I n sc inn) ∨
    ∃ a, Best n sc inn a ∧ e = .returned (.int .i64 (a : Nat)) ∧ Is w' I n sc (fun x => inn x && decide (x ≠ a)))

set_option maxHeartbeats 2000000 in
set_option maxRecDepth 100000 in
theorem pop_any (hI : Is w I n sc inn) : Calls Try.prog 37 #[.pointer (some ⟨I.hb, 0, none⟩)] w (Popped I n sc inn w) := by
  obtain ⟨pl, rw, h⟩ := hI
  have hlen := len_at h
  have HL := Lib.hid hlen
  clear hlen
  have hro := h.mem.room
  have hsm := h.mem.small
  by_cases h0 : rw.length = 0
  · rw [h0] at HL
    have hfin : Popped I n sc inn w (.returned (.int .i64 0)) w := ⟨Sm.refl _ _, .inl ⟨by rw [← h.cnt, h0], rfl, pl, rw, h⟩⟩
    have HF := Lib.hid hfin
    clear hfin h h0 hro hsm
    go_enter Try.func37, Try.ntmps37
    go_wp2_with (go_at_call 39; refine HL.out.mono ?_; rintro e w' ⟨rfl, rfl⟩)
    go_ret
    exact HF.out
  · have hp : 0 < rw.length := by omega
    obtain ⟨m, hm⟩ : ∃ m, m = rw.length - 1 := ⟨_, rfl⟩
    have hl1 : rw.length = m + 1 := by omega
    have hmb : m ≤ 65537 := by omega
    have c2 := h.mem.c2
    have r0 := h.mem.row 0 hp
    have r1 := h.mem.row m (by omega)
    have q0 := h.pla.row 0 hp
    have q1 := h.pla.row m (by omega)
    have hpl := h.pla.len
    have hbest := h.best hp
    rw [hl1] at c2 HL
    obtain ⟨x, ex⟩ : ∃ x, x = rw.getD 0 0 := ⟨_, rfl⟩
    obtain ⟨y, ey⟩ : ∃ y, y = rw.getD m 0 := ⟨_, rfl⟩
    have hput := fun (wq : World) (hq : HM wq I sc pl rw) => put_any hq 0 y hp (by rw [ey]; omega)
    have hx : x < pl.length := by rw [ex]; omega
    have hx2 : x < n + 1 := by omega
    have hc3 : m ≤ I.c3 := by have := h.mem.cap; omega
    rw [← ex] at r0
    rw [← ey] at r1
    have hb0 : (((m : Int) + 1) == 0) = false := by simp; omega
    have HPUT := Lib.hid hput
    have EX := Lib.hid ex
    have EY := Lib.hid ey
    have HH := Lib.hid h
    have HB := Lib.hid hbest
    have HM0 := Lib.hid hm
    have HL1 := Lib.hid hl1
    clear hput ex ey h hbest q0 q1 h0 hm hl1 hp
    go_enter Try.func37, Try.ntmps37
    go_wp2_with (go_at_call 39; refine HL.out.mono ?_; rintro e w' ⟨rfl, rfl⟩)
    go_quiet (fail)
    go_wp2_with fail
    refine (HPUT.out _ (HH.out.mem.drewN _)).mono ?_
    rintro e w1 ⟨rfl, h1, s1⟩
    have c2 := h1.c2
    have c1 := h1.c1
    have f0 := h1.f0 2
    have p1 := h1.place x (by simpa using hx)
    have f2 := h1.f2 x
    obtain ⟨a1, a2, a3, a4, a5, a6⟩ := h1.apart
    simp only [List.length_set, HL1.out, hpl] at c2 c1
    have h2 := (h1.trim m (by rw [List.length_set, HL1.out]; omega)).setPlace x (-1) (by simpa using hx)
    have s2 : Sm I.has w ((w1.setCell ⟨I.hb, 2, none⟩ (.slice (some ⟨I.g3, 0, none⟩) m I.c3)).setCell ⟨I.g2, x, none⟩ (.int .i64 (-1))) :=
      ((((Sm.refl _ _).drewN _).trans s1).set _ _ (.inl rfl)).set _ _ (.inr (.inr (.inl rfl)))
    have e1 : (rw.set 0 y).take m = popRw rw := by rw [EY.out, HM0.out]; rfl
    have e2 : (pl.set y ((0 : Nat) : Int)).set x (-1) = popPl pl rw := by rw [EY.out, EX.out, HM0.out]; rfl
    rw [e1, e2] at h2
    have hpp := HH.out.pla.pop (by rw [HL1.out]; omega)
    have hdn := Dn.pop HH.out.ord
    have hlen : (popRw rw).length = m := by rw [popRw_len, ← HM0.out]
    have H2 := Lib.hid h2
    have S2 := Lib.hid s2
    have HPP := Lib.hid hpp
    have HDN := Lib.hid hdn
    have HLEN := Lib.hid hlen
    clear h1 s1 h2 s2 e1 e2 hpp hdn hlen
    by_cases hm0 : 0 < m
    · go_wp2_with fail
      refine (sink_any H2.out HPP.out 0 0 (by rw [HLEN.out]; exact hm0) HDN.out).mono ?_
      rintro e w2 ⟨rfl, pl', rw', h3, h4, h5, h6, h7⟩
      have hfin : Popped I n sc inn w (.returned (.int .i64 x)) w2 := by
        refine ⟨S2.out.trans h7, .inr ⟨x, ?_, rfl, ?_⟩⟩
        · rw [EX.out]; exact HB.out
        · rw [EX.out]; exact HH.out.popped (by rw [HL1.out]; omega) h3 h4 h5 h6
      have HF := Lib.hid hfin
      clear hfin h3 h4 h5 h6 h7
      go_wp2_with fail
      go_ret
      exact HF.out
    · have hfin : Popped I n sc inn w (.returned (.int .i64 x)) ((w1.setCell ⟨I.hb, 2, none⟩ (.slice (some ⟨I.g3, 0, none⟩) m I.c3)).setCell ⟨I.g2, x, none⟩ (.int .i64 (-1))) := by
        refine ⟨S2.out, .inr ⟨x, ?_, rfl, ?_⟩⟩
        · rw [EX.out]; exact HB.out
        · have hq := HH.out.popped (by rw [HL1.out]; omega) H2.out HPP.out (fun j j1 j2 _ => by rw [HLEN.out] at j2; omega) (Eqv.refl _ _)
          rw [← EX.out] at hq
          exact hq
      have HF := Lib.hid hfin
      clear hfin
      go_wp2_with fail
      go_ret
      exact HF.out

end Go.Proofs.Ytapconhgcoefeaa.Heap
