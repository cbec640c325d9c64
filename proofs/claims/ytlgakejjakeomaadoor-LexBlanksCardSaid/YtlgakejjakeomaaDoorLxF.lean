/- Lines of words: the round, walked. -/
import Derived.Test.YtlgakejjakeomaaDoorLxE
import Derived.OwnWalkIn
namespace Go.Proofs.YtlgakejjakeomaaDoor.Lx
set_option linter.unusedVariables false
set_option linter.unusedSimpArgs false
open Go.RowKit Go.Shelf
attribute [local go_sem] Oper.semAt_some
theorem runW_zero : ∀ (r : Bs) (i : Nat) (lf : Bool), (runW 0 r i [] false lf).1 = []
  | [], i, lf => rfl
  | c :: r, i, lf => by
    unfold runW
    split
    · rfl
    · split
      · exact runW_zero r _ _
      · split
        · rename_i h; cases h
        · rfl
theorem wordsF_zero (l : Bs) : (wordsF 0 l).1 = [] := by unfold wordsF; rw [runW_zero]; rfl

theorem own_low {B b k n : Nat} {e : TypeId} {v : Value} {xs : List Value} {w : World} (h : w.ownsRow B e k v n xs) (hb : b ≤ B) : w.ownsRow b e k v n xs := by
  refine ⟨h.1, ?_⟩
  rcases h.2 with h1 | ⟨g, cap, cur, h1, h2, h3⟩
  · exact .inl h1
  · exact .inr ⟨g, cap, cur, h1, by omega, h3⟩
theorem own_blk {B k n : Nat} {e : TypeId} {v : Value} {xs : List Value} {w : World} (h : w.ownsRow B e k v n xs) : v.ownBlock = none ∨ ∃ g, v.ownBlock = some g ∧ B ≤ g := by
  cases hv : v.ownBlock with
  | none => exact .inl rfl
  | some q => exact .inr ⟨q, rfl, (h.lt q hv).1⟩
theorem grown_of_alloc {w w2 : World} {o : Obj} {r : Option Nat} (h : (w.alloc o).grownBy w2 r) : w.grownBy w2 r :=
  ⟨h.os, h.tape, h.output, Nat.le_trans (by simp) h.size, fun j hj hne => (h.block j (by simp; omega) hne).trans (Below.heap_alloc _ _ _ hj)⟩
/-- a line is laid behind the others. -/
theorem good15 {w W4 w2 : World} {k : Nat} {c : ByteArray} {ls : List LnT} {A A4 : Option Addr} {n cp n4 c4 B4 g2 cap2 : Nat} {VS : List Value} {ws : List WdT} (hb : LBox w k c ls W4) (ho : W4.heap[w.heap.size + 1 + 1 + 1]? = some (.cells #[.slice A n cp] 23 (0, 0)))
    (hr : RowsL (R0 w) A n cp ls VS W4) (hw : W4.ownsRow B4 51 2 (.slice A4 n4 c4) n4 (flatT ws)) (hB : R0 w ≤ B4) (hn : n4 = ws.length)
    (hown : w2.ownsRow (R0 w) 37 2 (.slice (some ⟨g2, 0, none⟩) (n + 1) cap2) (n + 1) (VS ++ [.int .i64 (k : Nat), .slice A4 n4 c4])) (hgr : (W4.alloc (.cells #[.int .i64 (k : Nat), .slice A4 n4 c4] 37)).grownBy w2 (Value.slice A n cp).ownBlock) :
    w2.cell? ⟨w.heap.size + 1 + 1 + 1, 0, none⟩ = some (.slice A n cp) ∧ w2.frozen? ⟨w.heap.size + 1 + 1 + 1, 0, none⟩ = false ∧
      LBox w k c (ls ++ [(k, ws)]) (w2.setCell ⟨w.heap.size + 1 + 1 + 1, 0, none⟩ (.slice (some ⟨g2, 0, none⟩) (n + 1) cap2)) := by
  have hs := hb.sz
  have hob := own_blk hr.own
  have hR := RowsL.add hr (own_low hw hB) hn hown hgr
  have hg := grown_of_alloc hgr
  have h3 : w2.heap[w.heap.size + 1 + 1 + 1]? = some (.cells #[.slice A n cp] 23 (0, 0)) := (hg.block _ (by unfold R0 at hs; omega) (by
    rcases hob with h0 | ⟨g, h0, h1⟩
    · rw [h0]; simp
    · rw [h0]; unfold R0 at h1; simp; omega)).trans ho
  exact ⟨blk_cell h3 rfl, blk_free 0 h3, hb.seto (VS := VS) ho hob hg hR⟩
theorem good15L {w W4 w2 : World} {k : Nat} {c : ByteArray} {ls : List LnT} {A : Option Addr} {n cp : Nat} {VS : List Value} {o : Obj} {x : Value} (hb : LBox w k c ls W4) (hr : RowsL (R0 w) A n cp ls VS W4) (hgr : (W4.alloc o).grownBy w2 (Value.slice A n cp).ownBlock) :
    (w2.setCell ⟨w.heap.size + 1 + 1 + 1, 0, none⟩ x).heap[w.heap.size + 1 + 1 + 1 + 1 + 1 + 1 + 1 + 1 + 1]? = W4.heap[w.heap.size + 1 + 1 + 1 + 1 + 1 + 1 + 1 + 1 + 1]? := by
  have hs := hb.sz
  have hob := own_blk hr.own
  refine (Below.heap_setCell _ _ _ _ (by show _ ≠ w.heap.size + 1 + 1 + 1; omega)).trans ((grown_of_alloc hgr).block _ (by unfold R0 at hs; omega) ?_)
  rcases hob with h0 | ⟨g, h0, h1⟩
  · rw [h0]; simp
  · rw [h0]; unfold R0 at h1; simp; omega
section
variable {q0 q1 q2 q3 q4 q5 q6 q7 q8 q9 : String} {fn : Nat} {s : ByteArray} {w : World}
abbrev lBusy (q0 q1 q2 q3 q4 q5 q6 q7 q8 q9 : String) (fn : Nat) (s : ByteArray) (b : Nat) : Loop := { lRec q0 q1 q2 q3 q4 q5 q6 q7 q8 q9 fn s b (b + 1 + 1 + 1 + 1 + 1 + 1 + 1 + 1) .ready none with state := .busy }
/-- the end of a round that goes on. -/
theorem l_next {c : ByteArray} {pre : List Bs} {p : Bs} {ls : List LnT} {W : World} (h : LBox w (pre.length + 1) c ls W) (hL : W.heap[w.heap.size + 1 + 1 + 1 + 1 + 1 + 1 + 1 + 1 + 1]? = some (.loop (lBusy q0 q1 q2 q3 q4 q5 q6 q7 q8 q9 fn s w.heap.size))) (hls : ls.length ≤ 2000) (hr : ∀ r, runL (pre ++ [p] ++ r) 0 [] = runL r (pre.length + 1) ls) {R : Ending → World → Prop}
    (hR : ∀ W', LAt q0 q1 q2 q3 q4 q5 q6 q7 q8 q9 fn s w (pre ++ [p]) c W' → R (.returned (.bool true)) W') :
    ∃ v w', (Instr.endRound (w.heap.size + 1 + 1 + 1 + 1 + 1 + 1 + 1 + 1 + 1) none).run Tryd.prog W = .ok v w' ∧ R (.returned v) w' :=
  ⟨_, _, run_endRound none hL, hR _ ⟨⟨ls, by rw [List.length_append]; exact h.other (grow_put _ _ _) (by omega) (by unfold R0; omega), hls, fun r => by rw [hr r, List.length_append]; rfl⟩, World.putObj_heap_same (lt_of_block hL)⟩⟩
/-- the end of a round that stops. -/
theorem l_halt {c : ByteArray} {pre : List Bs} {p : Bs} {W : World} {a cl e : Nat} (he : e ≠ 0) (h0 : W.heap[w.heap.size]? = some (.cells #[.slice none 0 0] 23 (0, 0))) (h1 : W.heap[w.heap.size + 1]? = some (.cells #[.int .i64 a, .int .i64 cl] 25 (0, 0)))
    (h2 : W.heap[w.heap.size + 1 + 1]? = some (.cells #[.int .i64 e] 26 (0, 0))) (hK : W.heap[w.heap.size + 1 + 1 + 1 + 1 + 1 + 1 + 1 + 1]? = some (.deferred (some []))) (hb : Below w.heap.size w W)
    (hL : W.heap[w.heap.size + 1 + 1 + 1 + 1 + 1 + 1 + 1 + 1 + 1]? = some (.loop (lBusy q0 q1 q2 q3 q4 q5 q6 q7 q8 q9 fn s w.heap.size))) (hr : ∀ r, runL (pre ++ [p] ++ r) 0 [] = ([], (a, cl), e)) {R : Ending → World → Prop}
    (hR : ∀ W', LStop q0 q1 q2 q3 q4 q5 q6 q7 q8 q9 fn s w (pre ++ [p]) W' → R (.returned (.bool false)) W') :
    ∃ v w', (Instr.endRound (w.heap.size + 1 + 1 + 1 + 1 + 1 + 1 + 1 + 1 + 1) (some .ret)).run Tryd.prog W = .ok v w' ∧ R (.returned v) w' :=
  ⟨_, _, run_endRound (some .ret) hL, hR _ ⟨⟨a, cl, e, he, (World.putObj_heap_other (by omega)).trans h0, (World.putObj_heap_other (by omega)).trans h1, (World.putObj_heap_other (by omega)).trans h2, hr⟩, (World.putObj_heap_other (by omega)).trans hK, World.putObj_heap_same (lt_of_block hL),
    hb.grown (grow_put _ _ _) hb.size (fun k e => by cases e; omega)⟩⟩

set_option maxRecDepth 100000 in
set_option maxHeartbeats 8000000 in
theorem l_yield (hfn : Fence.wide.fn fn) {pre : List Bs} {c : ByteArray} {W : World} (h : LAt q0 q1 q2 q3 q4 q5 q6 q7 q8 q9 fn s w pre c W) (p : ByteArray) (hp : p.size ≤ 100000) (hl : pre.length ≤ 100001) :
    YieldAt Fence.wide 9 Tryd.prog (w.heap.size + 1 + 1 + 1 + 1 + 1 + 1 + 1 + 1 + 1) #[.string p] W fun e W' =>
      (e = .returned (.bool true) ∧ LAt q0 q1 q2 q3 q4 q5 q6 q7 q8 q9 fn s w (pre ++ [p.data.toList]) c W') ∨ (e = .returned (.bool false) ∧ LStop q0 q1 q2 q3 q4 q5 q6 q7 q8 q9 fn s w (pre ++ [p.data.toList]) W') := by
  refine ⟨fn, lTmps s w.heap.size (.string p), linesAssign q0 q1 q2 q3 q4 q5 q6 q7 q8 q9, linesBody q0 q1 q2 q3 q4 q5 q6 q7 q8 q9, by simpa [lRec, lTmps] using run_yield (P := Tryd.prog) (args := #[.string p]) h.L rfl, roundIn_of_wpIn hfn ?_⟩
  obtain ⟨ls, hbox, hls, hrun⟩ := h.box
  have hL := h.L
  have hlt : w.heap.size + 1 + 1 + 1 + 1 + 1 + 1 + 1 + 1 + 1 < W.heap.size := lt_of_block hL
  have hbr := run_beginRound (P := Tryd.prog) hL rfl
  obtain ⟨W2, hW2⟩ : ∃ W2, W.putObj (w.heap.size + 1 + 1 + 1 + 1 + 1 + 1 + 1 + 1 + 1) (.loop (lBusy q0 q1 q2 q3 q4 q5 q6 q7 q8 q9 fn s w.heap.size)) = W2 := ⟨_, rfl⟩
  rw [hW2] at hbr
  have BX2 := Lib.hid (show LBox w pre.length c ls W2 by rw [← hW2]; exact hbox.other (grow_put _ _ _) (by omega) (by unfold R0; omega))
  have L2 := Lib.hid (show W2.heap[w.heap.size + 1 + 1 + 1 + 1 + 1 + 1 + 1 + 1 + 1]? = some (.loop (lBusy q0 q1 q2 q3 q4 q5 q6 q7 q8 q9 fn s w.heap.size)) by rw [← hW2]; exact World.putObj_heap_same hlt)
  have hcn : W2.cell? ⟨w.heap.size + 1 + 1 + 1 + 1, 0, none⟩ = some (.int .i64 pre.length) := blk_cell BX2.out.n rfl
  have hfn' : W2.frozen? ⟨w.heap.size + 1 + 1 + 1 + 1, 0, none⟩ = false := blk_free 0 BX2.out.n
  have hpl : (pre.length : Int) ≤ 100001 := by omega
  obtain ⟨W3, hW3⟩ : ∃ W3, W2.setCell ⟨w.heap.size + 1 + 1 + 1 + 1, 0, none⟩ (.int .i64 ((pre.length : Int) + 1)) = W3 := ⟨_, rfl⟩
  have BX3 := Lib.hid (show LBox w (pre.length + 1) c ls W3 by rw [← hW3]; exact BX2.out.setn (pre.length + 1))
  have L3 := Lib.hid (show W3.heap[w.heap.size + 1 + 1 + 1 + 1 + 1 + 1 + 1 + 1 + 1]? = some (.loop (lBusy q0 q1 q2 q3 q4 q5 q6 q7 q8 q9 fn s w.heap.size)) by rw [← hW3]; exact (Below.heap_setCell _ _ _ _ (by show _ ≠ w.heap.size + 1 + 1 + 1 + 1; omega)).trans L2.out)
  obtain ⟨A, n, cp, VS, ho, hrows⟩ := BX3.out.o
  have HO := Lib.hid ho
  have RW := Lib.hid hrows
  have hco : W3.cell? ⟨w.heap.size + 1 + 1 + 1, 0, none⟩ = some (.slice A n cp) := blk_cell ho rfl
  have NL := Lib.hid hrows.len
  have n5 : (n : Int) ≤ 2000 := by have := NL.out; omega
  have RUN := Lib.hid hrun
  have LS := Lib.hid hls
  obtain ⟨most, hmost⟩ : ∃ most : Nat, most = if ls.length = 2000 then 0 else 40 := ⟨_, rfl⟩
  have HM := Lib.hid hmost
  have m1000 : most ≤ 1000 := by rw [hmost]; split <;> omega
  have WF := Lib.hid (words_f p most W3 hp m1000)
  have WL := Lib.hid (wordsF_len most p.data.toList)
  have WZ : Hid (most = 0 → (wordsF most p.data.toList).1 = []) := Lib.hid (fun h => by rw [h]; exact wordsF_zero _)
  have RUN2 : Hid (((wordsF most p.data.toList).2.2 = 0 → ∀ r, runL (pre ++ [p.data.toList] ++ r) 0 [] = runL r (pre.length + 1) (if (wordsF most p.data.toList).1 = [] then ls else ls ++ [(pre.length + 1, (wordsF most p.data.toList).1)])) ∧
      ((wordsF most p.data.toList).2.2 ≠ 0 → ∀ r, runL (pre ++ [p.data.toList] ++ r) 0 [] = ([], (pre.length + 1, (wordsF most p.data.toList).2.1), (wordsF most p.data.toList).2.2))) := Lib.hid (by
    have e : ∀ r, runL (pre ++ [p.data.toList] ++ r) 0 [] = runL (p.data.toList :: r) pre.length ls := fun r => by rw [List.append_assoc]; exact hrun _
    refine ⟨fun h0 r => ?_, fun h0 r => ?_⟩
    · rw [e r, runL, ← hmost, if_pos h0]
    · rw [e r, runL, ← hmost, if_neg h0])
  have hps : (wordsF most p.data.toList).1.length ≤ 100000 := by have := WL.out; rw [← size_l] at this; omega
  obtain ⟨cl, hcl⟩ : ∃ cl, cl = (wordsF most p.data.toList).2.1 := ⟨_, rfl⟩
  obtain ⟨er, her⟩ : ∃ er, er = (wordsF most p.data.toList).2.2 := ⟨_, rfl⟩
  obtain ⟨ws, hws⟩ : ∃ ws, ws = (wordsF most p.data.toList).1 := ⟨_, rfl⟩
  rw [← hcl, ← her, ← hws] at WF RUN2
  rw [← hws] at WZ hps
  have WSL := Lib.hid hps
  clear ho hrows hbox hL hW2 h hlt hls hrun hmost m1000 hp hcl her hws WL hps
  by_cases hn2 : (n : Int) = 2000
  · have hm0 : most = 0 := by rw [HM.out, if_pos (by have := NL.out; omega)]
    subst hm0
    have hq : ((n : Int) == 2000) = true := by rw [hn2]; rfl
    unfold linesAssign lTmps
    gi_wp2
    first | refine ⟨W2, hbr, ?_⟩ | skip
    unfold linesBody
    gi_wp2_with (refine ⟨trivial, ?_⟩; gi_at_call 19; refine (CallsIn.inRound _ (callsIn_wide.2 WF.out)).mono ?_)
    rintro e W4 ⟨A4, n4, c4, rfl, hn4, hown4, hb4⟩
    have BX4 := Lib.hid (BX3.out.below' hb4)
    have L4 := Lib.hid ((hb4.block _ (lt_of_block L3.out)).trans L3.out)
    have OW4 := Lib.hid hown4
    have N4 := Lib.hid hn4
    have RW4 := Lib.hid (RW.out.below hb4)
    have HO4 := Lib.hid ((hb4.block _ (lt_of_block HO.out)).trans HO.out)
    have SZ3 := Lib.hid BX3.out.sz
    have cl5 : Hid True := Lib.hid trivial
    clear hn4 hown4 hb4 WF
    by_cases he0 : er = 0
    · have he0' : (er : Int) = 0 := by omega
      have heq : ((er : Int) != 0) = false := by rw [he0']; rfl
      have RUNZ := Lib.hid (RUN2.out.1 he0)
      clear he0 he0' RUN2
      have hz0 : ws = [] := (by first | exact WZ.out rfl | exact WZ.out trivial)
      have n40 : n4 = 0 := by have := N4.out; rw [hz0] at this; simpa using this
      subst n40
      gi_wp2
      exact l_next (R := fun e W' => (e = .returned (.bool true) ∧ LAt q0 q1 q2 q3 q4 q5 q6 q7 q8 q9 fn s w (pre ++ [p.data.toList]) c W') ∨ (e = .returned (.bool false) ∧ LStop q0 q1 q2 q3 q4 q5 q6 q7 q8 q9 fn s w (pre ++ [p.data.toList]) W')) BX4.out L4.out LS.out (fun r => by rw [RUNZ.out r, if_pos hz0]) (fun W' h => Or.inl ⟨rfl, h⟩)
    · have he0' : ¬ (er : Int) = 0 := by omega
      have heq : ((er : Int) != 0) = true := by rw [bne_iff_ne]; exact he0'
      have RUNZ := Lib.hid (RUN2.out.2 he0)
      have ER0 := Lib.hid he0
      have hcn4 : W4.cell? ⟨w.heap.size + 1 + 1 + 1 + 1, 0, none⟩ = some (.int .i64 ((pre.length : Int) + 1)) := blk_cell BX4.out.n rfl
      have d0 : W4.cell? ⟨w.heap.size, 0, none⟩ = some (.slice none 0 0) := blk_cell BX4.out.r0 rfl
      have g0 : W4.frozen? ⟨w.heap.size, 0, none⟩ = false := blk_free 0 BX4.out.r0
      have d1 : W4.cell? ⟨w.heap.size + 1, 0, none⟩ = some (.int .i64 0) := blk_cell BX4.out.r1 rfl
      have g1 : W4.frozen? ⟨w.heap.size + 1, 0, none⟩ = false := blk_free 0 BX4.out.r1
      have d1' : W4.cell? ⟨w.heap.size + 1, 1, none⟩ = some (.int .i64 0) := blk_cell BX4.out.r1 rfl
      have g1' : W4.frozen? ⟨w.heap.size + 1, 1, none⟩ = false := blk_free 1 BX4.out.r1
      have d2 : W4.cell? ⟨w.heap.size + 1 + 1, 0, none⟩ = some (.int .i64 0) := blk_cell BX4.out.r2 rfl
      have g2 : W4.frozen? ⟨w.heap.size + 1 + 1, 0, none⟩ = false := blk_free 0 BX4.out.r2
      clear he0 he0' RUN2
      gi_wp2
      refine bad13 hcn4 BX4.out.r0 BX4.out.r1 BX4.out.r2 ?_
      intro W5 g5
      gi_wp2
      exact l_halt (c := c) (R := fun e W' => (e = .returned (.bool true) ∧ LAt q0 q1 q2 q3 q4 q5 q6 q7 q8 q9 fn s w (pre ++ [p.data.toList]) c W') ∨ (e = .returned (.bool false) ∧ LStop q0 q1 q2 q3 q4 q5 q6 q7 q8 q9 fn s w (pre ++ [p.data.toList]) W')) (a := pre.length + 1) ER0.out g5.h0 g5.h1 g5.h2 ((g5.keep _ (by omega) (by omega) (by omega)).trans BX4.out.K) (BX4.out.below.trans g5.below) ((g5.keep _ (by omega) (by omega) (by omega)).trans L4.out) RUNZ.out (fun W' h => Or.inr ⟨rfl, h⟩)
  · have hm40 : most = 40 := by rw [HM.out, if_neg (by have := NL.out; omega)]
    subst hm40
    have hq : ((n : Int) == 2000) = false := beq_eq_false_iff_ne.2 hn2
    unfold linesAssign lTmps
    gi_wp2
    first | refine ⟨W2, hbr, ?_⟩ | skip
    unfold linesBody
    gi_wp2_with (refine ⟨trivial, ?_⟩; gi_at_call 19; refine (CallsIn.inRound _ (callsIn_wide.2 WF.out)).mono ?_)
    rintro e W4 ⟨A4, n4, c4, rfl, hn4, hown4, hb4⟩
    have BX4 := Lib.hid (BX3.out.below' hb4)
    have L4 := Lib.hid ((hb4.block _ (lt_of_block L3.out)).trans L3.out)
    have OW4 := Lib.hid hown4
    have N4 := Lib.hid hn4
    have RW4 := Lib.hid (RW.out.below hb4)
    have HO4 := Lib.hid ((hb4.block _ (lt_of_block HO.out)).trans HO.out)
    have SZ3 := Lib.hid BX3.out.sz
    have cl5 : Hid True := Lib.hid trivial
    clear hn4 hown4 hb4 WF
    by_cases he0 : er = 0
    · have he0' : (er : Int) = 0 := by omega
      have heq : ((er : Int) != 0) = false := by rw [he0']; rfl
      have RUNZ := Lib.hid (RUN2.out.1 he0)
      clear he0 he0' RUN2
      by_cases h4 : n4 = 0
      · subst h4
        have hz0 : ws = [] := List.eq_nil_of_length_eq_zero N4.out.symm
        gi_wp2
        exact l_next (R := fun e W' => (e = .returned (.bool true) ∧ LAt q0 q1 q2 q3 q4 q5 q6 q7 q8 q9 fn s w (pre ++ [p.data.toList]) c W') ∨ (e = .returned (.bool false) ∧ LStop q0 q1 q2 q3 q4 q5 q6 q7 q8 q9 fn s w (pre ++ [p.data.toList]) W')) BX4.out L4.out LS.out (fun r => by rw [RUNZ.out r, if_pos hz0]) (fun W' h => Or.inl ⟨rfl, h⟩)
      · have hz0 : ws ≠ [] := fun e => h4 (by rw [N4.out, e]; rfl)
        have h4p : (0 : Int) < (n4 : Int) := by omega
        have h4q : decide ((n4 : Int) > 0) = true := decide_eq_true h4p
        have ZZ := Lib.hid hz0
        have N4P := Lib.hid h4
        obtain ⟨i0, hi0, hz⟩ := Option.map_eq_some_iff.1 (show (Tryd.prog.info? 37).map (fun i => (i.zero, i.size, i.bytes)) = some (some (.agg #[.int .i64 0, .slice none 0 0]), 2, 32) by kernel_rfl)
        simp only [Prod.mk.injEq] at hz
        obtain ⟨hz0', hz1, hz2⟩ := hz
        have OA : Hid ((W4.alloc (.cells #[.int .i64 ((pre.length : Int) + 1), .slice A4 n4 c4] 37)).ownsRow (R0 w) 37 2 (.slice A n cp) n VS) := Lib.hid (RW4.out.own.alloc _)
        have NEWS : Hid (∀ j u, [Value.int .i64 ((pre.length : Int) + 1), .slice A4 n4 c4][j]? = some u → (W4.alloc (.cells #[.int .i64 ((pre.length : Int) + 1), .slice A4 n4 c4] 37)).cell? ((⟨W4.heap.size, 0, none⟩ : Addr).add j) = some u) := Lib.hid (World.news_of_block (heap_alloc_new W4 _))
        have ONE : Hid (∀ u ∈ [Value.int .i64 ((pre.length : Int) + 1), .slice A4 n4 c4], u.oneCell' = true) := Lib.hid (by intro u hu; simp at hu; rcases hu with rfl | rfl <;> rfl)
        have H63 : Hid (n + 1 ≤ maxLen) := Lib.hid (by unfold maxLen; omega)
        have HBY : Hid ((n + 1) * 32 ≤ 140737488355328) := Lib.hid (by omega)
        have SZ : Hid (R0 w ≤ (W4.alloc (.cells #[.int .i64 ((pre.length : Int) + 1), .slice A4 n4 c4] 37)).heap.size) := Lib.hid (by have := BX4.out.sz; simp; omega)
        have hcn4 : W4.cell? ⟨w.heap.size + 1 + 1 + 1 + 1, 0, none⟩ = some (.int .i64 ((pre.length : Int) + 1)) := blk_cell BX4.out.n rfl
        have hco4 : W4.cell? ⟨w.heap.size + 1 + 1 + 1, 0, none⟩ = some (.slice A n cp) := blk_cell HO4.out rfl
        have GOOD := Lib.hid (fun g2 cap2 w2 h1 h2 => good15 (w := w) (c := c) (k := pre.length + 1) BX4.out HO4.out RW4.out OW4.out SZ3.out N4.out (g2 := g2) (cap2 := cap2) (w2 := w2) h1 h2)
        gi_wp2_with (gi_at_builtin; refine wpListIn_append_own _ (by rfl) (.tmp 40) (.tmp 44) 23 (by rfl) (R0 w) 37 i0 _ 2 32 Tryd.underlying23 hi0 hz0' hz1 hz2 (by rfl) (by decide) (.slice A n cp) n VS (by rfl) OA.out ⟨W4.heap.size, 0, none⟩ 1 1 [.int .i64 ((pre.length : Int) + 1), .slice A4 n4 c4] (by rfl) (by rfl) NEWS.out ONE.out H63.out HBY.out SZ.out ?_; intro v2 w2 hown2 hgrow hnil; obtain ⟨g, cap, hv2, -, -, -⟩ := owned_shape hown2 (Nat.succ_pos n); subst hv2; obtain ⟨dc, df, BXE⟩ := GOOD.out _ _ _ hown2 hgrow; have BX5 := Lib.hid BXE; have K5 := Lib.hid (hgrow); clear BXE hown2 hgrow hnil)
        have L5 : Hid ((w2.setCell ⟨w.heap.size + 1 + 1 + 1, 0, none⟩ (.slice (some ⟨g, 0, none⟩) (n + 1) cap)).heap[w.heap.size + 1 + 1 + 1 + 1 + 1 + 1 + 1 + 1 + 1]? = some (.loop (lBusy q0 q1 q2 q3 q4 q5 q6 q7 q8 q9 fn s w.heap.size))) := Lib.hid ((good15L BX4.out RW4.out K5.out).trans L4.out)
        exact l_next (R := fun e W' => (e = .returned (.bool true) ∧ LAt q0 q1 q2 q3 q4 q5 q6 q7 q8 q9 fn s w (pre ++ [p.data.toList]) c W') ∨ (e = .returned (.bool false) ∧ LStop q0 q1 q2 q3 q4 q5 q6 q7 q8 q9 fn s w (pre ++ [p.data.toList]) W')) BX5.out L5.out (by rw [List.length_append]; have := NL.out; simp; omega) (fun r => by rw [RUNZ.out r, if_neg ZZ.out]) (fun W' h => Or.inl ⟨rfl, h⟩)
    · have he0' : ¬ (er : Int) = 0 := by omega
      have heq : ((er : Int) != 0) = true := by rw [bne_iff_ne]; exact he0'
      have RUNZ := Lib.hid (RUN2.out.2 he0)
      have ER0 := Lib.hid he0
      have hcn4 : W4.cell? ⟨w.heap.size + 1 + 1 + 1 + 1, 0, none⟩ = some (.int .i64 ((pre.length : Int) + 1)) := blk_cell BX4.out.n rfl
      have d0 : W4.cell? ⟨w.heap.size, 0, none⟩ = some (.slice none 0 0) := blk_cell BX4.out.r0 rfl
      have g0 : W4.frozen? ⟨w.heap.size, 0, none⟩ = false := blk_free 0 BX4.out.r0
      have d1 : W4.cell? ⟨w.heap.size + 1, 0, none⟩ = some (.int .i64 0) := blk_cell BX4.out.r1 rfl
      have g1 : W4.frozen? ⟨w.heap.size + 1, 0, none⟩ = false := blk_free 0 BX4.out.r1
      have d1' : W4.cell? ⟨w.heap.size + 1, 1, none⟩ = some (.int .i64 0) := blk_cell BX4.out.r1 rfl
      have g1' : W4.frozen? ⟨w.heap.size + 1, 1, none⟩ = false := blk_free 1 BX4.out.r1
      have d2 : W4.cell? ⟨w.heap.size + 1 + 1, 0, none⟩ = some (.int .i64 0) := blk_cell BX4.out.r2 rfl
      have g2 : W4.frozen? ⟨w.heap.size + 1 + 1, 0, none⟩ = false := blk_free 0 BX4.out.r2
      clear he0 he0' RUN2
      gi_wp2
      refine bad13 hcn4 BX4.out.r0 BX4.out.r1 BX4.out.r2 ?_
      intro W5 g5
      gi_wp2
      exact l_halt (c := c) (R := fun e W' => (e = .returned (.bool true) ∧ LAt q0 q1 q2 q3 q4 q5 q6 q7 q8 q9 fn s w (pre ++ [p.data.toList]) c W') ∨ (e = .returned (.bool false) ∧ LStop q0 q1 q2 q3 q4 q5 q6 q7 q8 q9 fn s w (pre ++ [p.data.toList]) W')) (a := pre.length + 1) ER0.out g5.h0 g5.h1 g5.h2 ((g5.keep _ (by omega) (by omega) (by omega)).trans BX4.out.K) (BX4.out.below.trans g5.below) ((g5.keep _ (by omega) (by omega) (by omega)).trans L4.out) RUNZ.out (fun W' h => Or.inr ⟨rfl, h⟩)
end

end Go.Proofs.YtlgakejjakeomaaDoor.Lx
