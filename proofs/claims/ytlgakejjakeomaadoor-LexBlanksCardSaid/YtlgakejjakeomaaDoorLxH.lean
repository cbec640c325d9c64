/- Lines of words: the whole. -/
import Derived.Test.YtlgakejjakeomaaDoorLxG
namespace Go.Proofs.YtlgakejjakeomaaDoor.Lx
set_option linter.unusedVariables false
set_option linter.unusedSimpArgs false
open Go.RowKit Go.Shelf
attribute [local go_sem] Oper.semAt_some
theorem at8 (w : World) (o0 o1 o2 o3 o4 o5 o6 o7 : Obj) {W : World} (hW : (((((((w.alloc o0).alloc o1).alloc o2).alloc o3).alloc o4).alloc o5).alloc o6).alloc o7 = W) :
    W.heap.size = w.heap.size + 1 + 1 + 1 + 1 + 1 + 1 + 1 + 1 ∧ W.heap[w.heap.size]? = some o0 ∧ W.heap[w.heap.size + 1]? = some o1 ∧ W.heap[w.heap.size + 1 + 1]? = some o2 ∧ W.heap[w.heap.size + 1 + 1 + 1]? = some o3 ∧ W.heap[w.heap.size + 1 + 1 + 1 + 1]? = some o4 ∧ W.heap[w.heap.size + 1 + 1 + 1 + 1 + 1]? = some o5 ∧ W.heap[w.heap.size + 1 + 1 + 1 + 1 + 1 + 1]? = some o6 ∧ W.heap[w.heap.size + 1 + 1 + 1 + 1 + 1 + 1 + 1]? = some o7 ∧ Below w.heap.size w W := by
  subst hW
  refine ⟨by simp, ?_, ?_, ?_, ?_, ?_, ?_, ?_, ?_, ?_⟩
  · exact (Below.heap_alloc _ _ _ (by simp <;> omega)).trans ((Below.heap_alloc _ _ _ (by simp <;> omega)).trans ((Below.heap_alloc _ _ _ (by simp <;> omega)).trans ((Below.heap_alloc _ _ _ (by simp <;> omega)).trans ((Below.heap_alloc _ _ _ (by simp <;> omega)).trans ((Below.heap_alloc _ _ _ (by simp <;> omega)).trans ((Below.heap_alloc _ _ _ (by simp)).trans (heap_alloc_new _ _)))))))
  · have h := heap_alloc_new (w.alloc o0) o1
    simp only [World.size_alloc] at h
    exact (Below.heap_alloc _ _ _ (by simp <;> omega)).trans ((Below.heap_alloc _ _ _ (by simp <;> omega)).trans ((Below.heap_alloc _ _ _ (by simp <;> omega)).trans ((Below.heap_alloc _ _ _ (by simp <;> omega)).trans ((Below.heap_alloc _ _ _ (by simp <;> omega)).trans ((Below.heap_alloc _ _ _ (by simp)).trans h)))))
  · have h := heap_alloc_new ((w.alloc o0).alloc o1) o2
    simp only [World.size_alloc] at h
    exact (Below.heap_alloc _ _ _ (by simp <;> omega)).trans ((Below.heap_alloc _ _ _ (by simp <;> omega)).trans ((Below.heap_alloc _ _ _ (by simp <;> omega)).trans ((Below.heap_alloc _ _ _ (by simp <;> omega)).trans ((Below.heap_alloc _ _ _ (by simp)).trans h))))
  · have h := heap_alloc_new (((w.alloc o0).alloc o1).alloc o2) o3
    simp only [World.size_alloc] at h
    exact (Below.heap_alloc _ _ _ (by simp <;> omega)).trans ((Below.heap_alloc _ _ _ (by simp <;> omega)).trans ((Below.heap_alloc _ _ _ (by simp <;> omega)).trans ((Below.heap_alloc _ _ _ (by simp)).trans h)))
  · have h := heap_alloc_new ((((w.alloc o0).alloc o1).alloc o2).alloc o3) o4
    simp only [World.size_alloc] at h
    exact (Below.heap_alloc _ _ _ (by simp <;> omega)).trans ((Below.heap_alloc _ _ _ (by simp <;> omega)).trans ((Below.heap_alloc _ _ _ (by simp)).trans h))
  · have h := heap_alloc_new (((((w.alloc o0).alloc o1).alloc o2).alloc o3).alloc o4) o5
    simp only [World.size_alloc] at h
    exact (Below.heap_alloc _ _ _ (by simp <;> omega)).trans ((Below.heap_alloc _ _ _ (by simp)).trans h)
  · have h := heap_alloc_new ((((((w.alloc o0).alloc o1).alloc o2).alloc o3).alloc o4).alloc o5) o6
    simp only [World.size_alloc] at h
    exact (Below.heap_alloc _ _ _ (by simp)).trans h
  · have h := heap_alloc_new (((((((w.alloc o0).alloc o1).alloc o2).alloc o3).alloc o4).alloc o5).alloc o6) o7
    simp only [World.size_alloc] at h
    exact h
  · exact ((((((((Below.refl _ w).alloc (Nat.le_refl _) _).alloc (by simp) _).alloc (by simp <;> omega) _).alloc (by simp <;> omega) _).alloc (by simp <;> omega) _).alloc (by simp <;> omega) _).alloc (by simp <;> omega) _).alloc (by simp <;> omega) _
/-- what Lines gives. -/
def LinesEnd (s : ByteArray) (w : World) (e : Ending) (w' : World) : Prop :=
  ∃ A n c VS, e = .returned (.tuple #[.slice A n c, .agg #[.int .i64 ((linesF s.data.toList).2.1.1 : Nat), .int .i64 ((linesF s.data.toList).2.1.2 : Nat)], .int .i64 ((linesF s.data.toList).2.2 : Nat)]) ∧ RowsL w.heap.size A n c (linesF s.data.toList).1 VS w' ∧ Below w.heap.size w w'
set_option maxRecDepth 100000 in
set_option maxHeartbeats 4000000 in
theorem lines_in (s : ByteArray) (w : World) (h2 : s.size ≤ 65536) :
    CallsIn Fence.wide 12 Tryd.prog 8 #[.string s] w (LinesEnd s w) := by
  have h2' : (s.size : Int) ≤ 65536 := by omega
  have e1 : decide ((s.size : Int) > 65536) = false := decide_eq_false (by omega)
  have LF : Hid (linesF s.data.toList = runL (cutAt 10 s.data.toList) 0 []) := Lib.hid (by unfold linesF; rw [if_neg (by rw [← size_l]; omega)])
  refine callsIn_of_wp_marks Tryd.func8 rfl trivial ?_ rfl
  simp only [Tryd.ntmps8, List.size_toArray, List.length_cons, List.length_nil, Nat.reduceAdd, Nat.reduceSub, Array.replicate_succ, Array.replicate_zero, List.push_toArray, List.append_toArray, List.nil_append, List.cons_append]
  gi_wp2_with (refine ⟨trivial, ?_⟩; gi_at_call 18; refine (callsIn_wide.2 (seq_any _ _)).mono ?_; rintro e w' ⟨rfl, rfl⟩)
  obtain ⟨hs0, b0, b1, b2, b3, b4, b5, b6, b7, bb⟩ := at8 w _ _ _ _ _ _ _ _ rfl
  refine lines_range _ _ _ _ _ _ _ _ _ _ s w (by omega) hs0 b0 b1 b2 b3 b4 b5 b6 b7 bb _ ?_ ?_
  · intro W c ls hb hls hrun
    obtain ⟨A, n, cp, VS, ho, hr⟩ := hb.o
    have g : G3 w.heap.size W (.slice none 0 0) (.int .i64 0) (.int .i64 0) (.int .i64 0) W := G3.refl hb.r0 hb.r1 hb.r2
    have k3 : W.cell? ⟨w.heap.size + 1 + 1 + 1, 0, none⟩ = some (.slice A n cp) := blk_cell ho rfl
    have d0 : W.cell? ⟨w.heap.size, 0, none⟩ = some (.slice none 0 0) := blk_cell hb.r0 rfl
    have g0 : W.frozen? ⟨w.heap.size, 0, none⟩ = false := blk_free 0 hb.r0
    have d1 : W.cell? ⟨w.heap.size + 1, 0, none⟩ = some (.int .i64 0) := blk_cell hb.r1 rfl
    have g1 : W.frozen? ⟨w.heap.size + 1, 0, none⟩ = false := blk_free 0 hb.r1
    have d1' : W.cell? ⟨w.heap.size + 1, 1, none⟩ = some (.int .i64 0) := blk_cell hb.r1 rfl
    have g1' : W.frozen? ⟨w.heap.size + 1, 1, none⟩ = false := blk_free 1 hb.r1
    have d2 : W.cell? ⟨w.heap.size + 1 + 1, 0, none⟩ = some (.int .i64 0) := blk_cell hb.r2 rfl
    have g2 : W.frozen? ⟨w.heap.size + 1 + 1, 0, none⟩ = false := blk_free 0 hb.r2
    have HB := Lib.hid hb
    have G := Lib.hid (((((g.set0 (x := .slice A n cp)).set1 (x := .int .i64 0)).set1' (x := .int .i64 0)).set2 (x := .int .i64 0)))
    have RW := Lib.hid (((((hr.box (grown_set W ⟨w.heap.size, 0, none⟩ (.slice A n cp)) (by show w.heap.size < w.heap.size + 10; omega)).box (grown_set _ ⟨w.heap.size + 1, 0, none⟩ (.int .i64 0)) (by show w.heap.size + 1 < w.heap.size + 10; omega)).box (grown_set _ ⟨w.heap.size + 1, 1, none⟩ (.int .i64 0)) (by show w.heap.size + 1 < w.heap.size + 10; omega)).box (grown_set _ ⟨w.heap.size + 1 + 1, 0, none⟩ (.int .i64 0)) (by show w.heap.size + 1 + 1 < w.heap.size + 10; omega)))
    have RN := Lib.hid hrun
    clear hb hr hrun g ho
    unfold lTmps
    gi_wp2
    have hK' := (G.out.keep (w.heap.size + 1 + 1 + 1 + 1 + 1 + 1 + 1 + 1) (by omega) (by omega) (by omega)).trans HB.out.K
    refine ⟨by simp, .inl ⟨_, _, rfl, run_takeDeferred hK', ?_⟩⟩
    have c0 := cell_kept (blk_cell (j := 0) (x := .slice A n cp) G.out.h0 rfl) (grownBy_putObj' _ (w.heap.size + 1 + 1 + 1 + 1 + 1 + 1 + 1 + 1) (.deferred none)) (fun r e => by cases e; exact ⟨_, hK', rfl⟩)
    have c1 := cell_kept (blk_cell (j := 0) (x := .int .i64 0) G.out.h1 rfl) (grownBy_putObj' _ (w.heap.size + 1 + 1 + 1 + 1 + 1 + 1 + 1 + 1) (.deferred none)) (fun r e => by cases e; exact ⟨_, hK', rfl⟩)
    have c1' := cell_kept (blk_cell (j := 1) (x := .int .i64 0) G.out.h1 rfl) (grownBy_putObj' _ (w.heap.size + 1 + 1 + 1 + 1 + 1 + 1 + 1 + 1) (.deferred none)) (fun r e => by cases e; exact ⟨_, hK', rfl⟩)
    have c2 := cell_kept (blk_cell (j := 0) (x := .int .i64 0) G.out.h2 rfl) (grownBy_putObj' _ (w.heap.size + 1 + 1 + 1 + 1 + 1 + 1 + 1 + 1) (.deferred none)) (fun r e => by cases e; exact ⟨_, hK', rfl⟩)
    have hbel := HB.out.below.trans G.out.below
    refine ⟨.tuple #[.slice A n cp, .agg #[.int .i64 0, .int .i64 0], .int .i64 0], ?_, ⟨A, n, cp, VS, by rw [LF.out, RN.out]; rfl, ?_, hbel.grown (grow_put _ _ _) hbel.size (fun k e => by cases e; omega)⟩⟩
    · simp [results, Tryd.f8, go_sem, c0, c1, c1', c2]
    · rw [LF.out, RN.out]
      exact (RW.out.box (grow_put _ _ _) (by show _ < w.heap.size + 10; omega)).low (by unfold R0; omega)
  · intro W a c e hE he hrun
    have HE := Lib.hid hE
    have RN := Lib.hid hrun
    clear hE hrun
    unfold lTmps
    gi_wp2
    have hK' := HE.out.K
    refine ⟨by simp, .inl ⟨_, _, rfl, run_takeDeferred hK', ?_⟩⟩
    have c0 := cell_kept (blk_cell (j := 0) (x := .slice none 0 0) HE.out.r0 rfl) (grownBy_putObj' _ (w.heap.size + 1 + 1 + 1 + 1 + 1 + 1 + 1 + 1) (.deferred none)) (fun r e => by cases e; exact ⟨_, hK', rfl⟩)
    have c1 := cell_kept (blk_cell (j := 0) (x := .int .i64 a) HE.out.r1 rfl) (grownBy_putObj' _ (w.heap.size + 1 + 1 + 1 + 1 + 1 + 1 + 1 + 1) (.deferred none)) (fun r e => by cases e; exact ⟨_, hK', rfl⟩)
    have c1' := cell_kept (blk_cell (j := 1) (x := .int .i64 c) HE.out.r1 rfl) (grownBy_putObj' _ (w.heap.size + 1 + 1 + 1 + 1 + 1 + 1 + 1 + 1) (.deferred none)) (fun r e => by cases e; exact ⟨_, hK', rfl⟩)
    have c2 := cell_kept (blk_cell (j := 0) (x := .int .i64 e) HE.out.r2 rfl) (grownBy_putObj' _ (w.heap.size + 1 + 1 + 1 + 1 + 1 + 1 + 1 + 1) (.deferred none)) (fun r e => by cases e; exact ⟨_, hK', rfl⟩)
    have hbel := HE.out.below
    refine ⟨.tuple #[.slice none 0 0, .agg #[.int .i64 a, .int .i64 c], .int .i64 e], ?_, ⟨none, 0, 0, [], by rw [LF.out, RN.out], by rw [LF.out, RN.out]; exact RowsL.nil _ _, hbel.grown (grow_put _ _ _) hbel.size (fun k e => by cases e; omega)⟩⟩
    simp [results, Tryd.f8, go_sem, c0, c1, c1', c2]
set_option maxRecDepth 100000 in
set_option maxHeartbeats 4000000 in
theorem lines_big (s : ByteArray) (w : World) (h2 : 65536 < s.size) (hm : s.size ≤ maxLen) :
    Calls Tryd.prog 8 #[.string s] w (LinesEnd s w) := by
  have h2' : (65536 : Int) < (s.size : Int) := by omega
  have LF : Hid (linesF s.data.toList = ([], (0, 0), 4)) := Lib.hid (by unfold linesF; rw [if_pos (by rw [← size_l]; omega)])
  unfold maxLen at hm
  go_enter Tryd.func8, Tryd.ntmps8
  go_wp2_with fail
  exact bodyPost_ret (v := .tuple #[.slice none 0 0, .agg #[.int .i64 0, .int .i64 0], .int .i64 4]) (by simp [results, Tryd.results8, go_sem]) rfl ⟨none, 0, 0, [], by rw [LF.out]; rfl, by rw [LF.out]; exact RowsL.nil _ _, ((Below.refl _ w).alloc (Nat.le_refl _) _).alloc (by simp) _ |>.alloc (by simp; omega) _⟩
theorem lines_any (s : ByteArray) (w : World) (hm : s.size ≤ maxLen) : Calls Tryd.prog 8 #[.string s] w (LinesEnd s w) := by
  rcases Nat.lt_or_ge 65536 s.size with h | h
  · exact lines_big s w h hm
  · exact callsIn_wide.1 (lines_in s w h)
end Go.Proofs.YtlgakejjakeomaaDoor.Lx
