/- Lines of words: the iterator is made. -/
import Derived.Test.YtlgakejjakeomaaDoorLxF
namespace Go.Proofs.YtlgakejjakeomaaDoor.Lx
set_option linter.unusedVariables false
set_option linter.unusedSimpArgs false
open Go.RowKit Go.Shelf
attribute [local go_sem] Oper.semAt_some
abbrev seqW (s : ByteArray) (w : World) : World := ((w.alloc (.cells #[.string s] 9)).alloc (.cells #[.string ⟨#[10]⟩] 9)).alloc (.cells #[.int .i64 0] 3)
abbrev seqV (b : Nat) : Value := .func (.func 45) #[] #[.pointer (some ⟨b + 1, 0, none⟩), .pointer (some ⟨b, 0, none⟩), .pointer (some ⟨b + 1 + 1, 0, none⟩)]
set_option maxRecDepth 100000 in
set_option maxHeartbeats 2000000 in
theorem splitSeq_any (s : ByteArray) (w : World) : Calls Tryd.prog 33 #[.string s, .string ⟨#[10]⟩, .int .i64 0] w fun e w' => e = .returned (seqV w.heap.size) ∧ w' = seqW s w := by
  go_enter Tryd.func33, Tryd.ntmps33
  go_wp2
  go_ret
  exact ⟨rfl, rfl⟩
set_option maxRecDepth 100000 in
set_option maxHeartbeats 2000000 in
theorem seq_any (s : ByteArray) (w : World) : Calls Tryd.prog 18 #[.string s, .string ⟨#[10]⟩] w fun e w' => e = .returned (seqV w.heap.size) ∧ w' = seqW s w := by
  go_enter Tryd.func18, Tryd.ntmps18
  go_wp2_with (go_at_call 33; refine (splitSeq_any _ _).mono ?_; rintro e w' ⟨rfl, rfl⟩)
  go_ret
  exact ⟨rfl, rfl⟩

section
variable {q0 q1 q2 q3 q4 q5 q6 q7 q8 q9 : String} {fn : Nat} {s : ByteArray} {w : World}
theorem LAt.drew {pre : List Bs} {c : ByteArray} {W : World} (h : LAt q0 q1 q2 q3 q4 q5 q6 q7 q8 q9 fn s w pre c W) (k : Nat) : LAt q0 q1 q2 q3 q4 q5 q6 q7 q8 q9 fn s w pre c (W.drewN k) := by
  obtain ⟨⟨ls, hb, h1, h2⟩, hL⟩ := h
  obtain ⟨A, n, cp, VS, ho, hr⟩ := hb.o
  exact ⟨⟨ls, ⟨hb.r0, hb.r1, hb.r2, ⟨A, n, cp, VS, ho, ⟨hr.own, hr.len, hr.each⟩⟩, hb.n, hb.x, hb.sp, hb.sv, hb.K, drewN_below hb.below k, hb.sz⟩, h1, h2⟩, hL⟩
theorem LAt.store {pre : List Bs} {c : ByteArray} {W : World} (h : LAt q0 q1 q2 q3 q4 q5 q6 q7 q8 q9 fn s w pre c W) (c' : ByteArray) : LAt q0 q1 q2 q3 q4 q5 q6 q7 q8 q9 fn s w pre c' (W.setCell ⟨w.heap.size + 1 + 1 + 1 + 1 + 1, 0, none⟩ (.string c')) := by
  obtain ⟨⟨ls, hb, h1, h2⟩, hL⟩ := h
  exact ⟨⟨ls, hb.setx c', h1, h2⟩, (Below.heap_setCell _ _ _ _ (by show _ ≠ w.heap.size + 1 + 1 + 1 + 1 + 1; omega)).trans hL⟩
theorem LAt.cells {pre : List Bs} {c : ByteArray} {W : World} (h : LAt q0 q1 q2 q3 q4 q5 q6 q7 q8 q9 fn s w pre c W) :
    W.cell? ⟨w.heap.size + 1 + 1 + 1 + 1 + 1, 0, none⟩ = some (.string c) ∧ W.frozen? ⟨w.heap.size + 1 + 1 + 1 + 1 + 1, 0, none⟩ = false ∧ W.cell? ⟨w.heap.size + 1 + 1 + 1 + 1 + 1 + 1, 0, none⟩ = some (.string ⟨#[10]⟩) ∧ W.cell? ⟨w.heap.size + 1 + 1 + 1 + 1 + 1 + 1 + 1, 0, none⟩ = some (.int .i64 0) := by
  obtain ⟨⟨ls, hb, h1, h2⟩, hL⟩ := h
  exact ⟨blk_cell hb.x rfl, blk_free 0 hb.x, blk_cell hb.sp rfl, blk_cell hb.sv rfl⟩
end
structure LOut (w : World) (a c e : Nat) (W : World) : Prop where
  r0 : W.heap[w.heap.size]? = some (.cells #[.slice none 0 0] 23 (0, 0))
  r1 : W.heap[w.heap.size + 1]? = some (.cells #[.int .i64 a, .int .i64 c] 25 (0, 0))
  r2 : W.heap[w.heap.size + 1 + 1]? = some (.cells #[.int .i64 e] 26 (0, 0))
  K : W.heap[w.heap.size + 1 + 1 + 1 + 1 + 1 + 1 + 1 + 1]? = some (.deferred (some []))
  below : Below w.heap.size w W
set_option maxRecDepth 100000 in
set_option maxHeartbeats 2000000 in
theorem lines_range (q0 q1 q2 q3 q4 q5 q6 q7 q8 q9 : String) (s : ByteArray) (w : World) (h2 : s.size ≤ 100000) {W0 : World} (hs0 : W0.heap.size = w.heap.size + 1 + 1 + 1 + 1 + 1 + 1 + 1 + 1)
    (b0 : W0.heap[w.heap.size]? = some (.cells #[.slice none 0 0] 23 (0, 0))) (b1 : W0.heap[w.heap.size + 1]? = some (.cells #[.int .i64 0, .int .i64 0] 25 (0, 0))) (b2 : W0.heap[w.heap.size + 1 + 1]? = some (.cells #[.int .i64 0] 26 (0, 0)))
    (b3 : W0.heap[w.heap.size + 1 + 1 + 1]? = some (.cells #[.slice none 0 0] 23 (0, 0))) (b4 : W0.heap[w.heap.size + 1 + 1 + 1 + 1]? = some (.cells #[.int .i64 0] 3 (0, 0))) (b5 : TextAt W0 (w.heap.size + 1 + 1 + 1 + 1 + 1) s) (b6 : TextAt W0 (w.heap.size + 1 + 1 + 1 + 1 + 1 + 1) ⟨#[10]⟩) (b7 : W0.heap[w.heap.size + 1 + 1 + 1 + 1 + 1 + 1 + 1]? = some (.cells #[.int .i64 0] 3 (0, 0)))
    (bb : Below w.heap.size w W0) (Q : Exit → Act → World → Prop)
    (hdone : ∀ W c ls, LBox w (cutAt 10 s.data.toList).length c ls W → ls.length ≤ 2000 → runL (cutAt 10 s.data.toList) 0 [] = (ls, (0, 0), 0) → Q .normal { tmps := lTmps s w.heap.size undef, defers := [{ target := .collected (w.heap.size + 1 + 1 + 1 + 1 + 1 + 1 + 1 + 1), args := #[] }] } W)
    (hstop : ∀ W a c e, LOut w a c e W → e ≠ 0 → runL (cutAt 10 s.data.toList) 0 [] = ([], (a, c), e) → Q .ret { tmps := lTmps s w.heap.size undef, defers := [{ target := .collected (w.heap.size + 1 + 1 + 1 + 1 + 1 + 1 + 1 + 1), args := #[] }] } W) :
    (Code.rangeFunc (.tmp 17) #[18] (linesAssign q0 q1 q2 q3 q4 q5 q6 q7 q8 q9) (linesBody q0 q1 q2 q3 q4 q5 q6 q7 q8 q9)).wpIn Fence.wide 12 Tryd.prog Q { tmps := lTmps s w.heap.size undef, defers := [] } W0 := by
  refine wpIn_rangeFunc ?_
  intro fn hfn
  obtain ⟨W1, hW1⟩ : ∃ W1, (W0.alloc (.deferred (some []))).alloc (.loop (lRec q0 q1 q2 q3 q4 q5 q6 q7 q8 q9 fn s w.heap.size W0.heap.size .ready none)) = W1 := ⟨_, rfl⟩
  have hold : ∀ k, k < W0.heap.size → W1.heap[k]? = W0.heap[k]? := fun k hk => by
    rw [← hW1]; exact (Below.heap_alloc _ _ k (by simp; omega)).trans (Below.heap_alloc _ _ k hk)
  have hs1 : W1.heap.size = w.heap.size + 1 + 1 + 1 + 1 + 1 + 1 + 1 + 1 + 1 + 1 := by rw [← hW1]; simp; omega
  have hM : LAt q0 q1 q2 q3 q4 q5 q6 q7 q8 q9 fn s w [] s W1 :=
    ⟨⟨[], ⟨(hold _ (by omega)).trans b0, (hold _ (by omega)).trans b1, (hold _ (by omega)).trans b2, ⟨none, 0, 0, [], (hold _ (by omega)).trans b3, RowsL.nil _ _⟩, (hold _ (by omega)).trans b4, (hold _ (by omega)).trans b5, (hold _ (by omega)).trans b6, (hold _ (by omega)).trans b7,
       by rw [← hW1, ← hs0]; exact (Below.heap_alloc _ _ _ (by simp)).trans (heap_alloc_new W0 _),
       by rw [← hW1]; exact (bb.alloc (by omega) _).alloc (by simp; omega) _, by unfold R0; omega⟩, by simp, fun r => rfl⟩,
     by rw [← hW1, ← hs0]; have h := heap_alloc_new (W0.alloc (.deferred (some []))) (.loop (lRec q0 q1 q2 q3 q4 q5 q6 q7 q8 q9 fn s w.heap.size W0.heap.size .ready none)); rw [World.size_alloc] at h; exact h⟩
  refine ⟨W0.heap.size + 1, [{ target := .collected W0.heap.size, args := #[] }], W1, { target := .fn (.func 45) #[.pointer (some ⟨w.heap.size + 1 + 1 + 1 + 1 + 1 + 1, 0, none⟩), .pointer (some ⟨w.heap.size + 1 + 1 + 1 + 1 + 1, 0, none⟩), .pointer (some ⟨w.heap.size + 1 + 1 + 1 + 1 + 1 + 1 + 1, 0, none⟩)], args := #[.func (.yield (W0.heap.size + 1)) #[] #[]] }, W1, 45,
    #[.func (.yield (W0.heap.size + 1)) #[] #[]] ++ #[.pointer (some ⟨w.heap.size + 1 + 1 + 1 + 1 + 1 + 1, 0, none⟩), .pointer (some ⟨w.heap.size + 1 + 1 + 1 + 1 + 1, 0, none⟩), .pointer (some ⟨w.heap.size + 1 + 1 + 1 + 1 + 1 + 1 + 1, 0, none⟩)], W1, ?_, ?_, ?_, ?_, fun _ => by omega, ?_⟩
  · rw [← hW1]; exact run_enterLoop_outer _ _ _ _ _
  · simp [resolve, go_sem, lTmps]
  · intro f' hf'; trivial
  · have eg := enters_of Tryd.func45 (by kernel_rfl) rfl
    simp [invoke, go_sem, eg]
  · rw [hs0]
    refine (callsIn_wide.2 (callsIn_wide.1 (iter_any (w.heap.size + 1 + 1 + 1 + 1 + 1 + 1 + 1 + 1 + 1) (w.heap.size + 1 + 1 + 1 + 1 + 1) s (by omega) (LAt q0 q1 q2 q3 q4 q5 q6 q7 q8 q9 fn s w) (LStop q0 q1 q2 q3 q4 q5 q6 q7 q8 q9 fn s w)
      (fun pre c W hJ => hJ.cells) (fun pre c W n hJ => hJ.drew n) (fun pre c W c' hJ => hJ.store c')
      (fun pre c p W hJ hp hl => l_yield hfn hJ p hp hl) W1 hM))).mono ?_
    rintro e W2 ⟨⟨v0, rfl⟩, ⟨c, h⟩ | ⟨pre, hpre, h⟩⟩
    · obtain ⟨⟨ls, hb, h1, h3⟩, hL⟩ := h
      exact ⟨none, _, run_endLoop hL (by simp [lRec]), hdone _ c ls (hb.other (grow_put _ _ _) (by omega) (by unfold R0; omega)) h1 (by have := h3 []; rw [List.append_nil] at this; rw [this]; rfl)⟩
    · obtain ⟨a, c, e, he, h0, h1, h3, h4⟩ := h.r
      have hbad : runL (cutAt 10 s.data.toList) 0 [] = ([], (a, c), e) := by
        obtain ⟨r, hr⟩ := hpre
        rw [← hr, h4]
      refine ⟨some .ret, _, run_endLoop h.L (by simp [lRec]), ?_⟩
      have H := hstop _ a c e ⟨(World.putObj_heap_other (by omega)).trans h0, (World.putObj_heap_other (by omega)).trans h1, (World.putObj_heap_other (by omega)).trans h3, (World.putObj_heap_other (by omega)).trans h.K,
        h.below.grown (grow_put W2 (w.heap.size + 1 + 1 + 1 + 1 + 1 + 1 + 1 + 1 + 1) (.loop { lRec q0 q1 q2 q3 q4 q5 q6 q7 q8 q9 fn s w.heap.size (w.heap.size + 1 + 1 + 1 + 1 + 1 + 1 + 1 + 1) .done (some .ret) with state := .exhausted })) h.below.size (fun k e => by cases e; omega)⟩ he hbad
      have HH := Lib.hid H
      clear hdone hstop H
      gi_wp2
      exact HH.out
end Go.Proofs.YtlgakejjakeomaaDoor.Lx
