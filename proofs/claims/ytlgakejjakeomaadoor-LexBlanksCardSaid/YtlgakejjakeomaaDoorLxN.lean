/- Lines of words: the law walked. -/
import Derived.Test.YtlgakejjakeomaaDoorLxM
namespace Go.Proofs.YtlgakejjakeomaaDoor.Lx
set_option linter.unusedVariables false
set_option linter.unusedSimpArgs false
open Go.RowKit
theorem reflines_any (s : ByteArray) (w : World) (hm : s.size ≤ maxLen) : Calls Tryd.prog 9 #[.string s] w (LRefEnd s w) := by
  rcases Nat.lt_or_ge 65536 s.size with h | h
  · exact reflines_big s w h hm
  · exact reflines_small s w h
theorem lx_mem {W1 W2 W3 : World} {o1 o2 : Obj} (h2 : Below (W1.alloc o1).heap.size (W1.alloc o1) W2) (h3 : Below (W2.alloc o2).heap.size (W2.alloc o2) W3) :
    W3.heap[W1.heap.size]? = some o1 ∧ W3.heap[W2.heap.size]? = some o2 ∧ Below W1.heap.size W1 W3 ∧ Below W2.heap.size W2 W3 := by
  have s1 := h2.size
  have s2 := h3.size
  rw [World.size_alloc] at s1 s2
  have b2 : Below W2.heap.size W2 W3 := ((Below.refl W2.heap.size W2).alloc (Nat.le_refl _) o2).trans (h3.mono (by simp))
  have b1 : Below W1.heap.size W1 W2 := ((Below.refl W1.heap.size W1).alloc (Nat.le_refl _) o1).trans (h2.mono (by simp))
  have e2 := (h3.block W2.heap.size (by simp)).trans (heap_alloc_new W2 o2)
  have e1 := (h2.block W1.heap.size (by simp)).trans (heap_alloc_new W1 o1)
  exact ⟨(b2.block _ (by omega)).trans e1, e2, b1.trans (b2.mono (by omega)), b2⟩
set_option maxHeartbeats 4000000 in
set_option maxRecDepth 100000 in
theorem lexLines_go (s : ByteArray) (w : World) (hm : s.size ≤ maxLen) : Calls Tryd.prog 3 #[.string s] w fun e w' => e = .returned (.bool true) ∧ Below w.heap.size w w' := by
  have HM := Lib.hid hm
  unfold maxLen at hm
  by_cases h : 70000 < (s.size : Int)
  · go_enter Tryd.func3, Tryd.ntmps3
    go_wp2_with (go_at_call 7; refine (fixed_any _).mono ?_; rintro e W1 ⟨rfl, hb⟩; have HB := Lib.hid hb; clear hb)
    go_ret
    exact ⟨rfl, HB.out⟩
  · obtain ⟨⟨ls, ⟨a, b⟩, er⟩, hF⟩ : ∃ F, linesF s.data.toList = F := ⟨_, rfl⟩
    have FF := Lib.hid hF
    clear hF
    go_enter Tryd.func3, Tryd.ntmps3
    go_wp2_with (first
      | (go_at_call 8; refine (lines_any _ _ HM.out).mono ?_; rintro e W1 ⟨A, n, c, VS, rfl, hr, hb⟩; rw [FF.out] at hr ⊢; have HR := Lib.hid hr; have HB := Lib.hid hb; clear hr hb)
      | (go_at_call 9; refine (reflines_any _ _ HM.out).mono ?_; rintro e W2 ⟨A', n', c', VS', rfl, hr, hb⟩; rw [FF.out] at hr ⊢; have HR' := Lib.hid hr; have HB' := Lib.hid hb; clear hr hb)
      | (go_at_call 7; refine (fixed_any _).mono ?_; rintro e W3 ⟨rfl, hb⟩; obtain ⟨m1, m2, m3, m4⟩ := lx_mem HB'.out hb; have SM := Lib.hid (same_any (HR.out.below m3) (HR'.out.below m4)); have BE := Lib.hid (HB.out.trans (m3.mono HB.out.size)); have u0 := blk_cell (j := 0) m1 rfl; have u1 := blk_cell (j := 1) m1 rfl; have v0 := blk_cell (j := 0) m2 rfl; have v1 := blk_cell (j := 1) m2 rfl; have v2 := blk_cell (j := 2) m2 rfl; have v3 := blk_cell (j := 3) m2 rfl; clear hb m1 m2 m3 m4)
      | (go_at_call 10; refine SM.out.mono ?_; rintro e W4 ⟨rfl, q, rfl⟩))
    go_ret
    exact ⟨rfl, drewN_below BE.out q⟩

end Go.Proofs.YtlgakejjakeomaaDoor.Lx
