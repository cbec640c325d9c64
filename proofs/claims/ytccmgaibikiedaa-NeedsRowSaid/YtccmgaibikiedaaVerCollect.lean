/- The program's parts of a text, collected into a row. -/
import Derived.Test.YtccmgaibikiedaaVerIter
import Derived.Shelf.SlIter.Collect
namespace Go.Proofs.Ytccmgaibikiedaa.Ver
set_option linter.unusedVariables false
set_option linter.unusedSimpArgs false
open Go.RowKit Go.Shelf
attribute [local go_sem] Oper.semAt_some

/-- block x holds a text. -/
def TextAt (w : World) (x : Nat) (s : ByteArray) : Prop := w.heap[x]? = some (.cells #[.string s] 9 (0, 0))
theorem TextAt.cell {w : World} {x : Nat} {s : ByteArray} (h : TextAt w x s) : w.cell? ⟨x, 0, none⟩ = some (.string s) ∧ w.frozen? ⟨x, 0, none⟩ = false := ⟨blk_cell h rfl, blk_free 0 h⟩
theorem TextAt.lt {w : World} {x : Nat} {s : ByteArray} (h : TextAt w x s) : x < w.heap.size := lt_of_block h
theorem TextAt.set {w : World} {x : Nat} {s : ByteArray} (h : TextAt w x s) (c : ByteArray) : TextAt (w.setCell ⟨x, 0, none⟩ (.string c)) x c := blk_set 0 _ h
theorem size_set (w : World) (a : Addr) (v : Value) : (w.setCell a v).heap.size = w.heap.size := by simp [World.setCell]

theorem TextAt.same {w : World} {x : Nat} {s : ByteArray} (h : TextAt w x s) : w.setCell ⟨x, 0, none⟩ (.string s) = w := by
  have e : (w.setCell ⟨x, 0, none⟩ (.string s)).heap = w.heap := Array.ext_getElem? fun {k} => by
    by_cases hk : k = x
    · subst hk; exact (h.set s).trans h.symm
    · exact Below.heap_setCell _ _ _ _ hk
  cases w
  simp only [World.setCell] at e ⊢
  rw [e]

section
variable {fn D l Bs x : Nat} {w : World} {sv : Value}
abbrev Ap (w : World) (fn : Nat) (sv : Value) (Bs l D : Nat) (pre : List (List UInt8)) (W : World) : Prop := AnyZ.ApAt Try.appendSeq58_ren w fn sv Bs l D pre W
/-- what AppendSeq keeps between two rounds, the iterator's own box at text c. -/
def JJ (w : World) (fn : Nat) (sv : Value) (Bs l D x : Nat) (pre : List (List UInt8)) (c : ByteArray) (W : World) : Prop :=
  Ap (w.setCell ⟨x, 0, none⟩ (.string c)) fn sv Bs l D pre W
theorem JJ.text {s : ByteArray} (hx : TextAt w x s) {pre : List (List UInt8)} {c : ByteArray} {W : World} (h : JJ w fn sv Bs l D x pre c W) : TextAt W x c := by
  have := h.below.block x (by rw [size_set]; exact hx.lt)
  exact this.trans (hx.set c)
theorem JJ.drew {pre : List (List UInt8)} {c : ByteArray} {W : World} (h : JJ w fn sv Bs l D x pre c W) (n : Nat) : JJ w fn sv Bs l D x pre c (W.drewN n) := by
  obtain ⟨v, hv, hr, hn⟩ := h.box
  exact ⟨⟨v, hv, hr.kept (grown_drew (row := none) n (World.grownBy.refl _ _)) (Classical.em _), hn⟩, h.L, h.K, drewN_below h.below n⟩
theorem JJ.store {s : ByteArray} (hx : TextAt w x s) (hB : w.heap.size ≤ Bs) (hl : w.heap.size ≤ l) (hD : w.heap.size ≤ D) {pre : List (List UInt8)} {c : ByteArray} {W : World} (h : JJ w fn sv Bs l D x pre c W) (c' : ByteArray) : JJ w fn sv Bs l D x pre c' (W.setCell ⟨x, 0, none⟩ (.string c')) := by
  have ht := h.text hx
  have hlt := hx.lt
  obtain ⟨v, hv, hr, hn⟩ := h.box
  have e : w.heap.size = (w.setCell ⟨x, 0, none⟩ (.string c')).heap.size := (size_set _ _ _).symm
  refine ⟨⟨v, (Below.heap_setCell _ _ _ _ (by show Bs ≠ x; omega)).trans hv, ?_, hn⟩, (Below.heap_setCell _ _ _ _ (by show l ≠ x; omega)).trans h.L, (Below.heap_setCell _ _ _ _ (by show D ≠ x; omega)).trans h.K, ?_⟩
  · rw [← e]
    have hr' := hr
    rw [size_set] at hr'
    refine hr'.kept (grown_set W ⟨x, 0, none⟩ (.string c')) ?_
    rcases hr'.2 with ⟨rfl, _⟩ | ⟨g, cap, cur, rfl, hb, _⟩
    · exact .inl rfl
    · right; simp [Value.ownBlock]; omega
  · have hb := h.below
    rw [size_set] at hb ⊢
    refine ⟨hb.os, hb.tape, hb.output, by have := hb.size; rw [size_set] at this ⊢; rw [size_set]; exact this, fun k hk => ?_⟩
    by_cases hkx : k = x
    · subst hkx
      exact (ht.set c').trans (hx.set c').symm
    · rw [Below.heap_setCell _ _ _ _ (by show k ≠ x; exact hkx), Below.heap_setCell _ _ _ _ (by show k ≠ x; exact hkx)]
      have := hb.block k hk
      rwa [Below.heap_setCell _ _ _ _ (by show k ≠ x; exact hkx)] at this
end


/-- behind AppendSeq: a row of the call's own holds the parts; what lay before lies, but for the iterator's box. -/
def SeqPost (w : World) (x : Nat) (ps : List (List UInt8)) (e : Ending) (w' : World) : Prop :=
  ∃ v c, e = .returned v ∧ w'.ownsRow w.heap.size 9 1 v ps.length (ps.map str) ∧ Below w.heap.size (w.setCell ⟨x, 0, none⟩ (.string c)) w'

set_option maxRecDepth 100000 in
set_option maxHeartbeats 2000000 in
theorem appendSeq_parts (x : Nat) (s : ByteArray) (hs : s.size ≤ 1000000) (w : World) (hx : TextAt w x s) :
    CallsIn Fence.wide 12 Try.prog 105 #[.slice none 0 0, .func (.func 100) #[] #[.pointer (some ⟨x, 0, none⟩)]] w (SeqPost w x (cutAt 46 s.data.toList)) := by
  have hxl := hx.lt
  refine callsIn_of_wp_marks Try.func105 rfl trivial ?_ rfl
  simp only [Try.ntmps105, List.size_toArray, List.length_cons, List.length_nil, Nat.reduceAdd, Nat.reduceSub, Array.replicate_succ, Array.replicate_zero, List.push_toArray, List.append_toArray, List.nil_append, List.cons_append]
  gi_wp2
  refine wpIn_rangeFunc ?_
  intro fn hfn
  obtain ⟨sv, hsv⟩ : ∃ sv : Value, sv = .func (.func 100) #[] #[.pointer (some ⟨x, 0, none⟩)] := ⟨_, rfl⟩
  obtain ⟨W0, hW0⟩ : ∃ W0, w.alloc (.cells #[.slice none 0 0] 41) = W0 := ⟨_, rfl⟩
  have hs0 : W0.heap.size = w.heap.size + 1 := by rw [← hW0]; simp
  have hv0 : W0.heap[w.heap.size]? = some (.cells #[.slice none 0 0] 41 (0, 0)) := by rw [← hW0]; exact World.alloc_heap_new w _
  have hb0 : Below w.heap.size w W0 := by rw [← hW0]; exact (Below.refl _ w).alloc (Nat.le_refl _) _
  rw [hW0]
  obtain ⟨W1, hW1⟩ : ∃ W1, (W0.alloc (.deferred (some []))).alloc (.loop (AnyZ.apRec Try.appendSeq58_ren fn sv w.heap.size W0.heap.size .ready none)) = W1 := ⟨_, rfl⟩
  have hold : ∀ k, k < W0.heap.size → W1.heap[k]? = W0.heap[k]? := fun k hk => by
    rw [← hW1]; exact (Below.heap_alloc _ _ k (by simp; omega)).trans (Below.heap_alloc _ _ k hk)
  have hb1 : Below w.heap.size w W1 := by rw [← hW1]; exact (hb0.alloc hb0.size _).alloc (by have := hb0.size; simp; omega) _
  have hs1 : W1.heap.size = W0.heap.size + 2 := by rw [← hW1]; simp
  have hself : w.setCell ⟨x, 0, none⟩ (.string s) = w := hx.same
  have hM : JJ w fn sv w.heap.size (W0.heap.size + 1) W0.heap.size x [] s W1 := by
    unfold JJ
    rw [hself]
    exact ⟨⟨_, (hold w.heap.size (by omega)).trans hv0, ⟨rfl, .inl ⟨rfl, rfl⟩⟩, by simp⟩,
     by rw [← hW1]; have := World.alloc_heap_new (W0.alloc (.deferred (some []))) (.loop (AnyZ.apRec Try.appendSeq58_ren fn sv w.heap.size W0.heap.size .ready none)); rwa [World.size_alloc] at this,
     by rw [← hW1]; exact (Below.heap_alloc _ _ _ (by simp)).trans (World.alloc_heap_new W0 _), hb1⟩
  refine ⟨W0.heap.size + 1, [{ target := .collected W0.heap.size, args := #[] }], W1, { target := .fn (.func 100) #[.pointer (some ⟨x, 0, none⟩)], args := #[.func (.yield (W0.heap.size + 1)) #[] #[]] }, W1, 100,
    #[.func (.yield (W0.heap.size + 1)) #[] #[]] ++ #[.pointer (some ⟨x, 0, none⟩)], W1, ?_, ?_, ?_, ?_, fun _ => by omega, ?_⟩
  · rw [← hW1, hsv]; exact run_enterLoop_outer _ _ _ _ _
  · simp [resolve, go_sem]
  · intro f' hf'; trivial
  · have eg := enters_of Try.func100 (by kernel_rfl) rfl
    simp [invoke, go_sem, eg]
  · refine (callsIn_wide.2 (callsIn_wide.1 (iter_any (W0.heap.size + 1) x s hs (JJ w fn sv w.heap.size (W0.heap.size + 1) W0.heap.size x) (fun _ _ => False)
      (fun pre c W hJ => (hJ.text hx).cell) (fun pre c W n hJ => hJ.drew n) (fun pre c W c' hJ => hJ.store hx (Nat.le_refl _) (by omega) (by omega) c')
      (fun pre c p W hJ hp hl => ?_) W1 hM))).mono ?_
    · have hy := AnyZ.apYield Try.appendSeq58 Fence.wide 9 (w.setCell ⟨x, 0, none⟩ (.string c)) fn hfn sv w.heap.size (W0.heap.size + 1) W0.heap.size (by omega) (by omega) (by omega) (by rw [size_set]; exact Nat.le_refl _) (by rw [size_set]; omega)
        1000001 (by unfold maxLen; omega) (by omega) pre p.data.toList W hJ (by omega)
      obtain ⟨f1, t1, a1, b1, h1, h2⟩ := hy
      exact ⟨f1, t1, a1, b1, h1, h2.mono fun e W' h => .inl ⟨h.1, h.2.1⟩⟩
    rintro e W2 ⟨⟨v0, rfl⟩, ⟨c, h2⟩ | ⟨_, _, h⟩⟩
    · obtain ⟨v, hv, hrow, hnil⟩ := h2.box
      rw [size_set] at hrow
      have hend := run_endLoop (P := Try.prog) h2.L (by simp [AnyZ.apRec])
      obtain ⟨W3, hW3⟩ : ∃ W3, W2.putObj (W0.heap.size + 1) (.loop { AnyZ.apRec Try.appendSeq58_ren fn sv w.heap.size W0.heap.size .ready none with state := .exhausted }) = W3 := ⟨_, rfl⟩
      rw [hW3] at hend
      have hg3 : W2.grownBy W3 (some (W0.heap.size + 1)) := by rw [← hW3]; exact grownBy_putObj_a _ _ _
      have hv3 : W3.heap[w.heap.size]? = some (.cells #[v] 41 (0, 0)) := by rw [← hW3]; exact (World.putObj_heap_other (by omega)).trans hv
      have hK3 : W3.heap[W0.heap.size]? = some (.deferred (some [])) := by rw [← hW3]; exact (World.putObj_heap_other (by omega)).trans h2.K
      have hrow3 := hrow.kept hg3 (ownsRow_ne_a hrow h2.L (fun cur e => by cases e))
      have hbw := h2.below
      rw [size_set] at hbw
      have hb3 : Below w.heap.size (w.setCell ⟨x, 0, none⟩ (.string c)) W3 := hbw.grown hg3 (by have := hbw.size; rw [size_set] at this; exact this) (fun k e => by cases e; omega)
      obtain ⟨hc3, hf3⟩ := cell_of_box_a hv3
      clear hW3 hW1 hold hW0
      refine ⟨none, W3, hend, ?_⟩
      gi_wp2
      rw [← hs0]
      refine ⟨by simp, .inl ⟨_, _, rfl, run_takeDeferred hK3, ?_⟩⟩
      exact ⟨_, results_tmp rfl _ _ _, v, c, rfl, hrow3.kept (grownBy_putObj_a _ _ _) (ownsRow_ne_a hrow3 hK3 (fun cur e => by cases e)), hb3.grown (grownBy_putObj_a _ _ _) (by have := hb3.size; rw [size_set] at this; exact this) (fun k e => by cases e; omega)⟩
    · exact h.elim

set_option maxHeartbeats 400000 in
theorem collect_parts (x : Nat) (s : ByteArray) (hs : s.size ≤ 1000000) (w : World) (hx : TextAt w x s) :
    Calls Try.prog 92 #[.func (.func 100) #[] #[.pointer (some ⟨x, 0, none⟩)]] w (SeqPost w x (cutAt 46 s.data.toList)) := by
  have C := callsIn_wide.1 (appendSeq_parts x s hs w hx)
  go_enter Try.func92, Try.ntmps92
  go_wp2_with fail
  go_at_call 105; refine C.mono ?_; rintro e w' ⟨v, c, rfl, hrow, hb⟩
  have HR := Lib.hid hrow
  have HB := Lib.hid hb
  clear hrow hb
  go_wp2_with fail
  go_ret
  exact ⟨v, c, rfl, HR.out, HB.out⟩

set_option maxHeartbeats 400000 in
theorem parts_any (s : ByteArray) (w : World) :
    Calls Try.prog 87 #[.string s] w fun e w' => e = .returned (.func (.func 100) #[] #[.pointer (some ⟨w.heap.size, 0, none⟩)]) ∧ w' = w.alloc (.cells #[.string s] 9) := by
  go_enter Try.func87, Try.ntmps87
  go_wp2_with fail
  go_ret
  exact ⟨rfl, rfl⟩

end Go.Proofs.Ytccmgaibikiedaa.Ver
