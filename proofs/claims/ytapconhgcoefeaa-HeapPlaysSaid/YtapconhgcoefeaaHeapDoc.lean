/- The heap, the document's two slices and one operation, side by side in memory. -/
import Derived.Test.YtapconhgcoefeaaHeapFirst
namespace Go.Proofs.Ytapconhgcoefeaa.Heap
set_option linter.unusedVariables false
open Go.RowKit

structure PQ (w0 : World) (I : Ids) (gi gs ob n : Nat) (op : Array Value) (scH : List Nat) (innH : Nat → Bool) (scD : List Nat) (innD : Nat → Bool) (w : World) : Prop where
  is : Is w I n scH innH
  ins : w.heap[gi]? = some (.cells (bools n innD).toArray 4 (0, 0))
  scr : w.heap[gs]? = some (.cells (scrs n scD).toArray 56 (0, 0))
  obj : w.heap[ob]? = some (.cells op 70 (0, 0))
  ne : gi ≠ gs ∧ ob ≠ gi ∧ ob ≠ gs
  out : ¬ I.has gi ∧ ¬ I.has gs ∧ ¬ I.has ob
  lo : (∀ k, I.has k → w0.heap.size ≤ k) ∧ w0.heap.size ≤ gi ∧ w0.heap.size ≤ gs ∧ w0.heap.size ≤ ob
  bel : Below w0.heap.size w0 w

variable {w0 w w' : World} {I : Ids} {gi gs ob n : Nat} {op : Array Value} {scH scH' scD scD' : List Nat} {innH innH' innD innD' : Nat → Bool}

theorem PQ.heap (h : PQ w0 I gi gs ob n op scH innH scD innD w) (hi : Is w' I n scH' innH') (hs : Sm I.has w w') : PQ w0 I gi gs ob n op scH' innH' scD innD w' := by
  refine ⟨hi, ?_, ?_, ?_, h.ne, h.out, h.lo, h.bel.trans (hs.below h.bel.size h.lo.1)⟩
  · rw [hs.block _ (lt_of_block h.ins) h.out.1]; exact h.ins
  · rw [hs.block _ (lt_of_block h.scr) h.out.2.1]; exact h.scr
  · rw [hs.block _ (lt_of_block h.obj) h.out.2.2]; exact h.obj
theorem PQ.same (h : PQ w0 I gi gs ob n op scH innH scD innD w) (hs : Sm (fun _ => False) w w') : PQ w0 I gi gs ob n op scH innH scD innD w' := by
  refine ⟨h.is.keep hs (fun _ _ x => x), ?_, ?_, ?_, h.ne, h.out, h.lo, h.bel.trans (hs.below h.bel.size (fun _ x => x.elim))⟩
  · rw [hs.block _ (lt_of_block h.ins) (fun x => x)]; exact h.ins
  · rw [hs.block _ (lt_of_block h.scr) (fun x => x)]; exact h.scr
  · rw [hs.block _ (lt_of_block h.obj) (fun x => x)]; exact h.obj
theorem PQ.drewN (h : PQ w0 I gi gs ob n op scH innH scD innD w) (m : Nat) : PQ w0 I gi gs ob n op scH innH scD innD (w.drewN m) := h.same ((Sm.refl _ _).drewN m)
theorem PQ.congr (h : PQ w0 I gi gs ob n op scH innH scD innD w) (e : ∀ x, 1 ≤ x → x ≤ n → innH x = innH' x) (d : ∀ x, 1 ≤ x → x ≤ n → innD x = innD' x) : PQ w0 I gi gs ob n op scH innH' scD innD' w := by
  refine ⟨h.is.congr e, ?_, h.scr, h.obj, h.ne, h.out, h.lo, h.bel⟩
  rw [h.ins]
  have : bools n innD = bools n innD' := by
    unfold bools
    apply List.map_congr_left
    intro i hi
    rw [List.mem_range] at hi
    rw [d (i + 1) (by omega) (by omega)]
  rw [this]
theorem PQ.setIn (h : PQ w0 I gi gs ob n op scH innH scD innD w) (i : Nat) (v : Bool) (h1 : i < n → innD' (i + 1) = v) (h2 : ∀ x, 1 ≤ x → x ≤ n → x ≠ i + 1 → innD' x = innD x) :
    PQ w0 I gi gs ob n op scH innH scD innD' (w.setCell ⟨gi, i, none⟩ (.bool v)) := by
  refine ⟨h.is.keep (S := fun k => k = gi) ((Sm.refl _ _).set _ _ rfl) (fun k hk e => h.out.1 (by rw [← e]; exact hk)), ?_, ?_, ?_, h.ne, h.out, h.lo, h.bel.setCell h.lo.2.1 _⟩
  · rw [blk_set _ _ h.ins, ← bools_set n innD innD' i v h1 h2]
    simp
  · rw [set_other _ _ _ _ _ (fun e => h.ne.1 e.symm)]; exact h.scr
  · rw [set_other _ _ _ _ _ h.ne.2.1]; exact h.obj
theorem PQ.setSc (h : PQ w0 I gi gs ob n op scH innH scD innD w) (i v : Nat) (h1 : i < n → scD'.getD (i + 1) 0 = v) (h2 : ∀ x, 1 ≤ x → x ≤ n → x ≠ i + 1 → scD'.getD x 0 = scD.getD x 0) :
    PQ w0 I gi gs ob n op scH innH scD' innD (w.setCell ⟨gs, i, none⟩ (.int .u64 (v : Nat))) := by
  refine ⟨h.is.keep (S := fun k => k = gs) ((Sm.refl _ _).set _ _ rfl) (fun k hk e => h.out.2.1 (by rw [← e]; exact hk)), ?_, ?_, ?_, h.ne, h.out, h.lo, h.bel.setCell h.lo.2.2.1 _⟩
  · rw [set_other _ _ _ _ _ h.ne.1]; exact h.ins
  · rw [blk_set _ _ h.scr, ← scrs_set n scD scD' i v h1 h2]
    simp
  · rw [set_other _ _ _ _ _ h.ne.2.2]; exact h.obj
theorem PQ.scs (h : PQ w0 I gi gs ob n op scH innH scD innD w) (e : ∀ x, 1 ≤ x → x ≤ n → scD.getD x 0 = scD'.getD x 0) : PQ w0 I gi gs ob n op scH innH scD' innD w := by
  refine ⟨h.is, h.ins, ?_, h.obj, h.ne, h.out, h.lo, h.bel⟩
  rw [h.scr]
  have : scrs n scD = scrs n scD' := by
    unfold scrs
    apply List.map_congr_left
    intro i hi
    rw [List.mem_range] at hi
    rw [e (i + 1) (by omega) (by omega)]
  rw [this]
theorem PQ.bit (h : PQ w0 I gi gs ob n op scH innH scD innD w) (i : Nat) (hi : i < n) : w.cell? ⟨gi, i, none⟩ = some (.bool (innD (i + 1))) := blk_cell h.ins (by simpa using bools_at n innD i hi)
theorem PQ.score (h : PQ w0 I gi gs ob n op scH innH scD innD w) (i : Nat) (hi : i < n) : w.cell? ⟨gs, i, none⟩ = some (.int .u64 (scD.getD (i + 1) 0 : Nat)) := blk_cell h.scr (by simpa using scrs_at n scD i hi)
theorem PQ.fi (h : PQ w0 I gi gs ob n op scH innH scD innD w) (i : Nat) : w.frozen? ⟨gi, i, none⟩ = false := blk_free i h.ins
theorem PQ.fs (h : PQ w0 I gi gs ob n op scH innH scD innD w) (i : Nat) : w.frozen? ⟨gs, i, none⟩ = false := blk_free i h.scr

theorem halfTo_get (j : Nat) (sc : List Nat) (x : Nat) : (halfTo j sc).getD x 0 = if x < j then sc.getD x 0 / 2 else sc.getD x 0 := by
  by_cases hx : x < sc.length
  · unfold halfTo
    simp only [List.getD_eq_getElem?_getD]
    by_cases h : x < j
    · have hl : x < ((halved sc).take j).length := by rw [List.length_take, halved_len]; omega
      rw [if_pos h, List.getElem?_append_left hl, List.getElem?_take, if_pos h]
      simp [halved, hx]
    · have hl : ((halved sc).take j).length ≤ x := by rw [List.length_take, halved_len]; omega
      rw [if_neg h, List.getElem?_append_right hl, List.getElem?_drop]
      congr 2
      rw [List.length_take, halved_len]
      omega
  · have h1 : (halfTo j sc).getD x 0 = 0 := by
      rw [List.getD_eq_getElem?_getD, List.getElem?_eq_none (by rw [halfTo_len]; omega)]; rfl
    have h2 : sc.getD x 0 = 0 := by
      rw [List.getD_eq_getElem?_getD, List.getElem?_eq_none (by omega)]; rfl
    rw [h1, h2]
    simp

/-- one of the document's scores is halved. -/
theorem PQ.half {j : Nat} {sc : List Nat} (h : PQ w0 I gi gs ob n op scH innH (halfTo (j + 1) sc) innD w) : PQ w0 I gi gs ob n op scH innH (halfTo (j + 2) sc) innD (w.setCell ⟨gs, j, none⟩ (.int .u64 ((sc.getD (j + 1) 0 / 2 : Nat) : Int))) := by
  refine h.setSc j _ (fun _ => ?_) (fun x _ _ hx => ?_)
  · rw [halfTo_get, if_pos (by omega)]
  · rw [halfTo_get, halfTo_get]
    by_cases e : x < j + 1
    · rw [if_pos (by omega), if_pos e]
    · rw [if_neg (by omega), if_neg e]
theorem PQ.half0 {sc : List Nat} (h : PQ w0 I gi gs ob n op scH innH sc innD w) : PQ w0 I gi gs ob n op scH innH (halfTo (0 + 1) sc) innD w :=
  h.scs (fun x h1 _ => by rw [halfTo_get, if_neg (by omega)])
theorem PQ.halfAll {sc : List Nat} (h : PQ w0 I gi gs ob n op scH innH (halfTo (n + 1) sc) innD w) : PQ w0 I gi gs ob n op scH innH (halved sc) innD w :=
  h.scs (fun x _ h2 => by rw [halfTo_get, if_pos (by omega), halved_at])

end Go.Proofs.Ytapconhgcoefeaa.Heap
