/- Rows of rows that a call makes. -/
import Derived.Test.YtbffcehaednefaaOrderMoreMath
import Derived.Test.YtbffcehaednefaaOrderF
import Derived.Deep.AppendLies
namespace Go.Proofs.Ytbffcehaednefaa.Order
set_option linter.unusedVariables false
set_option linter.unusedSimpArgs false
open Go.RowKit

/-- at place p of block g. -/
def upd2 {α : Type} (F : Nat → Nat → α) (g p : Nat) (x : α) : Nat → Nat → α := fun g' p' => if g' = g ∧ p' = p then x else F g' p'
theorem upd2_at {α : Type} (F : Nat → Nat → α) (g p : Nat) (x : α) : upd2 F g p x g p = x := by simp [upd2]
theorem upd2_ne {α : Type} (F : Nat → Nat → α) {g p g' p' : Nat} (x : α) (h : ¬ (g' = g ∧ p' = p)) : upd2 F g p x g' p' = F g' p' := by simp [upd2, h]
theorem upd2_row {α : Type} (F : Nat → Nat → α) (g p : Nat) (x : α) : upd2 F g p x g = upd (F g) p x := by
  funext q
  simp [upd2, upd]
theorem upd2_other {α : Type} (F : Nat → Nat → α) {g g' : Nat} (p : Nat) (x : α) (h : g' ≠ g) : upd2 F g p x g' = F g' := by
  funext q
  simp [upd2, h]

abbrev rowV (l : List Int) : List Value := l.map (Value.int .i64)
/-- blocks of n slices, each slice's row the call's own, no two of one block. -/
structure RS (base n : Nat) (G : Nat → Prop) (V : Nat → Nat → Value) (L : Nat → Nat → List Int) (w wr : World) : Prop where
  bel : Below base w wr
  lo : ∀ g, G g → base ≤ g
  blk : ∀ g, G g → ∃ cs, wr.heap[g]? = some (.cells cs 52 (0, 0)) ∧ ∀ p, p < n → cs[p]? = some (V g p)
  own : ∀ g p, G g → p < n → wr.ownsRow base 3 1 (V g p) (L g p).length (rowV (L g p))
  apart : ∀ g p g' p' k, G g → p < n → G g' → p' < n → (V g p).ownBlock = some k → (V g' p').ownBlock = some k → g = g' ∧ p = p'
  far : ∀ g p k, G g → p < n → (V g p).ownBlock = some k → ¬ G k
variable {base n : Nat} {G : Nat → Prop} {V : Nat → Nat → Value} {L : Nat → Nat → List Int} {w wr : World}
theorem RS.size (h : RS base n G V L w wr) {g : Nat} (hG : G g) : g < wr.heap.size ∧ base ≤ wr.heap.size := by
  obtain ⟨cs, hb, _⟩ := h.blk g hG
  have := lt_of_block hb
  have := h.lo g hG
  omega
theorem RS.cell (h : RS base n G V L w wr) {g p : Nat} (hG : G g) (hp : p < n) : wr.cell? ⟨g, p, none⟩ = some (V g p) ∧ wr.frozen? ⟨g, p, none⟩ = false := by
  obtain ⟨cs, hb, hc⟩ := h.blk g hG
  exact ⟨blk_cell hb (hc p hp), blk_free p hb⟩
/-- a world that has grown, in one row at most. -/
theorem grown_of_alloc {w w' : World} {o : Obj} {row row' : Option Nat} (h : (w.alloc o).grownBy w' row') (hr : row' = row ∨ row' = some w.heap.size) : w.grownBy w' row := by
  refine ⟨h.os, h.tape, h.output, Nat.le_trans (by simp) h.size, fun k hk hne => ?_⟩
  refine (h.block k (by simp; omega) ?_).trans (Below.heap_alloc _ _ _ hk)
  rcases hr with e | e
  · rw [e]; exact hne
  · rw [e]; intro e2; injection e2 with e2; omega
theorem RS.put (h : RS base n G V L w wr) {g p : Nat} (hG : G g) (hp : p < n) {w3 : World} {v : Value} {l : List Int} (hgr : wr.grownBy w3 (V g p).ownBlock)
    (hown : w3.ownsRow base 3 1 v l.length (rowV l)) (hl : ∀ k, v.ownBlock = some k → (V g p).ownBlock = some k ∨ wr.heap.size ≤ k) :
    RS base n G (upd2 V g p v) (upd2 L g p l) w (w3.setCell ⟨g, p, none⟩ v) := by
  have hz := h.size hG
  have blk3 : ∀ g', G g' → w3.heap[g']? = wr.heap[g']? := fun g' hG' => hgr.block g' (h.size hG').1 (fun e => h.far g p g' hG hp e.symm hG')
  have nG : ∀ k, v.ownBlock = some k → ¬ G k := fun k e hk => by
    rcases hl k e with e1 | e1
    · exact h.far g p k hG hp e1 hk
    · have := (h.size hk).1; omega
  have nV : ∀ g' p' k, G g' → p' < n → ¬ (g' = g ∧ p' = p) → (V g' p').ownBlock = some k → v.ownBlock ≠ some k := fun g' p' k hG' hp' hne e e2 => by
    rcases hl k e2 with e3 | e3
    · exact hne (h.apart g' p' g p k hG' hp' hG hp e e3)
    · have := ((h.own g' p' hG' hp').lt k e).2; omega
  refine ⟨?_, h.lo, ?_, ?_, ?_, ?_⟩
  · exact (h.bel.grown hgr hz.2 (fun k e => ((h.own g p hG hp).lt k e).1)).setCell (p := ⟨g, p, none⟩) (h.lo g hG) _
  · intro g' hG'
    obtain ⟨cs, hb, hc⟩ := h.blk g' hG'
    by_cases e : g' = g
    · subst e
      refine ⟨cs.setIfInBounds p v, blk_set p v ((blk3 g' hG').trans hb), fun q hq => ?_⟩
      by_cases eq : q = p
      · subst eq
        have hlt : q < cs.size := (Array.getElem?_eq_some_iff.1 (hc q hq)).1
        rw [upd2_at, Array.getElem?_setIfInBounds_self_of_lt hlt]
      · rw [upd2_ne _ _ (fun h => eq h.2), Array.getElem?_setIfInBounds_ne (fun h => eq h.symm)]; exact hc q hq
    · refine ⟨cs, (Below.heap_setCell _ _ _ _ (by simpa using e)).trans ((blk3 g' hG').trans hb), fun q hq => ?_⟩
      rw [upd2_ne _ _ (fun h => e h.1)]; exact hc q hq
  · intro g' p' hG' hp'
    by_cases e : g' = g ∧ p' = p
    · obtain ⟨rfl, rfl⟩ := e
      rw [upd2_at, upd2_at]
      refine hown.kept (grown_set w3 ⟨g', p', none⟩ v) (.inr fun e => nG _ e hG)
    · rw [upd2_ne _ _ e, upd2_ne _ _ e]
      have h1 := (h.own g' p' hG' hp').kept hgr (by
        cases ho : (V g' p').ownBlock with
        | none => exact .inl rfl
        | some k => exact .inr fun e2 => e (h.apart g' p' g p k hG' hp' hG hp ho e2.symm))
      exact h1.kept (grown_set w3 ⟨g, p, none⟩ v) (.inr fun e2 => h.far g' p' g hG' hp' e2 hG)
  · intro g1 p1 g2 p2 k h1 h2 h3 h4 e1 e2
    by_cases a1 : g1 = g ∧ p1 = p
    · by_cases a2 : g2 = g ∧ p2 = p
      · exact ⟨a1.1.trans a2.1.symm, a1.2.trans a2.2.symm⟩
      · rw [upd2_ne _ _ a2] at e2
        rw [a1.1, a1.2, upd2_at] at e1
        exact absurd e1 (nV g2 p2 k h3 h4 a2 e2)
    · rw [upd2_ne _ _ a1] at e1
      by_cases a2 : g2 = g ∧ p2 = p
      · rw [a2.1, a2.2, upd2_at] at e2
        exact absurd e2 (nV g1 p1 k h1 h2 a1 e1)
      · rw [upd2_ne _ _ a2] at e2
        exact h.apart g1 p1 g2 p2 k h1 h2 h3 h4 e1 e2
  · intro g' p' k h1 h2 e
    by_cases a : g' = g ∧ p' = p
    · rw [a.1, a.2, upd2_at] at e; exact nG k e
    · rw [upd2_ne _ _ a] at e; exact h.far g' p' k h1 h2 e
/-- the rows as edges. -/
theorem RS.erow (h : RS base n G V L w wr) {g : Nat} (hG : G g) : ERow wr wr.heap.size (some ⟨g, 0, none⟩) (rowsOf n (L g)) := by
  refine .inr ⟨g, 0, rfl, (h.size hG).1, fun j hj => ?_⟩
  rw [rowsOf_len] at hj
  rw [rowsOf_at n _ j hj, Nat.zero_add]
  have hc := (h.cell hG hj).1
  have ho := h.own g j hG hj
  rcases ho.2 with ⟨e, e0⟩ | ⟨b, cap, cur, e, hb, hh, hle, hm, hs, ht⟩
  · rw [e] at hc
    exact ⟨none, 0, 0, e0.symm, Nat.le_refl _, Nat.zero_le _, .inl (List.eq_nil_of_length_eq_zero e0), hc⟩
  · rw [e] at hc
    refine ⟨some ⟨b, 0, none⟩, _, cap, rfl, hle, hm, .inr ⟨b, 0, rfl, lt_of_block hh, fun i hi => ?_⟩, hc⟩
    rw [Nat.zero_add]
    refine blk_cell hh ?_
    have h1 : (rowV (L g j))[i]? = some (.int .i64 ((L g j).getD i 0)) := by
      rw [List.getElem?_map, List.getD_eq_getElem?_getD, List.getElem?_eq_getElem hi]; rfl
    rw [← ht, Nat.mul_one, List.getElem?_take, if_pos hi] at h1
    simpa using h1
theorem RS.below (h : RS base n G V L w wr) {w' : World} (hb : Below wr.heap.size wr w') (hz : base ≤ wr.heap.size) : RS base n G V L w w' := by
  refine ⟨h.bel.trans (hb.mono hz), h.lo, fun g hG => ?_, fun g p hG hp => ?_, h.apart, h.far⟩
  · obtain ⟨cs, h1, h2⟩ := h.blk g hG
    exact ⟨cs, (hb.block g (lt_of_block h1)).trans h1, h2⟩
  · refine ⟨(h.own g p hG hp).1, ?_⟩
    rcases (h.own g p hG hp).2 with e | ⟨b, cap, cur, e, h1, h2, h3⟩
    · exact .inl e
    · exact .inr ⟨b, cap, cur, e, h1, (hb.block b (lt_of_block h2)).trans h2, h3⟩

end Go.Proofs.Ytbffcehaednefaa.Order
