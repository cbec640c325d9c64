/- Stable sorting: a row of texts in a block. -/
import Derived.Test.YtdilmiaaahpfcaaStabRow
import Derived.Test.YtdilmiaaahpfcaaVerMath
import Derived.Test.YtdilmiaaahpfcaaChecked
import Derived.Test.YtdilmiaaahpfcaaAppend1
import Derived.Below
import Derived.RegionTactic
import Derived.Deep.RegionWith
import Derived.Deep.RegionHeld3
import Derived.Deep.RegionLaw
import Derived.Deep.QuietTactic
namespace Go.Proofs.Ytdilmiaaahpfcaa.Stab
set_option linter.unusedVariables false
set_option linter.unusedSimpArgs false
open Go.RowKit
open Go.Proofs.Ytdilmiaaahpfcaa.Ver (cmpV ord_v Ord Bs)

abbrev Fn' := Nat → ByteArray
/-- block g holds these texts ahead. -/
def BR (W : World) (g n : Nat) (f : Fn') : Prop := ∃ cs : Array Value, W.heap[g]? = some (.cells cs 9 (0, 0)) ∧ ∀ t, t < n → cs[t]? = some (.string (f t))
theorem BR.lt {W : World} {g n : Nat} {f : Fn'} (h : BR W g n f) : g < W.heap.size := by obtain ⟨cs, h1, _⟩ := h; exact lt_of_block h1
theorem BR.cell {W : World} {g n : Nat} {f : Fn'} (h : BR W g n f) {t : Nat} (ht : t < n) : W.cell? ⟨g, t, none⟩ = some (.string (f t)) := by obtain ⟨cs, h1, h2⟩ := h; exact blk_cell h1 (h2 t ht)
theorem BR.free {W : World} {g n : Nat} {f : Fn'} (h : BR W g n f) (t : Nat) : W.frozen? ⟨g, t, none⟩ = false := by obtain ⟨cs, h1, h2⟩ := h; exact blk_free t h1
theorem BR.below {W W' : World} {g n B : Nat} {f : Fn'} (h : BR W g n f) (hb : Below B W W') (hg : g < B) : BR W' g n f := by obtain ⟨cs, h1, h2⟩ := h; exact ⟨cs, (hb.block g hg).trans h1, h2⟩
theorem BR.drewN {W : World} {g n : Nat} {f : Fn'} (h : BR W g n f) (k : Nat) : BR (W.drewN k) g n f := h
theorem BR.set {W : World} {g n : Nat} {f : Fn'} (h : BR W g n f) {p : Nat} (hp : p < n) (x : ByteArray) : BR (W.setCell ⟨g, p, none⟩ (.string x)) g n (fun t => if t = p then x else f t) := by
  obtain ⟨cs, h1, h2⟩ := h
  refine ⟨cs.setIfInBounds p (.string x), blk_set p _ h1, fun t ht => ?_⟩
  have hlt : p < cs.size := (Array.getElem?_eq_some_iff.1 (h2 p hp)).1
  by_cases e : t = p
  · subst e; rw [Array.getElem?_setIfInBounds_self_of_lt hlt]; simp
  · rw [Array.getElem?_setIfInBounds_ne (fun x => e x.symm)]; simp [e, h2 t ht]
theorem BR.congr {W : World} {g n : Nat} {f f' : Fn'} (h : BR W g n f) (e : ∀ t, t < n → f t = f' t) : BR W g n f' := by
  obtain ⟨cs, h1, h2⟩ := h
  exact ⟨cs, h1, fun t ht => by rw [← e t ht]; exact h2 t ht⟩
theorem BR.swap1 {W : World} {g n : Nat} {f : Fn'} (h : BR W g n f) {p q : Nat} (hp : p < n) (hq : q < n) (hne : p ≠ q) :
    BR ((W.setCell ⟨g, p, none⟩ (.string (f q))).setCell ⟨g, q, none⟩ (.string (f p))) g n (swp f p q) := by
  refine ((h.set hp (f q)).set hq (f p)).congr fun t _ => ?_
  unfold swp
  by_cases e1 : t = q
  · subst e1; simp; intro e; rw [e]
  · by_cases e2 : t = p
    · simp [e1, e2]
      intro e; exact absurd e hne
    · simp [e1, e2]
theorem BR.swap2 {W : World} {g n : Nat} {f : Fn'} (h : BR W g n f) {p q : Nat} (hp : p < n) (hq : q < n) (hne : p ≠ q) :
    BR ((W.setCell ⟨g, q, none⟩ (.string (f p))).setCell ⟨g, p, none⟩ (.string (f q))) g n (swp f p q) := by
  refine ((h.set hq (f p)).set hp (f q)).congr fun t _ => ?_
  unfold swp
  by_cases e2 : t = p
  · simp [e2]
  · simp [e2]

/-- newer first. -/
def ltN (x y : ByteArray) : Bool := decide (cmpV y.data.toList x.data.toList < 0)
theorem ltN_iff {x y : ByteArray} : ltN x y = true ↔ cmpV y.data.toList x.data.toList < 0 := by simp [ltN]
theorem ltN_no {x y : ByteArray} : ltN x y = false ↔ cmpV x.data.toList y.data.toList ≤ 0 := by
  rw [← Bool.not_eq_true, ltN_iff]
  have := ord_v.anti x.data.toList y.data.toList
  omega
theorem woN : WO ltN where
  irrefl x := by rw [ltN_no, ord_v.refl]; omega
  trans x y z h1 h2 := by rw [ltN_iff] at *; exact ord_v.lt_le h2 (by omega)
  ntrans x y z h1 h2 := by rw [ltN_no] at *; exact ord_v.tr _ _ _ h1 h2
abbrev cv : Value := .func (.func 25) #[] #[]
/-- a world of the sort's. -/
structure St (B g n : Nat) (f : Fn') (w W : World) : Prop where
  bel : Below B w W
  row : BR W g n f
theorem St.drew {B g n : Nat} {f : Fn'} {w W : World} (h : St B g n f w W) (k : Nat) : St B g n f w (W.drewN k) := ⟨⟨h.bel.os, h.bel.tape, h.bel.output, h.bel.size, h.bel.block⟩, h.row.drewN k⟩
theorem St.drew1 {B g n : Nat} {f : Fn'} {w W : World} (h : St B g n f w W) : St B g n f w W.drew := ⟨⟨h.bel.os, h.bel.tape, h.bel.output, h.bel.size, h.bel.block⟩, h.row⟩
theorem St.below {B g n : Nat} {f : Fn'} {w W W' : World} (h : St B g n f w W) (hB : B ≤ w.heap.size) (hb : Below W.heap.size W W') : St B g n f w W' :=
  ⟨h.bel.trans (hb.mono (by have := h.bel.size; omega)), h.row.below hb h.row.lt⟩
theorem St.set2 {B g n : Nat} {f f' : Fn'} {w W : World} {p q : Nat} {x y : Value} (h : St B g n f w W) (hg : B ≤ g) (hr : BR ((W.setCell ⟨g, p, none⟩ x).setCell ⟨g, q, none⟩ y) g n f') : St B g n f' w ((W.setCell ⟨g, p, none⟩ x).setCell ⟨g, q, none⟩ y) :=
  ⟨(h.bel.setCell (p := ⟨g, p, none⟩) hg x).setCell (p := ⟨g, q, none⟩) hg y, hr⟩
def SZ (f : Fn') : Prop := ∀ t, (f t).size ≤ maxLen
theorem SZ.swp {f : Fn'} (h : SZ f) (p q : Nat) : SZ (swp f p q) := fun t => by unfold Stab.swp; split; exact h _; split; exact h _; exact h _
theorem SZ.swpK {f : Fn'} (h : SZ f) (a b k : Nat) : SZ (swpK f a b k) := fun t => by unfold Stab.swpK; split; exact h _; split; exact h _; exact h _
theorem SZ.rotF {f : Fn'} (h : SZ f) (a m b : Nat) : SZ (rotF f a m b) := fun t => by
  unfold Stab.rotF
  split
  · split
    · exact h _
    · exact h _
  · exact h _

end Go.Proofs.Ytdilmiaaahpfcaa.Stab
