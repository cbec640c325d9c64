/- Edges in memory; the document's own answer whether there is a way round. -/
import Derived.Test.YtlgakejjakeomaaDoorOrderMath
import Derived.Test.YtlgakejjakeomaaDoorChecked
import Derived.Test.YtlgakejjakeomaaDoorAppend1
import Derived.Laws.MakeOwn
import Derived.Laws.OwnMore
import Derived.Below
namespace Go.Proofs.YtlgakejjakeomaaDoor.Order
set_option linter.unusedVariables false
set_option linter.unusedSimpArgs false
open Go.RowKit

abbrev bstep {w w1 w2 : World} (h : Below w.heap.size w w1) (h2 : Below w1.heap.size w1 w2) : Below w.heap.size w w2 := h.trans (h2.mono h.size)
theorem ret_bool {a b : Bool} (h : a = b) : Ending.returned (.bool a) = .returned (.bool b) := by rw [h]
/-- the cells from an address on hold these numbers. -/
def IRow (w : World) (B : Nat) (A : Option Addr) (l : List Int) : Prop :=
  l = [] ∨ ∃ b o, A = some ⟨b, o, none⟩ ∧ b < B ∧ ∀ j, j < l.length → w.cell? ⟨b, o + j, none⟩ = some (.int .i64 (l.getD j 0))
theorem IRow.below {w w' : World} {B B' : Nat} {A : Option Addr} {l : List Int} (h : IRow w B A l) (hB : B ≤ B') (hb : Below B w w') : IRow w' B' A l := by
  rcases h with h | ⟨b, o, e, hlt, hc⟩
  · exact .inl h
  · exact .inr ⟨b, o, e, by omega, fun j hj => (hb.cell (p := ⟨b, o + j, none⟩) hlt).trans (hc j hj)⟩
/-- .. and these rows of numbers. -/
def ERow (w : World) (B : Nat) (A : Option Addr) (E : Es) : Prop :=
  E = [] ∨ ∃ b o, A = some ⟨b, o, none⟩ ∧ b < B ∧ ∀ j, j < E.length → ∃ A' n c, n = (E.getD j []).length ∧ n ≤ c ∧ c ≤ maxLen ∧ IRow w B A' (E.getD j []) ∧ w.cell? ⟨b, o + j, none⟩ = some (.slice A' n c)
theorem ERow.below {w w' : World} {B B' : Nat} {A : Option Addr} {E : Es} (h : ERow w B A E) (hB : B ≤ B') (hb : Below B w w') : ERow w' B' A E := by
  rcases h with h | ⟨b, o, e, hlt, hc⟩
  · exact .inl h
  · refine .inr ⟨b, o, e, by omega, fun j hj => ?_⟩
    obtain ⟨A', n, c, h1, h2, h3, h4, h5⟩ := hc j hj
    exact ⟨A', n, c, h1, h2, h3, h4.below hB hb, (hb.cell (p := ⟨b, o + j, none⟩) hlt).trans h5⟩

/-- block g holds these Booleans. -/
def GB (w : World) (g : Nat) (l : List Bool) : Prop := w.heap[g]? = some (.cells (l.map Value.bool).toArray 4 (0, 0))
theorem GB.cell {w : World} {g : Nat} {l : List Bool} (h : GB w g l) (i : Nat) (hi : i < l.length) : w.cell? ⟨g, i, none⟩ = some (.bool (l.getD i false)) := by
  refine blk_cell h ?_
  simp [List.getD_eq_getElem?_getD, hi]
theorem GB.free {w : World} {g : Nat} {l : List Bool} (h : GB w g l) (i : Nat) : w.frozen? ⟨g, i, none⟩ = false := blk_free i h
theorem GB.set {w : World} {g : Nat} {l : List Bool} (h : GB w g l) (i : Nat) (b : Bool) : GB (w.setCell ⟨g, i, none⟩ (.bool b)) g (l.set i b) := by
  have := blk_set i (.bool b) h
  unfold GB
  rw [this]
  simp [List.map_set]

theorem info_bool : (Tryd.prog.info? 4).map (fun i => (i.zero, i.size, i.bytes)) = some (some (.bool false), 1, 1) := by kernel_rfl
theorem made_bools (n : Nat) : madeCells #[Value.bool false] n = ((List.replicate n false).map Value.bool).toArray := by
  apply Array.ext'
  rw [toList_madeCells_one]; simp
end Go.Proofs.YtlgakejjakeomaaDoor.Order
