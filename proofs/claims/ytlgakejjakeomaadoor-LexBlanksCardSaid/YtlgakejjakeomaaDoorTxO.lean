/- Rows of texts as arguments: what is read of them lies in cells. -/
import Derived.Test.YtlgakejjakeomaaDoorAppend1
import Derived.Test.YtlgakejjakeomaaDoorOrderOpen
import Derived.Lib.SmallJoins
import Derived.ProofKit
import Derived.OpenShut
import Derived.Deep.Slices
import Derived.Deep.Strs
import Derived.ChangeMaps5
namespace Go.Proofs.YtlgakejjakeomaaDoor.Variant
open Go.ChangeShapes Go.WideShapes Go.ChangeAt Go.RowKit Go.ChangeMaps
set_option linter.unusedVariables false

def SRow (w : World) (B : Nat) (A : Option Addr) (l : List ByteArray) : Prop :=
  l = [] ∨ ∃ b o, A = some ⟨b, o, none⟩ ∧ b < B ∧ ∀ j, j < l.length → w.cell? ⟨b, o + j, none⟩ = some (.string (l.getD j ByteArray.empty))
theorem SRow.keep {w w' : World} {B B' : Nat} {A : Option Addr} {l : List ByteArray} (h : SRow w B A l) (hB : B ≤ B') (hk : ∀ p : Addr, p.block < B → w'.cell? p = w.cell? p) : SRow w' B' A l := by
  rcases h with h | ⟨b, o, e, hb, hc⟩
  · exact .inl h
  · exact .inr ⟨b, o, e, by omega, fun j hj => (hk _ hb).trans (hc j hj)⟩
theorem SRow.below {w w' : World} {B B' : Nat} {A : Option Addr} {l : List ByteArray} (h : SRow w B A l) (hB : B ≤ B') (hb : Below B w w') : SRow w' B' A l := h.keep hB fun _ hp => hb.cell hp


theorem add_at (b o k : Nat) : (⟨b, o, none⟩ : Addr).add k = ⟨b, o + k, none⟩ := by
  unfold Addr.add
  split
  · rename_i e; subst e; rfl
  · rfl
theorem cells_string : Tryd.prog.cellsOf 9 = 1 := by kernel_rfl
theorem cells_strings : Tryd.prog.cellsOf 39 = 1 := by kernel_rfl
section
variable {H : Type} {enc : TypeId × Value → H} {W : World}

set_option maxRecDepth 100000 in
theorem srow_of {cs : List Value} {fuel : Nat} {x : DataW H × List MemPlace} (hf : DataW.trod enc Tryd.prog W 0 (fun _ => true) true fuel 39 cs = some x) :
    ∃ (A : Option Addr) (n c : Nat) (l : List ByteArray), cs = [.slice A n c] ∧ n = l.length ∧ n ≤ c ∧ c ≤ maxLen ∧ SRow W W.heap.size A l ∧ ∀ i, (l.getD i ByteArray.empty).size ≤ maxLen := by
  rcases Go.Deep.open_slice1 Tryd.underlying39 cells_string hf with ⟨hcs, _⟩ | ⟨a, len, cap, m, n, V, D, Pl, hcs, _, hl, hm, hmm, _, hi⟩
  · exact ⟨none, 0, 0, [], hcs, rfl, Nat.le_refl _, Nat.zero_le _, .inl rfl, fun i => by simp⟩
  · simp at hmm
    obtain ⟨f, hfs⟩ := Go.Deep.choose_lt (α := ByteArray) (n := len) (p := fun i s => W.cell? (a.add i) = some (.string s) ∧ s.size ≤ maxLen) (fun i him => by
      obtain ⟨h1, h2⟩ := hi i (by omega)
      obtain ⟨s, e, _, z⟩ := DataW.trod_string Tryd.underlying9 h2
      simp only [List.cons.injEq, and_true] at e
      exact ⟨s, by rw [h1, e], z⟩)
    refine ⟨some a, len, cap, (List.range len).map f, hcs, by simp, hl, hm, ?_, fun i => ?_⟩
    · rcases Nat.eq_zero_or_pos len with h0 | h0
      · exact .inl (by rw [h0]; rfl)
      · have spot : a.spot = none := by
          have c0 := (hfs 0 h0).1
          simpa [Addr.add] using World.cell?_spot c0
        obtain ⟨b, o, s⟩ := a
        simp at spot
        subst spot
        refine .inr ⟨b, o, rfl, ?_, fun j hj => ?_⟩
        · have c0 := (hfs 0 h0).1
          rw [add_at] at c0
          exact World.block_lt_of_cell? W ⟨b, o + 0, none⟩ c0
        · have hj' : j < len := by simpa using hj
          have c0 := (hfs j hj').1
          rw [add_at] at c0
          rw [c0, List.getD_eq_getElem?_getD, List.getElem?_map, List.getElem?_range hj']; rfl
    · rcases Nat.lt_or_ge i len with h | h
      · rw [List.getD_eq_getElem?_getD, List.getElem?_map, List.getElem?_range h]; exact (hfs i h).2
      · rw [List.getD_eq_getElem?_getD, List.getElem?_eq_none (by simpa using h)]; simp

set_option maxRecDepth 100000 in

end
end Go.Proofs.YtlgakejjakeomaaDoor.Variant
