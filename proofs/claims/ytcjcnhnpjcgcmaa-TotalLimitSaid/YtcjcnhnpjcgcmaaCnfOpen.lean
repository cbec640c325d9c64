/- Rows of Booleans as an argument: what is read of them lies in cells. -/
import Derived.Test.YtcjcnhnpjcgcmaaOrderOpen
import Derived.Test.YtcjcnhnpjcgcmaaCnfMath
namespace Go.Proofs.Ytcjcnhnpjcgcmaa.Cnf
open Go.ChangeShapes Go.WideShapes Go.ChangeAt Go.RowKit
open Go.Proofs.Ytcjcnhnpjcgcmaa.Order (IRow ERow add_at)
set_option linter.unusedVariables false
set_option linter.unusedSimpArgs false

/-- the cells from an address on hold these Booleans. -/
def BRow (w : World) (B : Nat) (A : Option Addr) (l : List Bool) : Prop :=
  l = [] ∨ ∃ b o, A = some ⟨b, o, none⟩ ∧ b < B ∧ ∀ j, j < l.length → w.cell? ⟨b, o + j, none⟩ = some (.bool (l.getD j false))
theorem BRow.below {w w' : World} {B B' : Nat} {A : Option Addr} {l : List Bool} (h : BRow w B A l) (hB : B ≤ B') (hb : Below B w w') : BRow w' B' A l := by
  rcases h with h | ⟨b, o, e, hlt, hc⟩
  · exact .inl h
  · exact .inr ⟨b, o, e, by omega, fun j hj => (hb.cell (p := ⟨b, o + j, none⟩) hlt).trans (hc j hj)⟩
theorem cells_bool : Try.prog.cellsOf 4 = 1 := by kernel_rfl
section
variable {H : Type} {enc : TypeId × Value → H} {W : World}
set_option maxRecDepth 100000 in
theorem brow_of {cs : List Value} {fuel : Nat} {x : DataW H × List MemPlace} (hf : DataW.trod enc Try.prog W 0 (fun _ => true) true fuel 23 cs = some x) :
    ∃ (A : Option Addr) (n c : Nat) (l : List Bool), cs = [.slice A n c] ∧ n = l.length ∧ n ≤ c ∧ c ≤ maxLen ∧ BRow W W.heap.size A l ∧ True := by
  rcases Go.Deep.open_slice1 Try.underlying23 cells_bool hf with ⟨hcs, _⟩ | ⟨a, len, cap, m, n, V, D, Pl, hcs, _, hl, hm, hmm, _, hi⟩
  · exact ⟨none, 0, 0, [], hcs, rfl, Nat.le_refl _, Nat.zero_le _, .inl rfl, trivial⟩
  · simp at hmm
    obtain ⟨f, hfs⟩ := Go.Deep.choose_lt (α := Bool) (n := len) (p := fun i s => W.cell? (a.add i) = some (.bool s)) (fun i him => by
      obtain ⟨h1, h2⟩ := hi i (by omega)
      obtain ⟨s, e, _⟩ := DataW.trod_bool Try.underlying4 h2
      simp only [List.cons.injEq, and_true] at e
      exact ⟨s, by rw [h1, e]⟩)
    refine ⟨some a, len, cap, (List.range len).map f, hcs, by simp, hl, hm, ?_, trivial⟩
    rcases Nat.eq_zero_or_pos len with h0 | h0
    · exact .inl (by rw [h0]; rfl)
    · have spot : a.spot = none := by
        have c0 := hfs 0 h0
        simpa [Addr.add] using World.cell?_spot c0
      obtain ⟨b, o, s⟩ := a
      simp at spot
      subst spot
      refine .inr ⟨b, o, rfl, ?_, fun j hj => ?_⟩
      · have c0 := hfs 0 h0
        rw [add_at] at c0
        exact World.block_lt_of_cell? W ⟨b, o + 0, none⟩ c0
      · have hj' : j < len := by simpa using hj
        have c0 := hfs j hj'
        rw [add_at] at c0
        rw [c0, List.getD_eq_getElem?_getD, List.getElem?_map, List.getElem?_range hj']; rfl
end

end Go.Proofs.Ytcjcnhnpjcgcmaa.Cnf
