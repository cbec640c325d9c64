/- Rows of Booleans as an argument: what is read of them lies in cells. -/
import Derived.Test.YtlgakejjakeomaaDoorOrderOpen
import Derived.Test.YtlgakejjakeomaaDoorCnfMath
namespace Go.Proofs.YtlgakejjakeomaaDoor.Cnf
open Go.ChangeShapes Go.WideShapes Go.ChangeAt Go.RowKit
open Go.Proofs.YtlgakejjakeomaaDoor.Order (IRow ERow add_at)
set_option linter.unusedVariables false
set_option linter.unusedSimpArgs false

/-- the cells from an address on hold these Booleans. -/
def BRow (w : World) (B : Nat) (A : Option Addr) (l : List Bool) : Prop :=
  l = [] ∨ ∃ b o, A = some ⟨b, o, none⟩ ∧ b < B ∧ ∀ j, j < l.length → w.cell? ⟨b, o + j, none⟩ = some (.bool (l.getD j false))
theorem BRow.below {w w' : World} {B B' : Nat} {A : Option Addr} {l : List Bool} (h : BRow w B A l) (hB : B ≤ B') (hb : Below B w w') : BRow w' B' A l := by
  rcases h with h | ⟨b, o, e, hlt, hc⟩
  · exact .inl h
  · exact .inr ⟨b, o, e, by omega, fun j hj => (hb.cell (p := ⟨b, o + j, none⟩) hlt).trans (hc j hj)⟩
theorem cells_bool : Tryd.prog.cellsOf 4 = 1 := by kernel_rfl
section
variable {H : Type} {enc : TypeId × Value → H} {W : World}
end

end Go.Proofs.YtlgakejjakeomaaDoor.Cnf
