/- Clauses: what is so, and what holds. -/
import Derived.Test.YtlgakejjakeomaaDoorCnfA
namespace Go.Proofs.YtlgakejjakeomaaDoor.Cnf
set_option linter.unusedVariables false
set_option linter.unusedSimpArgs false
open Go.RowKit
open Go.Proofs.YtlgakejjakeomaaDoor.Order (IRow ERow add_at)

theorem so_none {m : List Bool} {n : Int} (h : noneI n = true) : soB m n = false := by unfold soB; rw [h]; rfl
theorem so_in {m : List Bool} {n : Int} {p : Nat} (h : noneI n = false) (hp : atomW n = (p : Int)) (hl : p ≤ m.length) : soB m n = (m.getD (p - 1) false == decide (0 < n)) := by
  rw [atomW_abs h] at hp
  have e : n.natAbs = p := by omega
  unfold soB
  rw [h, e, decide_eq_true hl]
  rfl
theorem so_out {m : List Bool} {n : Int} {p : Nat} (h : noneI n = false) (hp : atomW n = (p : Int)) (hl : m.length < p) : soB m n = (false == decide (0 < n)) := by
  rw [atomW_abs h] at hp
  have e : n.natAbs = p := by omega
  unfold soB
  rw [h, e, decide_eq_false (by omega : ¬ p ≤ m.length)]
  rfl
theorem atom_pos {n : Int} (h : noneI n = false) : ∃ p : Nat, atomW n = (p : Int) ∧ 1 ≤ p ∧ ∀ _ : Rg n, (p : Int) ≤ 9223372036854775807 := by
  rw [atomW_abs h]
  have h0 : ¬ n = 0 := by intro e; subst e; simp [noneI] at h
  have h1 : ¬ n = -9223372036854775808 := by intro e; subst e; simp [noneI] at h
  exact ⟨n.natAbs, by omega, by omega, fun r => by have := r.1; have := r.2; omega⟩

end Go.Proofs.YtlgakejjakeomaaDoor.Cnf
