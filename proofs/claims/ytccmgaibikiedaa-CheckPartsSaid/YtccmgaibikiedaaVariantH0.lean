/- Variants: which texts are among others. -/
import Derived.Test.YtccmgaibikiedaaVariantD
import Derived.RegionTactic
namespace Go.Proofs.Ytccmgaibikiedaa.Variant
set_option linter.unusedVariables false
set_option linter.unusedSimpArgs false
open Go.RowKit

theorem eqB_iff (a b : ByteArray) : eqB a b = true ↔ a = b := by
  unfold eqB
  rw [beq_iff_eq, Lib.toList_data, Lib.toList_data]
  constructor
  · intro h
    exact ByteArray.ext (Array.toList_inj.1 h)
  · rintro rfl; rfl
theorem eqB_refl (a : ByteArray) : eqB a a = true := (eqB_iff a a).2 rfl
theorem eqB_false (a b : ByteArray) : eqB a b = false ↔ a ≠ b := by
  rw [← Bool.not_eq_true, eqB_iff]
theorem contains_next (l : List ByteArray) (k : Nat) (x : ByteArray) (hk : k < l.length) (h : Lib.containsS (l.take k) x = false) (he : eqB (l.getD k ByteArray.empty) x = false) : Lib.containsS (l.take (k + 1)) x = false := by
  rw [← Bool.not_eq_true, Lib.containsS_iff] at h ⊢
  rw [eqB_false] at he
  rw [List.take_succ_eq_append_getElem hk, List.mem_append]
  have e : l[k] = l.getD k ByteArray.empty := by rw [List.getD_eq_getElem?_getD, List.getElem?_eq_getElem hk]; rfl
  rintro (h1 | h1)
  · exact h h1
  · rw [List.mem_singleton, e] at h1
    exact he h1.symm
theorem contains_hit (l : List ByteArray) (k n : Nat) (x : ByteArray) (hk : k < l.length) (hn : k < n) (he : eqB (l.getD k ByteArray.empty) x = true) : Lib.containsS (l.take n) x = true := by
  rw [Lib.containsS_iff]
  rw [eqB_iff] at he
  have e : l[k] = l.getD k ByteArray.empty := by rw [List.getD_eq_getElem?_getD, List.getElem?_eq_getElem hk]; rfl
  rw [← he, ← e]
  have h : k < (l.take n).length := by rw [List.length_take]; omega
  have h2 : (l.take n)[k] = l[k] := by simp
  rw [← h2]; exact List.getElem_mem _


end Go.Proofs.Ytccmgaibikiedaa.Variant
