/- Clauses: a row without literals that are none; do clauses hold. -/
import Derived.Test.YtlgakejjakeomaaDoorCnfB
namespace Go.Proofs.YtlgakejjakeomaaDoor.Cnf
set_option linter.unusedVariables false
set_option linter.unusedSimpArgs false
open Go.RowKit
open Go.Proofs.YtlgakejjakeomaaDoor.Order (IRow ERow add_at)

def RgL (l : List Int) : Prop := ∀ x ∈ l, Rg x
theorem RgL.at {l : List Int} (h : RgL l) {i : Nat} (hi : i < l.length) : Rg (l.getD i 0) := by
  rw [List.getD_eq_getElem?_getD, List.getElem?_eq_getElem hi]; exact h _ (List.getElem_mem hi)
theorem contains_any (A : Option Addr) (l : List Int) (n c : Nat) (x : Int) (w : World) (h : IRow w w.heap.size A l) (hn : n = l.length) (hm : n ≤ maxLen) :
    Calls Tryd.prog 57 #[.slice A n c, .int .i64 x] w fun e w' => e = .returned (.bool (l.contains x)) ∧ w = w' := by
  rcases h with h | ⟨b, o, rfl, hb, hc⟩
  · subst h
    simp at hn
    subst hn
    exact (Tryd.slices_Contains_int_empty A c x w).mono fun e w' ⟨h1, h2⟩ => ⟨h1, h2.symm⟩
  · have h := Tryd.slices_Contains_int b o n c l x w (by omega) (by unfold maxLen at hm; omega) hc
    rw [hn, List.take_length, ← hn] at h
    exact h.mono fun e w' ⟨h1, h2⟩ => ⟨h1, h2.symm⟩
def hasNone (l : List Int) : Bool := l.contains 0 || l.contains (-9223372036854775808)
theorem hasNone_iff (l : List Int) : hasNone l = true ↔ ∃ x ∈ l, noneI x = true := by
  unfold hasNone noneI
  simp
  constructor
  · rintro (h | h)
    · exact ⟨0, h, .inl rfl⟩
    · exact ⟨_, h, .inr rfl⟩
  · rintro ⟨x, hx, rfl | rfl⟩
    · exact .inl hx
    · exact .inr hx
set_option maxHeartbeats 400000 in
theorem hasNone_any (A : Option Addr) (l : List Int) (n c : Nat) (w : World) (h : IRow w w.heap.size A l) (hn : n = l.length) (hm : n ≤ maxLen) :
    Calls Tryd.prog 49 #[.slice A n c] w fun e w' => e = .returned (.bool (hasNone l)) ∧ w = w' := by
  have C1 := Lib.hid (contains_any A l n c 0 w h hn hm)
  have C2 := Lib.hid (contains_any A l n c (-9223372036854775808) w h hn hm)
  have F : Hid (hasNone l = (l.contains 0 || l.contains (-9223372036854775808))) := Lib.hid rfl
  obtain ⟨p, hp⟩ : ∃ p, p = l.contains 0 := ⟨_, rfl⟩
  obtain ⟨q, hq⟩ : ∃ p, p = l.contains (-9223372036854775808) := ⟨_, rfl⟩
  rw [← hp] at C1 F
  rw [← hq] at C2 F
  clear hp hq h hn hm
  cases p with
  | true =>
    go_enter Tryd.func49, Tryd.ntmps49
    go_wp2_with fail
    refine C1.out.mono ?_
    rintro e w' ⟨rfl, rfl⟩
    go_wp2_with fail
    go_ret
    exact ⟨ret_bool (by rw [F.out]; rfl), rfl⟩
  | false =>
    go_enter Tryd.func49, Tryd.ntmps49
    go_wp2_with fail
    refine C1.out.mono ?_
    rintro e w' ⟨rfl, rfl⟩
    go_wp2_with fail
    refine C2.out.mono ?_
    rintro e w' ⟨rfl, rfl⟩
    go_wp2_with fail
    go_ret
    exact ⟨ret_bool (by rw [F.out]; rfl), rfl⟩

/-! ### the program's Holds -/
theorem anyI_next (p : Int → Bool) (l : List Int) (k : Nat) (hk : k < l.length) : (l.take (k + 1)).any p = ((l.take k).any p || p (l.getD k 0)) := by
  rw [List.take_succ_eq_append_getElem hk, List.any_append]
  have : l[k] = l.getD k 0 := by rw [List.getD_eq_getElem?_getD, List.getElem?_eq_getElem hk]; rfl
  rw [this]; simp
/-- a place where it is so, or -1. -/
def IdxIs (b : Bool) (z : Int) : Prop := (z = -1 ∧ b = false) ∨ (0 ≤ z ∧ b = true)
def RgE (E : List (List Int)) : Prop := ∀ l ∈ E, RgL l
theorem RgE.at {E : List (List Int)} (h : RgE E) {i : Nat} (hi : i < E.length) : RgL (E.getD i []) := by
  rw [List.getD_eq_getElem?_getD, List.getElem?_eq_getElem hi]; exact h _ (List.getElem_mem hi)
theorem allE_next (p : List Int → Bool) (E : List (List Int)) (k : Nat) (hk : k < E.length) : (E.take (k + 1)).all p = ((E.take k).all p && p (E.getD k [])) := by
  rw [List.take_succ_eq_append_getElem hk, List.all_append]
  have : E[k] = E.getD k [] := by rw [List.getD_eq_getElem?_getD, List.getElem?_eq_getElem hk]; rfl
  rw [this]; simp
theorem allE_no (p : List Int → Bool) (E : List (List Int)) (k : Nat) (hk : k < E.length) (h : p (E.getD k []) = false) : E.all p = false := by
  rw [List.all_eq_false]
  refine ⟨E.getD k [], ?_, by simpa using h⟩
  rw [List.getD_eq_getElem?_getD, List.getElem?_eq_getElem hk]; exact List.getElem_mem _

end Go.Proofs.YtlgakejjakeomaaDoor.Cnf
