/- Clauses: the document's own answer whether clauses hold; the same numbers, the same clauses. -/
import Derived.Test.YtlgakejjakeomaaDoorCnfC
import Derived.RegionTactic
import Derived.Deep.RegionWith
import Derived.Deep.QuietTactic
namespace Go.Proofs.YtlgakejjakeomaaDoor.Cnf
set_option linter.unusedVariables false
set_option linter.unusedSimpArgs false
open Go.RowKit
open Go.Proofs.YtlgakejjakeomaaDoor.Order (IRow ERow add_at)

theorem or_next {p : Int → Bool} {l : List Int} {j : Nat} (hj : j < l.length) {f : Bool} (h : (l.take j).any p = f) : (l.take (j + 1)).any p = (f || p (l.getD j 0)) := by rw [anyI_next p l j hj, h]

/-! ### the same numbers -/
theorem list_step {α : Type} {a b : List α} {i : Nat} (z : α) (h : a.take i = b.take i) (ha : i < a.length) (hb : i < b.length) (e : a.getD i z = b.getD i z) : a.take (i + 1) = b.take (i + 1) := by
  rw [List.take_succ_eq_append_getElem ha, List.take_succ_eq_append_getElem hb, h]
  rw [List.getD_eq_getElem?_getD, List.getD_eq_getElem?_getD, List.getElem?_eq_getElem ha, List.getElem?_eq_getElem hb] at e
  simp at e
  rw [e]

set_option maxHeartbeats 2000000 in
set_option maxRecDepth 100000 in
theorem same_any (A B : Option Addr) (a b : List Int) (n m c d : Nat) (w : World) (ha : IRow w w.heap.size A a) (hb : IRow w w.heap.size B b) (hn : n = a.length) (hm : m = b.length) (hnm : n ≤ maxLen) :
    Calls Tryd.prog 38 #[.slice A n c, .slice B m d] w fun e w' => e = .returned (.bool (decide (a = b))) ∧ ∃ q, w' = w.drewN q := by
  have h63 : (n : Int) ≤ 9223372036854775807 := by unfold maxLen at hnm; omega
  have HA := Lib.hid ha
  have HB := Lib.hid hb
  have HN := Lib.hid hn
  have HM := Lib.hid hm
  clear ha hb hn hm hnm
  by_cases hne : n = m
  · subst hne
    go_enter Tryd.func38, Tryd.ntmps38
    go_wp2_with fail
    go_loopw [5, 13] (fun _ v wr => ∃ i : Nat, v = .int .i64 i ∧ i ≤ n ∧ (∃ q, wr = w.drewN q) ∧ a.take i = b.take i) (fun _ v _ => n - (intOf v).toNat)
    case atStart => exact ⟨0, rfl, Nat.zero_le _, ⟨0, rfl⟩, rfl⟩
    case round =>
      obtain ⟨i, rfl, hi, hex, heq⟩ := hrel
      have HEX := Lib.hid hex
      obtain ⟨q, hwr⟩ := hex
      have EQ := Lib.hid heq
      have DW : Hid (∀ k, ∃ q', wr.drewN k = w.drewN q') := Lib.hid (fun k => ⟨_, by rw [hwr]; exact World.drewN_drewN w q k⟩)
      have CW : Hid (∀ a, wr.cell? a = w.cell? a) := Lib.hid (fun a => by rw [hwr]; rfl)
      have HWR := Lib.hid hwr
      clear heq hwr
      by_cases hlt : i < n
      · have hlt' : (i : Int) < (n : Int) := by omega
        have IA : Hid (i < a.length) := Lib.hid (by have := HN.out; omega)
        have IB : Hid (i < b.length) := Lib.hid (by have := HM.out; omega)
        rcases HA.out with h' | ⟨b1, o1, rfl, hb1, hc1⟩
        · exfalso; have := IA.out; rw [h'] at this; simp at this
        rcases HB.out with h' | ⟨b2, o2, rfl, hb2, hc2⟩
        · exfalso; have := IB.out; rw [h'] at this; simp at this
        have e1 := (CW.out _).trans (hc1 i IA.out)
        have e2 := (CW.out _).trans (hc2 i IB.out)
        have ST := Lib.hid (fun e => list_step (0 : Int) EQ.out IA.out IB.out e)
        have NE : Hid (a.getD i 0 ≠ b.getD i 0 → a ≠ b) := Lib.hid (fun h e => h (by rw [e]))
        obtain ⟨x, hx⟩ : ∃ x, x = a.getD i 0 := ⟨_, rfl⟩
        obtain ⟨y, hy⟩ : ∃ x, x = b.getD i 0 := ⟨_, rfl⟩
        rw [← hx] at e1 ST NE
        rw [← hy] at e2 ST NE
        clear hx hy hc1 hc2
        by_cases hxy : x = y
        · have F := Lib.hid (ST.out hxy)
          subst hxy
          go_wp2_with fail
          go_quiet (fail)
          go_wp2_with fail
          go_roundw
          case rel => exact ⟨i + 1, by go_num, by omega, DW.out _, F.out⟩
          case measure => simp [intOf]; omega
        · have F := Lib.hid (NE.out hxy)
          have hb' : (x == y) = false := beq_eq_false_iff_ne.2 hxy
          go_wp2_with fail
          go_quiet (fail)
          go_wp2_with fail
          go_ret
          exact ⟨ret_bool (decide_eq_false F.out).symm, DW.out _⟩
      · have e : i = n := by omega
        subst e
        have F : Hid (a = b) := Lib.hid (by
          have h := EQ.out
          rwa [List.take_of_length_le (by rw [HN.out]; exact Nat.le_refl _), List.take_of_length_le (by rw [HM.out]; exact Nat.le_refl _)] at h)
        go_wp2_with fail
        go_ret
        exact ⟨ret_bool (decide_eq_true F.out).symm, HEX.out⟩
  · have F : Hid (a ≠ b) := Lib.hid (fun e => hne (by rw [HN.out, HM.out, e]))
    have hne' : ¬ (n : Int) = (m : Int) := by omega
    go_enter Tryd.func38, Tryd.ntmps38
    go_wp2_with fail
    go_ret
    exact ⟨ret_bool (decide_eq_false F.out).symm, ⟨0, rfl⟩⟩

end Go.Proofs.YtlgakejjakeomaaDoor.Cnf
