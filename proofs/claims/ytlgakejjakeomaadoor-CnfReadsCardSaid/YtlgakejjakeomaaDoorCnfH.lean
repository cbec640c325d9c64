/- Clauses: the same clauses; a builder. -/
import Derived.Test.YtlgakejjakeomaaDoorCnfD
namespace Go.Proofs.YtlgakejjakeomaaDoor.Cnf
set_option linter.unusedVariables false
set_option linter.unusedSimpArgs false
open Go.RowKit
open Go.Proofs.YtlgakejjakeomaaDoor.Order (IRow ERow add_at)

theorem ERow.lens {w : World} {B : Nat} {A : Option Addr} {E : List (List Int)} (h : ERow w B A E) (p : Nat) : (E.getD p []).length ≤ maxLen := by
  rcases h with h | ⟨b, o, e, hlt, hc⟩
  · rw [h]; simp
  · rcases Nat.lt_or_ge p E.length with h1 | h1
    · obtain ⟨A', n, c, h1, h2, h3, _⟩ := hc p h1; omega
    · rw [List.getD_eq_getElem?_getD, List.getElem?_eq_none h1]; simp

set_option maxHeartbeats 2000000 in
set_option maxRecDepth 100000 in
theorem sameAll_any (A B : Option Addr) (a b : List (List Int)) (n m c d : Nat) (w : World) (ha : ERow w w.heap.size A a) (hb : ERow w w.heap.size B b) (hn : n = a.length) (hm : m = b.length) (hnm : n ≤ maxLen) :
    Calls Tryd.prog 26 #[.slice A n c, .slice B m d] w fun e w' => e = .returned (.bool (decide (a = b))) ∧ ∃ q, w' = w.drewN q := by
  have h63 : (n : Int) ≤ 9223372036854775807 := by unfold maxLen at hnm; omega
  have HA := Lib.hid ha
  have HB := Lib.hid hb
  have HN := Lib.hid hn
  have HM := Lib.hid hm
  clear ha hb hn hm hnm
  by_cases hne : n = m
  · subst hne
    go_enter Tryd.func26, Tryd.ntmps26
    go_wp2_with fail
    go_loopw [5, 13] (fun _ v wr => ∃ i : Nat, v = .int .i64 i ∧ i ≤ n ∧ (∃ q, wr = w.drewN q) ∧ a.take i = b.take i) (fun _ v _ => n - (intOf v).toNat)
    case atStart => exact ⟨0, rfl, Nat.zero_le _, ⟨0, rfl⟩, rfl⟩
    case round =>
      obtain ⟨i, rfl, hi, hex, heq⟩ := hrel
      have HEX := Lib.hid hex
      obtain ⟨q, hwr⟩ := hex
      have EQ := Lib.hid heq
      have DW : Hid (∀ k, ∃ q', wr.drewN k = w.drewN q') := Lib.hid (fun k => ⟨_, by rw [hwr]; exact World.drewN_drewN w q k⟩)
      have CW : Hid (∀ a, wr.cell? a = w.cell? a) := Lib.hid (fun a => by rw [hwr]; rfl)
      have HWR := Lib.hid hwr
      clear heq hwr
      by_cases hlt : i < n
      · have hlt' : (i : Int) < (n : Int) := by omega
        have IA : Hid (i < a.length) := Lib.hid (by have := HN.out; omega)
        have IB : Hid (i < b.length) := Lib.hid (by have := HM.out; omega)
        rcases HA.out with h' | ⟨b1, o1, rfl, hb1, hc1⟩
        · exfalso; have := IA.out; rw [h'] at this; simp at this
        rcases HB.out with h' | ⟨b2, o2, rfl, hb2, hc2⟩
        · exfalso; have := IB.out; rw [h'] at this; simp at this
        obtain ⟨A1, n1, c1, p1, p2, p3, p4, p5⟩ := hc1 i IA.out
        obtain ⟨A2, n2, c2, q1, q2, q3, q4, q5⟩ := hc2 i IB.out
        have e1 := (CW.out _).trans p5
        have e2 := (CW.out _).trans q5
        have ST := Lib.hid (fun e => list_step ([] : List Int) EQ.out IA.out IB.out e)
        have NE : Hid (a.getD i [] ≠ b.getD i [] → a ≠ b) := Lib.hid (fun h e => h (by rw [e]))
        have SM : Hid (∀ k, Calls Tryd.prog 38 #[.slice A1 n1 c1, .slice A2 n2 c2] (w.drewN k) fun e w' => e = .returned (.bool (decide (a.getD i [] = b.getD i []))) ∧ ∃ m, w' = (w.drewN k).drewN m) := Lib.hid (fun k =>
          same_any A1 A2 _ _ n1 n2 c1 c2 (w.drewN k) p4 q4 p1 q1 (by omega))
        have SMW : Hid (∀ k, Calls Tryd.prog 38 #[.slice A1 n1 c1, .slice A2 n2 c2] (wr.drewN k) fun e w' => e = .returned (.bool (decide (a.getD i [] = b.getD i []))) ∧ ∃ m, w' = (wr.drewN k).drewN m) := Lib.hid (fun k => by rw [HWR.out, World.drewN_drewN]; exact SM.out _)
        clear SM
        obtain ⟨x, hx⟩ : ∃ x, x = a.getD i [] := ⟨_, rfl⟩
        obtain ⟨y, hy⟩ : ∃ x, x = b.getD i [] := ⟨_, rfl⟩
        rw [← hx] at ST NE SMW
        rw [← hy] at ST NE SMW
        clear hx hy hc1 hc2 p1 p2 p3 p4 p5 q1 q2 q3 q4 q5
        by_cases hxy : x = y
        · have F := Lib.hid (ST.out hxy)
          rw [decide_eq_true hxy] at SMW
          go_wp2_with fail
          go_quiet ((go_at_call 38; exact Calls.quiet_of (SMW.out _)))
          go_wp2_with fail
          go_roundw
          case rel => exact ⟨i + 1, by go_num, by omega, DW.out _, F.out⟩
          case measure => simp [intOf]; omega
        · have F := Lib.hid (NE.out hxy)
          rw [decide_eq_false hxy] at SMW
          go_wp2_with fail
          go_quiet ((go_at_call 38; exact Calls.quiet_of (SMW.out _)))
          go_wp2_with fail
          go_ret
          exact ⟨ret_bool (decide_eq_false F.out).symm, DW.out _⟩
      · have e : i = n := by omega
        subst e
        have F : Hid (a = b) := Lib.hid (by
          have h := EQ.out
          rwa [List.take_of_length_le (by rw [HN.out]; exact Nat.le_refl _), List.take_of_length_le (by rw [HM.out]; exact Nat.le_refl _)] at h)
        go_wp2_with fail
        go_ret
        exact ⟨ret_bool (decide_eq_true F.out).symm, HEX.out⟩
  · have F : Hid (a ≠ b) := Lib.hid (fun e => hne (by rw [HN.out, HM.out, e]))
    have hne' : ¬ (n : Int) = (m : Int) := by omega
    go_enter Tryd.func26, Tryd.ntmps26
    go_wp2_with fail
    go_ret
    exact ⟨ret_bool (decide_eq_false F.out).symm, ⟨0, rfl⟩⟩

end Go.Proofs.YtlgakejjakeomaaDoor.Cnf
