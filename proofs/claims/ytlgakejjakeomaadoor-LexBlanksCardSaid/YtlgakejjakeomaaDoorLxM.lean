/- Lines of words: the same lines; the example; the law walked. -/
import Derived.Test.YtlgakejjakeomaaDoorLxL
import Derived.Deep.QuietTactic
import Derived.BigQuiet
namespace Go.Proofs.YtlgakejjakeomaaDoor.Lx
set_option linter.unusedVariables false
set_option linter.unusedSimpArgs false
open Go.RowKit
theorem flatT_get : ∀ (l : List WdT) (k : Nat), k < l.length → (flatT l)[k * 2]? = some (.int .i64 ((l.getD k (0, [])).1 : Nat)) ∧ (flatT l)[k * 2 + 1]? = some (.string ⟨(l.getD k (0, [])).2.toArray⟩)
  | [], k, h => by simp at h
  | x :: l, k, h => by
    have e : flatT (x :: l) = .int .i64 (x.1 : Nat) :: .string ⟨x.2.toArray⟩ :: flatT l := by simp [flatT]
    cases k with
    | zero => rw [e]; exact ⟨rfl, rfl⟩
    | succ k =>
      have := flatT_get l k (by simp at h; omega)
      rw [e, show (k + 1) * 2 = k * 2 + 1 + 1 by omega]
      exact this
theorem own_max {w : World} {B n c k : Nat} {e : TypeId} {A : Option Addr} {xs : List Value} (h : w.ownsRow B e k (.slice A n c) n xs) : n ≤ maxLen := by
  rcases h.2 with ⟨h, _⟩ | ⟨g, cap, cur, h, _, _, hc, hm, _⟩
  · simp only [Value.slice.injEq] at h
    omega
  · simp only [Value.slice.injEq] at h
    omega
set_option maxHeartbeats 4000000 in
set_option maxRecDepth 100000 in
theorem same_any {B B' n n' c c' : Nat} {A A' : Option Addr} {ls : List LnT} {VS VS' : List Value} {w : World} (ha : RowsL B A n c ls VS w) (hb : RowsL B' A' n' c' ls VS' w) :
    Calls Tryd.prog 10 #[.slice A n c, .slice A' n' c'] w fun e w' => e = .returned (.bool true) ∧ ∃ q, w' = w.drewN q := by
  obtain rfl : n = n' := ha.len.trans hb.len.symm
  have HN := Lib.hid ha.len
  have n5 : (n : Int) ≤ 9223372036854775807 := by have := own_max ha.own; unfold maxLen at this; omega
  have HA := Lib.hid ha
  have HB := Lib.hid hb
  clear ha hb
  go_enter Tryd.func10, Tryd.ntmps10
  go_wp2_with fail
  go_loopw [5, 6, 14, 49] (fun _ _ v _ wr => ∃ i : Nat, v = .int .i64 i ∧ i ≤ n ∧ (∃ q, wr = w.drewN q)) (fun _ _ v _ _ => n - (intOf v).toNat)
  case atStart => exact ⟨0, rfl, Nat.zero_le _, ⟨0, rfl⟩⟩
  case round =>
    obtain ⟨i, rfl, hi, hex⟩ := hrel
    have HEX := Lib.hid hex
    obtain ⟨q, hwr⟩ := hex
    have DW : Hid (∀ k, ∃ q', wr.drewN k = w.drewN q') := Lib.hid (fun k => ⟨_, by rw [hwr]; exact World.drewN_drewN w q k⟩)
    have CW : Hid (∀ a, wr.cell? a = w.cell? a) := Lib.hid (fun a => by rw [hwr]; rfl)
    clear hwr
    by_cases hlt : i < n
    · have hlt' : (i : Int) < (n : Int) := by omega
      obtain ⟨g, cap, hv, -, -, -⟩ := owned_shape HA.out.own (by omega)
      injection hv with hv _ hcc
      subst hv hcc
      obtain ⟨g', cap', hv', -, -, -⟩ := owned_shape HB.out.own (by omega)
      injection hv' with hv' _ hcc'
      subst hv' hcc'
      obtain ⟨A1, n1, c1, l1, p1, p2, p3⟩ := HA.out.each i hlt
      obtain ⟨A2, n2, c2, l2, q1, q2, q3⟩ := HB.out.each i hlt
      obtain rfl : n1 = n2 := l1.trans l2.symm
      have A2W := Lib.hid ((HA.out.own.cellAt (i * 2 + 1) (by omega)).trans p2)
      have B2W := Lib.hid ((HB.out.own.cellAt (i * 2 + 1) (by omega)).trans q2)
      have a1 := (CW.out _).trans ((HA.out.own.cellAt (i * 2) (by omega)).trans p1)
      have a2 := (CW.out _).trans ((HA.out.own.cellAt (i * 2 + 1) (by omega)).trans p2)
      have b1 := (CW.out _).trans ((HB.out.own.cellAt (i * 2) (by omega)).trans q1)
      have b2 := (CW.out _).trans ((HB.out.own.cellAt (i * 2 + 1) (by omega)).trans q2)
      have P3 := Lib.hid p3
      have Q3 := Lib.hid q3
      have NL := Lib.hid l1
      have w5 : (n1 : Int) ≤ 9223372036854775807 := by have := own_max p3; unfold maxLen at this; omega
      obtain ⟨X, hX⟩ : ∃ X, X = (ls.getD i (0, [])).2 := ⟨_, rfl⟩
      obtain ⟨y, hy⟩ : ∃ y, y = (ls.getD i (0, [])).1 := ⟨_, rfl⟩
      rw [← hX] at P3 Q3 NL
      rw [← hy] at a1 b1
      clear hX hy p1 p2 p3 q1 q2 q3 l1 l2
      go_wp2_with fail
      go_quiet (fail)
      go_wp2_with fail
      clear a1 b1 a2 b2
      go_loopw [6, 49] (fun _ v wq => ∃ k : Nat, v = .int .i64 k ∧ k ≤ n1 ∧ (∃ q, wq = w.drewN q)) (fun _ v _ => n1 - (intOf v).toNat)
      case atStart => exact ⟨0, by first | rfl | trivial, Nat.zero_le _, DW.out _⟩
      case round =>
        obtain ⟨k, rfl, hk, hex⟩ := hrel
        have HEX2 := Lib.hid hex
        obtain ⟨q, hwr⟩ := hex
        have DW2 : Hid (∀ k, ∃ q', wr.drewN k = w.drewN q') := Lib.hid (fun k => ⟨_, by rw [hwr]; exact World.drewN_drewN w q k⟩)
        have CW2 : Hid (∀ a, wr.cell? a = w.cell? a) := Lib.hid (fun a => by rw [hwr]; rfl)
        clear hwr
        by_cases hkl : k < n1
        · have hkl' : (k : Int) < (n1 : Int) := by omega
          obtain ⟨h, cap, hv, -, -, -⟩ := owned_shape P3.out (by omega)
          injection hv with hv _ hcc
          subst hv hcc
          obtain ⟨h', cap', hv', -, -, -⟩ := owned_shape Q3.out (by omega)
          injection hv' with hv' _ hcc'
          subst hv' hcc'
          obtain ⟨t1, t2⟩ := flatT_get X k (by have := NL.out; omega)
          have a2 := (CW2.out _).trans A2W.out
          have b2 := (CW2.out _).trans B2W.out
          have x1 := (CW2.out _).trans ((P3.out.cellAt (k * 2) (by omega)).trans t1)
          have x2 := (CW2.out _).trans ((P3.out.cellAt (k * 2 + 1) (by omega)).trans t2)
          have y1 := (CW2.out _).trans ((Q3.out.cellAt (k * 2) (by omega)).trans t1)
          have y2 := (CW2.out _).trans ((Q3.out.cellAt (k * 2 + 1) (by omega)).trans t2)
          obtain ⟨u1, hu1⟩ : ∃ u, u = (X.getD k (0, [])).1 := ⟨_, rfl⟩
          obtain ⟨u2, hu2⟩ : ∃ u : ByteArray, u = ⟨(X.getD k (0, [])).2.toArray⟩ := ⟨_, rfl⟩
          rw [← hu1] at x1 y1
          rw [← hu2] at x2 y2
          clear hu1 hu2 t1 t2
          go_wp2_with fail
          go_quiet (fail)
          go_wp2_with fail
          go_roundw
          case rel => exact ⟨k + 1, by go_num, by omega, DW2.out _⟩
          case measure => simp [intOf]; omega
        · have hge : ¬ ((k : Int) < (n1 : Int)) := by omega
          go_wp2_with fail
          go_roundw
          case rel => exact ⟨i + 1, by go_num, by omega, HEX2.out⟩
          case measure => simp [intOf]; omega
    · have hge : ¬ ((i : Int) < (n : Int)) := by omega
      go_wp2_with fail
      go_ret
      exact ⟨rfl, HEX.out⟩

theorem fixedF : linesF [97, 32, 32, 98, 99, 32, 35, 32, 100] = ([(1, [(1, [97]), (4, [98, 99])])], (0, 0), 0) := by decide
theorem fixed_rows {B n c : Nat} {A : Option Addr} {VS : List Value} {W : World} (hr : RowsL B A n c [(1, [(1, [97]), (4, [98, 99])])] VS W) (o : Obj) :
    ∃ g h c1, A = some ⟨g, 0, none⟩ ∧ n = 1 ∧ (W.alloc o).cell? ⟨g, 0, none⟩ = some (.int .i64 1) ∧ (W.alloc o).cell? ⟨g, 1, none⟩ = some (.slice (some ⟨h, 0, none⟩) 2 c1) ∧ (W.alloc o).cell? ⟨h, 2, none⟩ = some (.int .i64 4) ∧ (W.alloc o).cell? ⟨h, 3, none⟩ = some (.string ⟨#[98, 99]⟩) := by
  obtain rfl : n = 1 := hr.len
  obtain ⟨g, cap, hv, -, -, -⟩ := owned_shape hr.own (by decide)
  simp only [Value.slice.injEq] at hv
  obtain ⟨rfl, -, rfl⟩ := hv
  obtain ⟨A1, n1, c1, l1, p1, p2, p3⟩ := hr.each 0 (by decide)
  obtain rfl : n1 = 2 := l1
  obtain ⟨h, cap', hv', -, -, -⟩ := owned_shape p3 (by decide)
  simp only [Value.slice.injEq] at hv'
  obtain ⟨rfl, -, rfl⟩ := hv'
  exact ⟨g, h, c1, rfl, rfl, ((hr.own.alloc o).cellAt 0 (by decide)).trans p1, ((hr.own.alloc o).cellAt 1 (by decide)).trans p2, ((p3.alloc o).cellAt 2 (by decide)).trans rfl, ((p3.alloc o).cellAt 3 (by decide)).trans rfl⟩
set_option maxHeartbeats 2000000 in
set_option maxRecDepth 100000 in
theorem fixed_any (w : World) : Calls Tryd.prog 7 #[] w fun e w' => e = .returned (.bool true) ∧ Below w.heap.size w w' := by
  go_enter Tryd.func7, Tryd.ntmps7
  go_wp2_with (go_at_call 8; refine (lines_any _ _ (by unfold maxLen; decide)).mono ?_; rintro e W1 ⟨A, n, c, VS, rfl, hr, hb⟩; have FF := fixedF; rw [FF] at hr ⊢; obtain ⟨g, h, c1, rfl, rfl, a1, a2, x1, x2⟩ := fixed_rows hr (.cells #[.int .i64 0, .int .i64 0] 25); have HB := Lib.hid (hb.alloc hb.size (.cells #[.int .i64 0, .int .i64 0] 25)); clear hr hb FF)
  go_ret
  exact ⟨rfl, HB.out⟩

end Go.Proofs.YtlgakejjakeomaaDoor.Lx
