/- Clauses: literals. -/
import Derived.Test.YtlgakejjakeomaaDoorCnfMath
import Derived.Test.YtlgakejjakeomaaDoorChecked
import Derived.Test.YtlgakejjakeomaaDoorAppend1
import Derived.Test.YtlgakejjakeomaaDoorShelf
import Derived.Test.YtlgakejjakeomaaDoorOrderA
import Derived.Test.YtlgakejjakeomaaDoorCnfOpen
import Derived.Below
namespace Go.Proofs.YtlgakejjakeomaaDoor.Cnf
set_option linter.unusedVariables false
set_option linter.unusedSimpArgs false
open Go.RowKit
open Go.Proofs.YtlgakejjakeomaaDoor.Order (IRow ERow add_at)

abbrev bstep {w w1 w2 : World} (h : Below w.heap.size w w1) (h2 : Below w1.heap.size w1 w2) : Below w.heap.size w w2 := h.trans (h2.mono h.size)
theorem ret_bool {a b : Bool} (h : a = b) : Ending.returned (.bool a) = .returned (.bool b) := by rw [h]
theorem ret_int {a b : Int} (h : a = b) : Ending.returned (.int .i64 a) = .returned (.int .i64 b) := by rw [h]
theorem toB {w w' : World} (h : w = w') : Below w.heap.size w w' := by rw [← h]; exact Below.refl _ _

/-- a number of the machine. -/
def Rg (x : Int) : Prop := -9223372036854775808 ≤ x ∧ x ≤ 9223372036854775807
theorem rg_of {x : Int} (h : (Lit.int .i64 x).wf = true) : Rg x := by
  simp [Lit.wf, IntKind.min, IntKind.max, IntKind.signed, IntKind.bits] at h
  exact ⟨by omega, by omega⟩

theorem wmin : wrap64 9223372036854775808 = -9223372036854775808 := by kernel_rfl
theorem none_eq {x : Int} (h : ¬ x = -9223372036854775808) : (x == 0 || x == -x) = noneI x := by
  unfold noneI
  by_cases e0 : x = 0
  · subst e0; rfl
  · have e1 : ¬ x = -x := by omega
    rw [beq_eq_false_iff_ne.2 e0, beq_eq_false_iff_ne.2 e1, decide_eq_false e0, decide_eq_false h]

set_option maxHeartbeats 400000 in
theorem atomC_any (x : Int) (hx : Rg x) (w : World) : Calls Tryd.prog 32 #[.int .i64 x] w fun e w' => e = .returned (.int .i64 (atomW x)) ∧ w = w' := by
  obtain ⟨h1, h2⟩ := hx
  by_cases h : x < 0
  · by_cases e : x = -9223372036854775808
    · subst e
      go_enter Tryd.func32, Tryd.ntmps32
      go_wp2_with fail
      go_ret
      exact ⟨ret_int (show wrap64 9223372036854775808 = atomW (-9223372036854775808) by rw [wmin]; rfl), rfl⟩
    · have F : Hid (atomW x = -x) := Lib.hid (by unfold atomW; rw [if_neg e]; omega)
      go_enter Tryd.func32, Tryd.ntmps32
      go_wp2_with fail
      go_ret
      exact ⟨ret_int F.out.symm, rfl⟩
  · have F : Hid (atomW x = x) := Lib.hid (by unfold atomW; rw [if_neg (by omega)]; omega)
    have h' : 0 ≤ x := by omega
    go_enter Tryd.func32, Tryd.ntmps32
    go_wp2_with fail
    go_ret
    exact ⟨ret_int F.out.symm, rfl⟩

def byI (x y : Int) : Int := if Lib.compareInt (atomW x) (atomW y) ≠ 0 then Lib.compareInt (atomW x) (atomW y) else Lib.compareInt x y
set_option maxHeartbeats 400000 in
theorem by_any (x y : Int) (hx : Rg x) (hy : Rg y) (w : World) : Calls Tryd.prog 59 #[.int .i64 x, .int .i64 y] w fun e w' => e = .returned (.int .i64 (byI x y)) ∧ w = w' := by
  have A1 := Lib.hid (atomC_any x hx w)
  have A2 := Lib.hid (atomC_any y hy w)
  have C1 : Hid (Calls Tryd.prog 77 #[.int .i64 (atomW x), .int .i64 (atomW y)] w fun e w' => e = .returned (.int .i64 (Lib.compareInt (atomW x) (atomW y))) ∧ w' = w) := Lib.hid (Tryd.cmp_Compare_int (atomW x) (atomW y) w)
  have C2 : Hid (Calls Tryd.prog 77 #[.int .i64 x, .int .i64 y] w fun e w' => e = .returned (.int .i64 (Lib.compareInt x y)) ∧ w' = w) := Lib.hid (Tryd.cmp_Compare_int x y w)
  have B : Hid (byI x y = if Lib.compareInt (atomW x) (atomW y) ≠ 0 then Lib.compareInt (atomW x) (atomW y) else Lib.compareInt x y) := Lib.hid rfl
  obtain ⟨a, ha⟩ : ∃ a, a = atomW x := ⟨_, rfl⟩
  obtain ⟨b, hb⟩ : ∃ b, b = atomW y := ⟨_, rfl⟩
  obtain ⟨c, hc⟩ : ∃ c, c = Lib.compareInt a b := ⟨_, rfl⟩
  obtain ⟨d, hd⟩ : ∃ d, d = Lib.compareInt x y := ⟨_, rfl⟩
  rw [← ha, ← hb] at C1 B
  rw [← ha] at A1
  rw [← hb] at A2
  rw [← hc] at C1 B
  rw [← hd] at C2 B
  clear ha hb hc hd hx hy
  by_cases h0 : c = 0
  · subst h0
    have F : Hid (byI x y = d) := Lib.hid (by rw [B.out]; simp)
    go_enter Tryd.func59, Tryd.ntmps59
    go_wp2_with fail
    refine A1.out.mono ?_
    rintro e w' ⟨rfl, rfl⟩
    go_wp2_with fail
    refine A2.out.mono ?_
    rintro e w' ⟨rfl, rfl⟩
    go_wp2_with fail
    refine C1.out.mono ?_
    rintro e w' ⟨rfl, rfl⟩
    go_wp2_with fail
    refine C2.out.mono ?_
    rintro e w' ⟨rfl, rfl⟩
    go_wp2_with fail
    go_ret
    exact ⟨ret_int F.out.symm, rfl⟩
  · have F : Hid (byI x y = c) := Lib.hid (by rw [B.out, if_pos h0])
    go_enter Tryd.func59, Tryd.ntmps59
    go_wp2_with fail
    refine A1.out.mono ?_
    rintro e w' ⟨rfl, rfl⟩
    go_wp2_with fail
    refine A2.out.mono ?_
    rintro e w' ⟨rfl, rfl⟩
    go_wp2_with fail
    refine C1.out.mono ?_
    rintro e w' ⟨rfl, rfl⟩
    go_wp2_with fail
    go_ret
    exact ⟨ret_int F.out.symm, rfl⟩

theorem compareInt_lt (a b : Int) : (Lib.compareInt a b < 0 ↔ a < b) ∧ (Lib.compareInt a b = 0 ↔ a = b) := by
  unfold Lib.compareInt
  repeat' split <;> try omega
theorem by_lt (x y : Int) : decide (byI x y < 0) = keyLt x y := by
  rw [Bool.eq_iff_iff, keyLt_iff, decide_eq_true_eq]
  have h1 := compareInt_lt (atomW x) (atomW y)
  have h2 := compareInt_lt x y
  unfold byI
  split
  · rename_i h; omega
  · rename_i h; simp at h; omega

end Go.Proofs.YtlgakejjakeomaaDoor.Cnf
