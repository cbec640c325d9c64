/- The law VariantNames, walked. -/
import Derived.Test.YtbffcehaednefaaVariantG
import Derived.Laws.OwnMore
namespace Go.Proofs.Ytbffcehaednefaa.Variant
set_option linter.unusedVariables false
set_option linter.unusedSimpArgs false
open Go.RowKit

abbrev sx : ByteArray := ⟨#[120]⟩
abbrev sy : ByteArray := ⟨#[121]⟩
abbrev son : ByteArray := ⟨#[111, 110]⟩
abbrev soff : ByteArray := ⟨#[111, 102, 102]⟩
abbrev s1 : ByteArray := ⟨#[49]⟩
abbrev s2 : ByteArray := ⟨#[50]⟩
def L0 : List Vr := [(sx, [son, soff]), (sy, [s1, s2])]
theorem may0 : mayL L0 = true := by kernel_rfl
theorem prod0 : prodTo L0 2 = 4 := by kernel_rfl
theorem usual0 : usualTo L0 2 = [.string sx, .string son, .string sy, .string s1] := by kernel_rfl
abbrev w3 (w : World) : World := ((w.alloc (.cells #[.string son, .string soff] 9)).alloc (.cells #[.string s1, .string s2] 9)).alloc
  (.cells #[.string sx, .slice (some ⟨w.heap.size, 0, none⟩) 2 2, .string sy, .slice (some ⟨w.heap.size + 1, 0, none⟩) 2 2] 30)
theorem w3_size (w : World) : (w3 w).heap.size = w.heap.size + 1 + 1 + 1 := by simp
theorem row0 (w : World) : VRow (w3 w) (w3 w).heap.size (some ⟨w.heap.size + 1 + 1, 0, none⟩) L0 := by
  have h0 : (w3 w).heap[w.heap.size]? = some (.cells #[.string son, .string soff] 9 (0, 0)) :=
    (Below.heap_alloc _ _ _ (by simp; omega)).trans ((Below.heap_alloc _ _ _ (by simp)).trans (heap_alloc_new w _))
  have h1 : (w3 w).heap[w.heap.size + 1]? = some (.cells #[.string s1, .string s2] 9 (0, 0)) := by
    have h := heap_alloc_new (w.alloc (.cells #[.string son, .string soff] 9)) (.cells #[.string s1, .string s2] 9)
    rw [World.size_alloc] at h
    exact (Below.heap_alloc _ _ _ (by simp)).trans h
  have h2 : (w3 w).heap[w.heap.size + 1 + 1]? = some (.cells #[.string sx, .slice (some ⟨w.heap.size, 0, none⟩) 2 2, .string sy, .slice (some ⟨w.heap.size + 1, 0, none⟩) 2 2] 30 (0, 0)) := by
    have h := heap_alloc_new ((w.alloc (.cells #[.string son, .string soff] 9)).alloc (.cells #[.string s1, .string s2] 9)) (.cells #[.string sx, .slice (some ⟨w.heap.size, 0, none⟩) 2 2, .string sy, .slice (some ⟨w.heap.size + 1, 0, none⟩) 2 2] 30)
    rw [World.size_alloc, World.size_alloc] at h
    exact h
  refine .inr ⟨_, _, rfl, lt_of_block h2, fun j hj => ?_⟩
  match j, hj with
  | 0, _ =>
    refine ⟨some ⟨w.heap.size, 0, none⟩, 2, 2, rfl, Nat.le_refl _, by unfold maxLen; omega, .inr ⟨_, _, rfl, lt_of_block h0, fun i hi => ?_⟩, blk_cell h2 rfl, blk_cell h2 rfl⟩
    match i, hi with
    | 0, _ => exact blk_cell h0 rfl
    | 1, _ => exact blk_cell h0 rfl
  | 1, _ =>
    refine ⟨some ⟨w.heap.size + 1, 0, none⟩, 2, 2, rfl, Nat.le_refl _, by unfold maxLen; omega, .inr ⟨_, _, rfl, lt_of_block h1, fun i hi => ?_⟩, blk_cell h2 rfl, blk_cell h2 rfl⟩
    match i, hi with
    | 0, _ => exact blk_cell h1 rfl
    | 1, _ => exact blk_cell h1 rfl

set_option maxHeartbeats 1000000 in
theorem fixed_any (w : World) : Calls Try.prog 11 #[] w fun e w' => e = .returned (.bool true) ∧ Below w.heap.size w w' := by
  have B3 := Lib.hid ((((Below.refl w.heap.size w).alloc (Nat.le_refl _) (.cells #[.string son, .string soff] 9)).alloc (by simp) (.cells #[.string s1, .string s2] 9)).alloc (by simp; omega) (.cells #[.string sx, .slice (some ⟨w.heap.size, 0, none⟩) 2 2, .string sy, .slice (some ⟨w.heap.size + 1, 0, none⟩) 2 2] 30))
  have U := Lib.hid (usual_any _ L0 2 2 (w3 w) (row0 w) rfl (by omega) (fun j hj => ((may_parts may0).2 j hj).1))
  go_enter Try.func11, Try.ntmps11
  go_wp2_with fail
  go_at_call 41; refine U.out.mono ?_; rintro e w4 ⟨v, rfl, hown, hb⟩
  rw [usual0] at hown
  obtain ⟨g, cap, rfl, hbase, hg, _⟩ := owned_shape hown (by omega)
  have B4 := Lib.hid (B3.out.trans (hb.mono (by rw [w3_size]; omega)))
  have AL := Lib.hid (all_yes _ L0 2 2 w4 ((row0 w).below hb.size hb) rfl (Nat.le_refl _) (by unfold maxLen; omega) may0)
  rw [prod0] at AL
  have q0 := hown.cells (g := g) rfl 0 (.string sx) rfl
  have q1 := hown.cells (g := g) rfl 1 (.string son) rfl
  have q2 := hown.cells (g := g) rfl 2 (.string sy) rfl
  have q3 := hown.cells (g := g) rfl 3 (.string s1) rfl
  have HC : Hid (w4.cell? ⟨g, 0, none⟩ = some (.string sx) ∧ w4.cell? ⟨g, 1, none⟩ = some (.string son) ∧ w4.cell? ⟨g, 2, none⟩ = some (.string sy) ∧ w4.cell? ⟨g, 3, none⟩ = some (.string s1)) := Lib.hid ⟨q0, q1, q2, q3⟩
  clear hown hb q0 q1 q2 q3 U B3 hbase
  go_wp2_with fail
  go_at_call 17; refine AL.out.mono ?_; rintro e w5 ⟨o, rfl, ho, har, hb⟩
  have c0 := (hb.cell (p := ⟨g, 0, none⟩) hg).trans HC.out.1
  have c1 := (hb.cell (p := ⟨g, 1, none⟩) hg).trans HC.out.2.1
  have c2 := (hb.cell (p := ⟨g, 2, none⟩) hg).trans HC.out.2.2.1
  have c3 := (hb.cell (p := ⟨g, 3, none⟩) hg).trans HC.out.2.2.2
  have B5 := Lib.hid (bstep B4.out hb)
  clear har hb ho HC B4
  go_wp2_with fail
  go_ret
  exact ⟨rfl, B5.out⟩

set_option maxHeartbeats 1000000 in
theorem law_names (s : ByteArray) (w : World) (hs : s.size ≤ maxLen) :
    Calls Try.prog 3 #[.string s] w fun e w' => e = .returned (.bool true) ∧ Below w.heap.size w w' := by
  have FX := Lib.hid fixed_any
  by_cases h : s.size ≤ 3000
  · have z : (s.size : Int) ≤ 3000 := by omega
    have N := Lib.hid (fun w => name_says s w)
    have RN := Lib.hid (fun w => rname_any s w)
    have V := Lib.hid (fun w => value_any s w)
    have RV := Lib.hid (fun w => rvalue_any s w hs)
    generalize nameB s.data.toList = n at N RN
    generalize valueB s.data.toList = v at V RV
    clear h hs
    go_enter Try.func3, Try.ntmps3
    go_wp2_with fail
    go_at_call 11; refine (FX.out _).mono ?_; rintro e w1 ⟨rfl, hb⟩; have J := Lib.hid hb; clear hb
    go_wp2_with (first
      | (go_at_call 12; refine (N.out _).mono ?_; rintro e w' ⟨rfl, rfl⟩)
      | (go_at_call 13; refine (RN.out _).mono ?_; rintro e w' ⟨rfl, rfl⟩)
      | (go_at_call 14; refine (V.out _).mono ?_; rintro e w' ⟨rfl, rfl⟩)
      | (go_at_call 15; refine (RV.out _).mono ?_; rintro e w' ⟨rfl, rfl⟩))
    all_goals (go_ret; exact ⟨ret_bool (by simp), J.out⟩)
  · have z : 3000 < (s.size : Int) := by omega
    have hs' : (s.size : Int) ≤ 9223372036854775807 := by unfold maxLen at hs; omega
    clear h hs
    go_enter Try.func3, Try.ntmps3
    go_wp2_with fail
    go_at_call 11; refine (FX.out _).mono ?_; rintro e w1 ⟨rfl, hb⟩; have J := Lib.hid hb; clear hb
    go_wp2_with fail
    go_ret
    exact ⟨rfl, J.out⟩

end Go.Proofs.Ytbffcehaednefaa.Variant
