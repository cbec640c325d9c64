/- Clauses: the chapter's example holds. -/
import Derived.Test.YtlgakejjakeomaaDoorCnfJ
namespace Go.Proofs.YtlgakejjakeomaaDoor.Cnf
set_option linter.unusedVariables false
set_option linter.unusedSimpArgs false
open Go.RowKit Go.Lib
open Go.Proofs.YtlgakejjakeomaaDoor.Order (IRow ERow add_at)

abbrev L1 (w : World) : World := w.alloc (.cells #[.int .i64 1, .int .i64 2] 3)
abbrev L2 (w : World) : World := (L1 w).alloc (.cells #[.int .i64 (-1), .int .i64 (-2)] 3)
abbrev L3 (w : World) : World := (L2 w).alloc (.cells #[.slice (some ⟨w.heap.size, 0, none⟩) 2 2, .slice (some ⟨w.heap.size + 1, 0, none⟩) 2 2] 73)
theorem lit_rows (w : World) : ERow (L3 w) (L3 w).heap.size (some ⟨w.heap.size + 2, 0, none⟩) [[1, 2], [-1, -2]] := by
  have s1 : (L1 w).heap.size = w.heap.size + 1 := by simp
  have s2 : (L2 w).heap.size = w.heap.size + 2 := by simp
  have s3 : (L3 w).heap.size = w.heap.size + 3 := by simp
  have b12 : Below (L1 w).heap.size (L1 w) (L2 w) := (Below.refl _ _).alloc (Nat.le_refl _) _
  have b23 : Below (L2 w).heap.size (L2 w) (L3 w) := (Below.refl _ _).alloc (Nat.le_refl _) _
  have r1 : IRow (L3 w) (L3 w).heap.size (some ⟨w.heap.size, 0, none⟩) [1, 2] := ((irow2 w 1 2).below b12.size b12).below b23.size b23
  have r2 : IRow (L3 w) (L3 w).heap.size (some ⟨w.heap.size + 1, 0, none⟩) [-1, -2] := by
    have h := (irow2 (L1 w) (-1) (-2)).below b23.size b23
    rwa [s1] at h
  have hb : (L3 w).heap[w.heap.size + 2]? = some (.cells #[.slice (some ⟨w.heap.size, 0, none⟩) 2 2, .slice (some ⟨w.heap.size + 1, 0, none⟩) 2 2] 73 (0, 0)) := by
    have h := heap_alloc_new (L2 w) (.cells #[.slice (some ⟨w.heap.size, 0, none⟩) 2 2, .slice (some ⟨w.heap.size + 1, 0, none⟩) 2 2] 73)
    rwa [s2] at h
  refine .inr ⟨w.heap.size + 2, 0, rfl, by omega, fun j hj => ?_⟩
  match j, hj with
  | 0, _ => exact ⟨_, 2, 2, rfl, Nat.le_refl _, by unfold maxLen; omega, r1, blk_cell (j := 0) hb rfl⟩
  | 1, _ => exact ⟨_, 2, 2, rfl, Nat.le_refl _, by unfold maxLen; omega, r2, blk_cell (j := 1) hb rfl⟩

set_option maxHeartbeats 2000000 in
set_option maxRecDepth 100000 in
theorem fixed_any (w : World) : Calls Tryd.prog 14 #[] w fun e w' => e = .returned (.bool true) ∧ Below w.heap.size w w' := by
  go_enter Tryd.func14, Tryd.ntmps14
  go_wp2_with fail
  refine (new_any w).mono ?_
  rintro e w1 ⟨rfl, hbd, hb1⟩
  have b12 : Below w1.heap.size w1 (L1 w1) := (Below.refl _ _).alloc (Nat.le_refl _) _
  have hr := heap_alloc_new w1 (.cells #[.int .i64 1, .int .i64 2] 3)
  have ONE : Hid (Calls Tryd.prog 25 #[.pointer (some ⟨w.heap.size, 0, none⟩), .slice (some ⟨w1.heap.size, 0, none⟩) 2 2] (L1 w1) fun e w' => e = .returned (.tuple #[]) ∧ ∃ A' c' VS', Bd w.heap.size w.heap.size A' 2 c' [[1, 2], [-1, -2]] VS' false false w' ∧ Below w.heap.size (L1 w1) w') := Lib.hid
    (one12_any w1.heap.size (hbd.below b12) (by omega) (by simp) (by have := hbd.lt.1; omega) (by simp [Value.ownBlock]) (blk_cell (j := 0) hr rfl) (blk_cell (j := 1) hr rfl))
  have BA := Lib.hid (hb1.trans (b12.mono hb1.size))
  clear hbd hb1 b12 hr
  go_wp2_with fail
  refine ONE.out.mono ?_
  rintro e w2 ⟨rfl, A2, c2, VS2, hbd, hb2⟩
  have CL := Lib.hid (clauses_any hbd (by omega))
  have B2 := Lib.hid (BA.out.trans hb2)
  clear hbd hb2 ONE BA
  go_wp2_with fail
  refine CL.out.mono ?_
  rintro e w3 ⟨rfl, he, hb3⟩
  have B3 := Lib.hid (B2.out.trans (hb3.mono B2.out.size))
  have LR := Lib.hid (lit_rows w3)
  have b34 : Below w3.heap.size w3 (L3 w3) := (((Below.refl w3.heap.size w3).alloc (Nat.le_refl _) _).alloc (by simp) _).alloc (by simp; omega) _
  have ER := Lib.hid (he.below b34.size b34)
  have SA : Hid (Calls Tryd.prog 26 #[.slice (some ⟨w2.heap.size, 0, none⟩) 2 2, .slice (some ⟨w3.heap.size + 2, 0, none⟩) 2 2] (L3 w3) fun e w' => e = .returned (.bool true) ∧ ∃ q, w' = (L3 w3).drewN q) := Lib.hid
    (sameAll_any (some ⟨w2.heap.size, 0, none⟩) (some ⟨w3.heap.size + 2, 0, none⟩) [[1, 2], [-1, -2]] [[1, 2], [-1, -2]] 2 2 2 2 (L3 w3) ER.out LR.out rfl rfl (by unfold maxLen; omega))
  have B4 := Lib.hid (B3.out.trans (b34.mono B3.out.size))
  clear he hb3 b34 CL B2 B3 LR ER
  go_wp2_with fail
  refine SA.out.mono ?_
  rintro e w4 ⟨rfl, q, rfl⟩
  have B5 := Lib.hid (drewN_below B4.out q)
  go_wp2_with fail
  go_ret
  exact ⟨rfl, B5.out⟩

end Go.Proofs.YtlgakejjakeomaaDoor.Cnf
