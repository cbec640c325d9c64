/- Lines of words: a line that is wrong, the results' boxes. -/
import Derived.Test.YtlgakejjakeomaaDoorLxD
import Derived.RegionIn
import Derived.BigRegionIn
namespace Go.Proofs.YtlgakejjakeomaaDoor.Lx
set_option linter.unusedVariables false
set_option linter.unusedSimpArgs false
open Go.RowKit Go.Shelf
attribute [local go_sem] Oper.semAt_some
/-- three result boxes one behind the other. -/
structure G3 (b : Nat) (W0 : World) (v0 v1 v1' v2 : Value) (W : World) : Prop where
  h0 : W.heap[b]? = some (.cells #[v0] 23 (0, 0))
  h1 : W.heap[b + 1]? = some (.cells #[v1, v1'] 25 (0, 0))
  h2 : W.heap[b + 1 + 1]? = some (.cells #[v2] 26 (0, 0))
  keep : ∀ j, j ≠ b → j ≠ b + 1 → j ≠ b + 1 + 1 → W.heap[j]? = W0.heap[j]?
  below : Below b W0 W
variable {b : Nat} {W0 W : World} {v0 v1 v1' v2 x : Value}
theorem G3.set0 (h : G3 b W0 v0 v1 v1' v2 W) : G3 b W0 x v1 v1' v2 (W.setCell ⟨b, 0, none⟩ x) :=
  ⟨blk_set 0 _ h.h0, (Below.heap_setCell _ _ _ _ (by show _ ≠ b; omega)).trans h.h1, (Below.heap_setCell _ _ _ _ (by show _ ≠ b; omega)).trans h.h2, fun j a1 a2 a3 => (Below.heap_setCell _ _ _ _ (by show _ ≠ b; omega)).trans (h.keep j a1 a2 a3),
    h.below.grown (grown_set _ _ _) (Nat.le_of_lt (lt_of_block h.h0)) (fun k e => by cases e; show b ≤ b; omega)⟩
theorem G3.set1 (h : G3 b W0 v0 v1 v1' v2 W) : G3 b W0 v0 x v1' v2 (W.setCell ⟨b + 1, 0, none⟩ x) :=
  ⟨(Below.heap_setCell _ _ _ _ (by show _ ≠ b + 1; omega)).trans h.h0, blk_set 0 _ h.h1, (Below.heap_setCell _ _ _ _ (by show _ ≠ b + 1; omega)).trans h.h2, fun j a1 a2 a3 => (Below.heap_setCell _ _ _ _ (by show _ ≠ b + 1; omega)).trans (h.keep j a1 a2 a3),
    h.below.grown (grown_set _ _ _) (Nat.le_of_lt (lt_of_block h.h0)) (fun k e => by cases e; show b ≤ b + 1; omega)⟩
theorem G3.set1' (h : G3 b W0 v0 v1 v1' v2 W) : G3 b W0 v0 v1 x v2 (W.setCell ⟨b + 1, 1, none⟩ x) :=
  ⟨(Below.heap_setCell _ _ _ _ (by show _ ≠ b + 1; omega)).trans h.h0, blk_set 1 _ h.h1, (Below.heap_setCell _ _ _ _ (by show _ ≠ b + 1; omega)).trans h.h2, fun j a1 a2 a3 => (Below.heap_setCell _ _ _ _ (by show _ ≠ b + 1; omega)).trans (h.keep j a1 a2 a3),
    h.below.grown (grown_set _ _ _) (Nat.le_of_lt (lt_of_block h.h0)) (fun k e => by cases e; show b ≤ b + 1; omega)⟩
theorem G3.set2 (h : G3 b W0 v0 v1 v1' v2 W) : G3 b W0 v0 v1 v1' x (W.setCell ⟨b + 1 + 1, 0, none⟩ x) :=
  ⟨(Below.heap_setCell _ _ _ _ (by show _ ≠ b + 1 + 1; omega)).trans h.h0, (Below.heap_setCell _ _ _ _ (by show _ ≠ b + 1 + 1; omega)).trans h.h1, blk_set 0 _ h.h2, fun j a1 a2 a3 => (Below.heap_setCell _ _ _ _ (by show _ ≠ b + 1 + 1; omega)).trans (h.keep j a1 a2 a3),
    h.below.grown (grown_set _ _ _) (Nat.le_of_lt (lt_of_block h.h0)) (fun k e => by cases e; show b ≤ b + 1 + 1; omega)⟩
theorem G3.drew (h : G3 b W0 v0 v1 v1' v2 W) : G3 b W0 v0 v1 v1' v2 W.drew := ⟨h.h0, h.h1, h.h2, h.keep, ⟨h.below.os, h.below.tape, h.below.output, h.below.size, h.below.block⟩⟩
theorem G3.refl (h0 : W.heap[b]? = some (.cells #[v0] 23 (0, 0))) (h1 : W.heap[b + 1]? = some (.cells #[v1, v1'] 25 (0, 0))) (h2 : W.heap[b + 1 + 1]? = some (.cells #[v2] 26 (0, 0))) : G3 b W v0 v1 v1' v2 W :=
  ⟨h0, h1, h2, fun _ _ _ _ => rfl, Below.refl _ _⟩
set_option maxRecDepth 100000 in
set_option maxHeartbeats 8000000 in
theorem bad13 {L : Nat} {q7 : String} {cl er k : Int} {Q : Exit → Act → World → Prop} {t0 t1 t5 t7 t8 t9 t12 t13 t14 t15 t16 t17 t18 t19 t20 t21 t22 t23 t24 t25 t26 t27 t28 t29 t30 t31 t32 t33 t34 t35 t36 t37 t38 t39 t40 t41 t42 t43 t44 t45 t46 t47 : Value} {W : World} (hk : W.cell? ⟨b + 1 + 1 + 1 + 1, 0, none⟩ = some (.int .i64 k))
    (h0 : W.heap[b]? = some (.cells #[.slice none 0 0] 23 (0, 0))) (h1 : W.heap[b + 1]? = some (.cells #[.int .i64 0, .int .i64 0] 25 (0, 0))) (h2 : W.heap[b + 1 + 1]? = some (.cells #[.int .i64 0] 26 (0, 0)))
    (hQ : ∀ W', G3 b W (.slice none 0 0) (.int .i64 k) (.int .i64 cl) (.int .i64 er) W' → Q .normal { tmps := #[t0, t1, .pointer (some ⟨b, 0, none⟩), .pointer (some ⟨b + 1, 0, none⟩), .pointer (some ⟨b + 1 + 1, 0, none⟩), t5, .pointer (some ⟨b + 1 + 1 + 1 + 1, 0, none⟩), t7, t8, t9, .int .i64 cl, .int .i64 er, t12, t13, t14, t15, t16, t17, t18, t19, t20, t21, t22, t23, t24, t25, t26, t27, t28, t29, t30, t31, t32, .int .i64 k, .int .i64 cl, .agg #[.int .i64 k, .int .i64 cl], .int .i64 er, t37, t38, t39, t40, t41, t42, t43, t44, t45, t46, t47], defers := [] } W') :
    ((Code.region 13 #[{ dst := some 33, op := Op.load 3 (Operand.tmp 6), type := 3, pos := q7, after := #[], guard := none }, { dst := some 34, op := Op.move (Operand.tmp 10), type := 3, pos := q7, after := #[], guard := none }, { dst := some 35, op := Op.build 25 #[(0, Operand.tmp 33), (1, Operand.tmp 34)], type := 25, pos := q7, after := #[{ on := 0, ground := Ground.data }, { on := 1, ground := Ground.data }], guard := none }, { dst := some 36, op := Op.move (Operand.tmp 11), type := 26, pos := q7, after := #[{ on := 5, ground := Ground.gcOnly Departure.lateStores }], guard := none }, { dst := none, op := Op.store 23 (Operand.tmp 2) (Operand.const (Value.slice none 0 0)), type := 0, pos := q7, after := #[{ on := 0, ground := Ground.textOnly Departure.inlinedCapture }, { on := 1, ground := Ground.textOnly Departure.lateStores }, { on := 2, ground := Ground.textOnly Departure.inlinedCapture }, { on := 3, ground := Ground.textOnly Departure.lateStores }], guard := none }, { dst := none, op := Op.store 25 (Operand.tmp 3) (Operand.tmp 35), type := 0, pos := q7, after := #[{ on := 2, ground := Ground.data }, { on := 4, ground := Ground.chain }, { on := 0, ground := Ground.phase }, { on := 1, ground := Ground.phase }, { on := 2, ground := Ground.phase }, { on := 3, ground := Ground.textOnly Departure.lateStores }, { on := 4, ground := Ground.phase }], guard := none }, { dst := none, op := Op.store 26 (Operand.tmp 4) (Operand.tmp 36), type := 0, pos := q7, after := #[{ on := 3, ground := Ground.data }, { on := 5, ground := Ground.chain }, { on := 0, ground := Ground.phase }, { on := 1, ground := Ground.phase }, { on := 2, ground := Ground.phase }, { on := 3, ground := Ground.phase }, { on := 4, ground := Ground.phase }, { on := 5, ground := Ground.phase }], guard := none }] true)).wpIn (Fence.wide.inRound L) 9 Tryd.prog Q { tmps := #[t0, t1, .pointer (some ⟨b, 0, none⟩), .pointer (some ⟨b + 1, 0, none⟩), .pointer (some ⟨b + 1 + 1, 0, none⟩), t5, .pointer (some ⟨b + 1 + 1 + 1 + 1, 0, none⟩), t7, t8, t9, .int .i64 cl, .int .i64 er, t12, t13, t14, t15, t16, t17, t18, t19, t20, t21, t22, t23, t24, t25, t26, t27, t28, t29, t30, t31, t32, t33, t34, t35, t36, t37, t38, t39, t40, t41, t42, t43, t44, t45, t46, t47], defers := [] } W := by
  have g : G3 b W (.slice none 0 0) (.int .i64 0) (.int .i64 0) (.int .i64 0) W := G3.refl h0 h1 h2
  have d0 : W.cell? ⟨b, 0, none⟩ = some (.slice none 0 0) := blk_cell h0 rfl
  have g0 : W.frozen? ⟨b, 0, none⟩ = false := blk_free 0 h0
  have d1 : W.cell? ⟨b + 1, 0, none⟩ = some (.int .i64 0) := blk_cell h1 rfl
  have g1 : W.frozen? ⟨b + 1, 0, none⟩ = false := blk_free 0 h1
  have d1' : W.cell? ⟨b + 1, 1, none⟩ = some (.int .i64 0) := blk_cell h1 rfl
  have g1' : W.frozen? ⟨b + 1, 1, none⟩ = false := blk_free 1 h1
  have d2 : W.cell? ⟨b + 1 + 1, 0, none⟩ = some (.int .i64 0) := blk_cell h2 rfl
  have g2 : W.frozen? ⟨b + 1 + 1, 0, none⟩ = false := blk_free 0 h2
  gi_region
  all_goals (refine hQ _ ?_; (refine G3.drew ?_; (iterate 4 (first | with_reducible apply G3.set0 | with_reducible apply G3.set1 | with_reducible apply G3.set1' | with_reducible apply G3.set2)); exact g))

end Go.Proofs.YtlgakejjakeomaaDoor.Lx
