/- Lines of words: the document's answer, a text's lines: the call for a line. -/
import Derived.Test.YtlgakejjakeomaaDoorLxJ
import Derived.Deep.RegionWith
namespace Go.Proofs.YtlgakejjakeomaaDoor.Lx
set_option linter.unusedVariables false
set_option linter.unusedSimpArgs false
open Go.RowKit
/-- what the document's line gives. -/
def LineC (p : ByteArray) (room : Bool) (at' er : Nat) (ws : List WdT) (w : World) : Prop :=
  Calls Tryd.prog 20 #[.string p, .bool room] w fun e w' => ∃ A n c, e = .returned (.tuple #[.slice A n c, .int .i64 at', .int .i64 er]) ∧ Below w.heap.size w w' ∧ (er = 0 → n = ws.length ∧ w'.ownsRow w.heap.size 51 2 (.slice A n c) n (flatT ws))
theorem ref_f (p : ByteArray) (room : Bool) (w : World) (hp : p.size ≤ 100000) :
    LineC p room (wordsF (if room then 40 else 0) p.data.toList).2.1 (wordsF (if room then 40 else 0) p.data.toList).2.2 (wordsF (if room then 40 else 0) p.data.toList).1 w := by
  refine (refline_any p room w hp).mono ?_
  rintro e w' ⟨A, n, c, rfl, hn, hown, hb⟩
  obtain ⟨s1, s2⟩ := (ref_run room p.data.toList 0).1 false [] false (fun _ => rfl) (fun _ => rfl)
  refine ⟨A, n, c, ?_, hb, fun h0 => ?_⟩
  · simp only [wordsF]
    rw [s1]
  · have e1 := s2 h0
    rw [← e1] at hn hown
    rw [flatW_T] at hown
    exact ⟨by rw [hn]; simp [wordsF, wordsT], hown⟩
def OnlyN (N : Act → World → Prop) : Exit → Act → World → Prop
  | .normal, a, w => N a w
  | _, _, _ => False
set_option maxRecDepth 100000 in
set_option maxHeartbeats 4000000 in
theorem reg11 {q : String} {s : ByteArray} {fr i n cp ob at' er : Nat} {A : Option Addr} {room : Bool} {ws : List WdT} {t1 t2 t4 t7 t8 t9 t10 t11 t12 t13 t14 t15 t16 t17 t18 t19 t20 t21 t22 t23 t24 t25 t26 t27 t28 t29 t30 t31 t32 t33 t34 t35 t36 t37 t38 t39 t40 t41 t42 t43 t44 t45 t46 t47 t48 t49 t50 t51 t52 t53 t54 t55 t56 t57 t58 t59 t60 t61 t62 t63 t64 t65 t66 t67 : Value} {W : World} {Q : Exit → Act → World → Prop} (hs : s.size ≤ 100000) (h1 : fr ≤ i) (h2 : i ≤ s.size) (hc : W.cell? ⟨ob, 0, none⟩ = some (.slice A n cp)) (hroom : decide ((n : Int) < 2000) = room)
    (P0 : LineC (s.extract fr i) room at' er ws W.drew)
    (hQ : ∀ W4 A4 n4 c4, Below W.heap.size W W4 → (er = 0 → n4 = ws.length ∧ W4.ownsRow W.heap.size 51 2 (.slice A4 n4 c4) n4 (flatT ws)) → Q .normal { tmps := #[.string s, t1, t2, .pointer (some ⟨ob, 0, none⟩), t4, .int .i64 fr, .int .i64 i, .slice A4 n4 c4, .int .i64 at', .int .i64 er, t10, t11, t12, t13, t14, t15, t16, t17, t18, t19, t20, t21, t22, t23, t24, t25, t26, t27, t28, t29, t30, t31, .tuple #[.slice A4 n4 c4, .int .i64 at', .int .i64 er], .string s, .int .i64 fr, .int .i64 i, .string (s.extract fr i), .pointer (some ⟨ob, 0, none⟩), .slice A n cp, .int .i64 n, .bool room, .tuple #[.slice A4 n4 c4, .int .i64 at', .int .i64 er], .slice A4 n4 c4, .int .i64 at', .int .i64 er, t45, t46, t47, t48, t49, t50, t51, t52, t53, t54, t55, t56, t57, t58, t59, t60, t61, t62, t63, t64, t65, t66, t67], defers := [] } W4) :
    ((Code.region 11 #[{ dst := some 33, op := Op.move (Operand.tmp 0), type := 9, pos := q, after := #[], guard := none }, { dst := some 34, op := Op.move (Operand.tmp 5), type := 3, pos := q, after := #[], guard := none }, { dst := some 35, op := Op.move (Operand.tmp 6), type := 3, pos := q, after := #[], guard := none }, { dst := some 36, op := Op.slice 9 (Operand.tmp 33) (some (Operand.tmp 34)) (some (Operand.tmp 35)) none, type := 9, pos := q, after := #[{ on := 0, ground := Ground.data }, { on := 1, ground := Ground.data }, { on := 2, ground := Ground.data }], guard := none }, { dst := some 37, op := Op.fieldAddr 30 (Operand.tmp 3) 0, type := 0, pos := q, after := #[], guard := none }, { dst := some 38, op := Op.load 23 (Operand.tmp 37), type := 23, pos := q, after := #[{ on := 4, ground := Ground.data }], guard := none }, { dst := some 39, op := Op.call { callee := Callee.builtin Builtin.len, args := #[Operand.tmp 38], argTypes := #[23] }, type := 3, pos := q, after := #[{ on := 5, ground := Ground.data }], guard := none }, { dst := some 40, op := Op.binOp BinOp.lss 3 (Operand.tmp 39) (Operand.const (Value.int IntKind.i64 2000)) 3, type := 4, pos := q, after := #[{ on := 6, ground := Ground.data }], guard := none }, { dst := some 41, op := Op.call { callee := Callee.value (Operand.func 20), args := #[Operand.tmp 36, Operand.tmp 40], argTypes := #[9, 4] }, type := 57, pos := q, after := #[{ on := 3, ground := Ground.data }, { on := 7, ground := Ground.data }], guard := none }, { dst := some 32, op := Op.move (Operand.tmp 41), type := 57, pos := q, after := #[{ on := 8, ground := Ground.data }], guard := none }, { dst := some 42, op := Op.extract (Operand.tmp 32) 0, type := 35, pos := q, after := #[{ on := 9, ground := Ground.data }], guard := none }, { dst := some 43, op := Op.extract (Operand.tmp 32) 1, type := 3, pos := q, after := #[{ on := 9, ground := Ground.data }, { on := 13, ground := Ground.gcOnly Departure.lateStores }], guard := none }, { dst := some 44, op := Op.extract (Operand.tmp 32) 2, type := 3, pos := q, after := #[{ on := 9, ground := Ground.data }, { on := 14, ground := Ground.gcOnly Departure.lateStores }], guard := none }, { dst := some 7, op := Op.assign (Operand.tmp 42), type := 35, pos := q, after := #[{ on := 10, ground := Ground.data }, { on := 8, ground := Ground.chain }, { on := 0, ground := Ground.phase }, { on := 1, ground := Ground.phase }, { on := 2, ground := Ground.phase }, { on := 3, ground := Ground.phase }, { on := 4, ground := Ground.phase }, { on := 5, ground := Ground.phase }, { on := 6, ground := Ground.phase }, { on := 7, ground := Ground.phase }, { on := 8, ground := Ground.phase }, { on := 9, ground := Ground.phase }, { on := 10, ground := Ground.phase }, { on := 11, ground := Ground.textOnly Departure.lateStores }, { on := 12, ground := Ground.textOnly Departure.lateStores }], guard := none }, { dst := some 8, op := Op.assign (Operand.tmp 43), type := 3, pos := q, after := #[{ on := 11, ground := Ground.data }, { on := 13, ground := Ground.chain }, { on := 0, ground := Ground.phase }, { on := 1, ground := Ground.phase }, { on := 2, ground := Ground.phase }, { on := 3, ground := Ground.phase }, { on := 4, ground := Ground.phase }, { on := 5, ground := Ground.phase }, { on := 6, ground := Ground.phase }, { on := 7, ground := Ground.phase }, { on := 8, ground := Ground.phase }, { on := 9, ground := Ground.phase }, { on := 10, ground := Ground.phase }, { on := 11, ground := Ground.phase }, { on := 12, ground := Ground.textOnly Departure.lateStores }, { on := 13, ground := Ground.phase }], guard := none }, { dst := some 9, op := Op.assign (Operand.tmp 44), type := 3, pos := q, after := #[{ on := 12, ground := Ground.data }, { on := 14, ground := Ground.chain }, { on := 0, ground := Ground.phase }, { on := 1, ground := Ground.phase }, { on := 2, ground := Ground.phase }, { on := 3, ground := Ground.phase }, { on := 4, ground := Ground.phase }, { on := 5, ground := Ground.phase }, { on := 6, ground := Ground.phase }, { on := 7, ground := Ground.phase }, { on := 8, ground := Ground.phase }, { on := 9, ground := Ground.phase }, { on := 10, ground := Ground.phase }, { on := 11, ground := Ground.phase }, { on := 12, ground := Ground.phase }, { on := 13, ground := Ground.phase }, { on := 14, ground := Ground.phase }], guard := none }] true)).wp Tryd.prog Q { tmps := #[.string s, t1, t2, .pointer (some ⟨ob, 0, none⟩), t4, .int .i64 fr, .int .i64 i, t7, t8, t9, t10, t11, t12, t13, t14, t15, t16, t17, t18, t19, t20, t21, t22, t23, t24, t25, t26, t27, t28, t29, t30, t31, t32, t33, t34, t35, t36, t37, t38, t39, t40, t41, t42, t43, t44, t45, t46, t47, t48, t49, t50, t51, t52, t53, t54, t55, t56, t57, t58, t59, t60, t61, t62, t63, t64, t65, t66, t67], defers := [] } W := by
  have f1 : (0 : Int) ≤ (fr : Int) := by omega
  have f2 : (fr : Int) ≤ (i : Int) := by omega
  have f3 : (i : Int) ≤ (s.size : Int) := by omega
  have f4 : (s.size : Int) ≤ 100000 := by omega
  have P := Lib.hid P0
  obtain ⟨N, hN⟩ : ∃ N : Act → World → Prop, N = fun a w' => Q .normal a w' := ⟨_, rfl⟩
  have HQ := Lib.hid (show ∀ W4 A4 n4 c4, Below W.heap.size W W4 → (er = 0 → n4 = ws.length ∧ W4.ownsRow W.heap.size 51 2 (.slice A4 n4 c4) n4 (flatT ws)) → OnlyN N .normal { tmps := #[.string s, t1, t2, .pointer (some ⟨ob, 0, none⟩), t4, .int .i64 fr, .int .i64 i, .slice A4 n4 c4, .int .i64 at', .int .i64 er, t10, t11, t12, t13, t14, t15, t16, t17, t18, t19, t20, t21, t22, t23, t24, t25, t26, t27, t28, t29, t30, t31, .tuple #[.slice A4 n4 c4, .int .i64 at', .int .i64 er], .string s, .int .i64 fr, .int .i64 i, .string (s.extract fr i), .pointer (some ⟨ob, 0, none⟩), .slice A n cp, .int .i64 n, .bool room, .tuple #[.slice A4 n4 c4, .int .i64 at', .int .i64 er], .slice A4 n4 c4, .int .i64 at', .int .i64 er, t45, t46, t47, t48, t49, t50, t51, t52, t53, t54, t55, t56, t57, t58, t59, t60, t61, t62, t63, t64, t65, t66, t67], defers := [] } W4 by rw [hN]; exact hQ)
  refine Code.wp_mono (Q := OnlyN N) (fun e a w' h => by
    cases e
    case normal => rw [hN] at h; exact h
    all_goals exact h.elim) ?_
  clear hQ P0 h1 h2 hs hN
  go_region_with (go_at_call 20; refine P.out.mono ?_; rintro e W4 ⟨A4, n4, c4, rfl, hb, hw⟩; have H4 := Lib.hid (HQ.out W4 A4 n4 c4 ⟨hb.os, hb.tape, hb.output, hb.size, hb.block⟩ hw); clear hb hw)
  all_goals exact H4.out

end Go.Proofs.YtlgakejjakeomaaDoor.Lx
