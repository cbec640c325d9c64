/- Lines of words: the round of the loop over a text's lines. -/
import Derived.Test.YtlgakejjakeomaaDoorLxC
import Derived.RangeFuncOwn
namespace Go.Proofs.YtlgakejjakeomaaDoor.Lx
set_option linter.unusedVariables false
set_option linter.unusedSimpArgs false
open Go.RowKit Go.Shelf
attribute [local go_sem] Oper.semAt_some

/-- the loop variable is laid; the round (q..: the places in the text, whatever they are called). -/
def linesAssign (q0 q1 q2 q3 q4 q5 q6 q7 q8 q9 : String) : Code := (Code.region 6 #[{ dst := some 7, op := Op.assign (Operand.tmp 18), type := 9, pos := q0, after := #[], guard := none }] false)
def linesBody (q0 q1 q2 q3 q4 q5 q6 q7 q8 q9 : String) : Code := (Code.block 1 ((Code.region 7 #[{ dst := some 19, op := Op.load 3 (Operand.tmp 6), type := 3, pos := q1, after := #[], guard := none }, { dst := some 20, op := Op.binOp BinOp.add 3 (Operand.tmp 19) (Operand.const (Value.int IntKind.i64 1)) 3, type := 3, pos := q1, after := #[{ on := 0, ground := Ground.data }], guard := none }, { dst := none, op := Op.store 3 (Operand.tmp 6) (Operand.tmp 20), type := 0, pos := q1, after := #[{ on := 1, ground := Ground.data }, { on := 0, ground := Ground.phase }, { on := 1, ground := Ground.phase }], guard := none }] false).seq ((Code.region 8 #[{ dst := some 8, op := Op.assign (Operand.const (Value.int IntKind.i64 40)), type := 3, pos := q2, after := #[], guard := none }] false).seq (((Code.region 9 #[{ dst := some 21, op := Op.load 23 (Operand.tmp 5), type := 23, pos := q3, after := #[], guard := none }, { dst := some 22, op := Op.call { callee := Callee.builtin Builtin.len, args := #[Operand.tmp 21], argTypes := #[23] }, type := 3, pos := q3, after := #[{ on := 0, ground := Ground.data }], guard := none }, { dst := some 23, op := Op.binOp BinOp.eql 3 (Operand.tmp 22) (Operand.const (Value.int IntKind.i64 2000)) 3, type := 4, pos := q3, after := #[{ on := 1, ground := Ground.data }], guard := none }] false).seq (Code.cond (Operand.tmp 23) (Code.region 10 #[{ dst := some 8, op := Op.assign (Operand.const (Value.int IntKind.i64 0)), type := 3, pos := q4, after := #[], guard := none }] false) Code.skip)).seq ((Code.region 11 #[{ dst := some 25, op := Op.move (Operand.tmp 7), type := 9, pos := q5, after := #[], guard := none }, { dst := some 26, op := Op.move (Operand.tmp 8), type := 3, pos := q5, after := #[], guard := none }, { dst := some 27, op := Op.call { callee := Callee.value (Operand.func 19), args := #[Operand.tmp 25, Operand.tmp 26], argTypes := #[9, 3] }, type := 55, pos := q5, after := #[{ on := 0, ground := Ground.data }, { on := 1, ground := Ground.data }], guard := none }, { dst := some 24, op := Op.move (Operand.tmp 27), type := 55, pos := q5, after := #[{ on := 2, ground := Ground.data }], guard := none }, { dst := some 28, op := Op.extract (Operand.tmp 24) 0, type := 35, pos := q5, after := #[{ on := 3, ground := Ground.data }], guard := none }, { dst := some 29, op := Op.extract (Operand.tmp 24) 1, type := 3, pos := q5, after := #[{ on := 3, ground := Ground.data }, { on := 7, ground := Ground.gcOnly Departure.lateStores }], guard := none }, { dst := some 30, op := Op.extract (Operand.tmp 24) 2, type := 26, pos := q5, after := #[{ on := 3, ground := Ground.data }, { on := 8, ground := Ground.gcOnly Departure.lateStores }], guard := none }, { dst := some 9, op := Op.assign (Operand.tmp 28), type := 35, pos := q5, after := #[{ on := 4, ground := Ground.data }, { on := 2, ground := Ground.chain }, { on := 0, ground := Ground.phase }, { on := 1, ground := Ground.phase }, { on := 2, ground := Ground.phase }, { on := 3, ground := Ground.phase }, { on := 4, ground := Ground.phase }, { on := 5, ground := Ground.textOnly Departure.lateStores }, { on := 6, ground := Ground.textOnly Departure.lateStores }], guard := none }, { dst := some 10, op := Op.assign (Operand.tmp 29), type := 3, pos := q5, after := #[{ on := 5, ground := Ground.data }, { on := 7, ground := Ground.chain }, { on := 0, ground := Ground.phase }, { on := 1, ground := Ground.phase }, { on := 2, ground := Ground.phase }, { on := 3, ground := Ground.phase }, { on := 4, ground := Ground.phase }, { on := 5, ground := Ground.phase }, { on := 6, ground := Ground.textOnly Departure.lateStores }, { on := 7, ground := Ground.phase }], guard := none }, { dst := some 11, op := Op.assign (Operand.tmp 30), type := 26, pos := q5, after := #[{ on := 6, ground := Ground.data }, { on := 8, ground := Ground.chain }, { on := 0, ground := Ground.phase }, { on := 1, ground := Ground.phase }, { on := 2, ground := Ground.phase }, { on := 3, ground := Ground.phase }, { on := 4, ground := Ground.phase }, { on := 5, ground := Ground.phase }, { on := 6, ground := Ground.phase }, { on := 7, ground := Ground.phase }, { on := 8, ground := Ground.phase }], guard := none }] false).seq (((Code.region 12 #[{ dst := some 31, op := Op.move (Operand.tmp 11), type := 26, pos := q6, after := #[], guard := none }, { dst := some 32, op := Op.binOp BinOp.neq 26 (Operand.tmp 31) (Operand.const (Value.int IntKind.i64 0)) 26, type := 4, pos := q6, after := #[{ on := 0, ground := Ground.data }], guard := none }] false).seq (Code.cond (Operand.tmp 32) ((Code.region 13 #[{ dst := some 33, op := Op.load 3 (Operand.tmp 6), type := 3, pos := q7, after := #[], guard := none }, { dst := some 34, op := Op.move (Operand.tmp 10), type := 3, pos := q7, after := #[], guard := none }, { dst := some 35, op := Op.build 25 #[(0, Operand.tmp 33), (1, Operand.tmp 34)], type := 25, pos := q7, after := #[{ on := 0, ground := Ground.data }, { on := 1, ground := Ground.data }], guard := none }, { dst := some 36, op := Op.move (Operand.tmp 11), type := 26, pos := q7, after := #[{ on := 5, ground := Ground.gcOnly Departure.lateStores }], guard := none }, { dst := none, op := Op.store 23 (Operand.tmp 2) (Operand.const (Value.slice none 0 0)), type := 0, pos := q7, after := #[{ on := 0, ground := Ground.textOnly Departure.inlinedCapture }, { on := 1, ground := Ground.textOnly Departure.lateStores }, { on := 2, ground := Ground.textOnly Departure.inlinedCapture }, { on := 3, ground := Ground.textOnly Departure.lateStores }], guard := none }, { dst := none, op := Op.store 25 (Operand.tmp 3) (Operand.tmp 35), type := 0, pos := q7, after := #[{ on := 2, ground := Ground.data }, { on := 4, ground := Ground.chain }, { on := 0, ground := Ground.phase }, { on := 1, ground := Ground.phase }, { on := 2, ground := Ground.phase }, { on := 3, ground := Ground.textOnly Departure.lateStores }, { on := 4, ground := Ground.phase }], guard := none }, { dst := none, op := Op.store 26 (Operand.tmp 4) (Operand.tmp 36), type := 0, pos := q7, after := #[{ on := 3, ground := Ground.data }, { on := 5, ground := Ground.chain }, { on := 0, ground := Ground.phase }, { on := 1, ground := Ground.phase }, { on := 2, ground := Ground.phase }, { on := 3, ground := Ground.phase }, { on := 4, ground := Ground.phase }, { on := 5, ground := Ground.phase }], guard := none }] true).seq Code.ret) Code.skip)).seq ((Code.region 14 #[{ dst := some 37, op := Op.move (Operand.tmp 9), type := 35, pos := q8, after := #[], guard := none }, { dst := some 38, op := Op.call { callee := Callee.builtin Builtin.len, args := #[Operand.tmp 37], argTypes := #[35] }, type := 3, pos := q8, after := #[{ on := 0, ground := Ground.data }], guard := none }, { dst := some 39, op := Op.binOp BinOp.gtr 3 (Operand.tmp 38) (Operand.const (Value.int IntKind.i64 0)) 3, type := 4, pos := q8, after := #[{ on := 1, ground := Ground.data }], guard := none }] false).seq (Code.cond (Operand.tmp 39) (Code.region 15 #[{ dst := some 40, op := Op.load 23 (Operand.tmp 5), type := 23, pos := q9, after := #[], guard := none }, { dst := some 41, op := Op.load 3 (Operand.tmp 6), type := 3, pos := q9, after := #[], guard := none }, { dst := some 42, op := Op.move (Operand.tmp 9), type := 35, pos := q9, after := #[], guard := none }, { dst := some 43, op := Op.build 37 #[(0, Operand.tmp 41), (1, Operand.tmp 42)], type := 37, pos := q9, after := #[{ on := 1, ground := Ground.data }, { on := 2, ground := Ground.data }], guard := none }, { dst := some 44, op := Op.buildSlice 23 1 #[(0, Operand.tmp 43)], type := 23, pos := q9, after := #[{ on := 3, ground := Ground.data }], guard := none }, { dst := some 45, op := Op.call { callee := Callee.builtin Builtin.append, args := #[Operand.tmp 40, Operand.tmp 44], argTypes := #[23, 23] }, type := 23, pos := q9, after := #[{ on := 0, ground := Ground.data }, { on := 4, ground := Ground.data }], guard := none }, { dst := none, op := Op.store 23 (Operand.tmp 5) (Operand.tmp 45), type := 0, pos := q9, after := #[{ on := 5, ground := Ground.data }, { on := 5, ground := Ground.chain }, { on := 0, ground := Ground.phase }, { on := 1, ground := Ground.phase }, { on := 2, ground := Ground.phase }, { on := 3, ground := Ground.phase }, { on := 4, ground := Ground.phase }, { on := 5, ground := Ground.phase }], guard := none }] false) Code.skip))))))))

/-- block x holds a text. -/
def TextAt (w : World) (x : Nat) (s : ByteArray) : Prop := w.heap[x]? = some (.cells #[.string s] 9 (0, 0))
def lTmps (s : ByteArray) (b : Nat) (t18 : Value) : Array Value :=
  #[.string s, undef, .pointer (some ⟨b, 0, none⟩), .pointer (some ⟨b + 1, 0, none⟩), .pointer (some ⟨b + 1 + 1, 0, none⟩), .pointer (some ⟨b + 1 + 1 + 1, 0, none⟩), .pointer (some ⟨b + 1 + 1 + 1 + 1, 0, none⟩), undef, undef, undef, undef, undef, .string s, .int .i64 s.size, .bool false, undef, .string s,
    .func (.func 45) #[] #[.pointer (some ⟨b + 1 + 1 + 1 + 1 + 1 + 1, 0, none⟩), .pointer (some ⟨b + 1 + 1 + 1 + 1 + 1, 0, none⟩), .pointer (some ⟨b + 1 + 1 + 1 + 1 + 1 + 1 + 1, 0, none⟩)], t18,
    undef, undef, undef, undef, undef, undef, undef, undef, undef, undef, undef, undef, undef, undef, undef, undef, undef, undef, undef, undef, undef, undef, undef, undef, undef, undef, undef, undef, undef]
def lRec (q0 q1 q2 q3 q4 q5 q6 q7 q8 q9 : String) (fn : Nat) (s : ByteArray) (b D : Nat) (st : LoopState) (pend : Option Code) : Loop :=
  { state := st, pending := pend, fn, tmps := lTmps s b undef, params := #[18], assign := linesAssign q0 q1 q2 q3 q4 q5 q6 q7 q8 q9, body := linesBody q0 q1 q2 q3 q4 q5 q6 q7 q8 q9, defers := D }

section
variable {q0 q1 q2 q3 q4 q5 q6 q7 q8 q9 : String} {fn : Nat} {s : ByteArray} {w : World}
/-- the number of the first block behind the boxes. -/
abbrev R0 (w : World) : Nat := w.heap.size + 10
/-- the boxes, whatever the loop's record holds. -/
structure LBox (w : World) (k : Nat) (c : ByteArray) (ls : List LnT) (W : World) : Prop where
  r0 : W.heap[w.heap.size]? = some (.cells #[.slice none 0 0] 23 (0, 0))
  r1 : W.heap[w.heap.size + 1]? = some (.cells #[.int .i64 0, .int .i64 0] 25 (0, 0))
  r2 : W.heap[w.heap.size + 1 + 1]? = some (.cells #[.int .i64 0] 26 (0, 0))
  o : ∃ A n c VS, W.heap[w.heap.size + 1 + 1 + 1]? = some (.cells #[.slice A n c] 23 (0, 0)) ∧ RowsL (R0 w) A n c ls VS W
  n : W.heap[w.heap.size + 1 + 1 + 1 + 1]? = some (.cells #[.int .i64 k] 3 (0, 0))
  x : TextAt W (w.heap.size + 1 + 1 + 1 + 1 + 1) c
  sp : TextAt W (w.heap.size + 1 + 1 + 1 + 1 + 1 + 1) ⟨#[10]⟩
  sv : W.heap[w.heap.size + 1 + 1 + 1 + 1 + 1 + 1 + 1]? = some (.cells #[.int .i64 0] 3 (0, 0))
  K : W.heap[w.heap.size + 1 + 1 + 1 + 1 + 1 + 1 + 1 + 1]? = some (.deferred (some []))
  below : Below w.heap.size w W
  sz : R0 w ≤ W.heap.size
structure LAt (q0 q1 q2 q3 q4 q5 q6 q7 q8 q9 : String) (fn : Nat) (s : ByteArray) (w : World) (pre : List Bs) (c : ByteArray) (W : World) : Prop where
  box : ∃ ls, LBox w pre.length c ls W ∧ ls.length ≤ 2000 ∧ ∀ r, runL (pre ++ r) 0 [] = runL r pre.length ls
  L : W.heap[w.heap.size + 1 + 1 + 1 + 1 + 1 + 1 + 1 + 1 + 1]? = some (.loop (lRec q0 q1 q2 q3 q4 q5 q6 q7 q8 q9 fn s w.heap.size (w.heap.size + 1 + 1 + 1 + 1 + 1 + 1 + 1 + 1) .ready none))
structure LStop (q0 q1 q2 q3 q4 q5 q6 q7 q8 q9 : String) (fn : Nat) (s : ByteArray) (w : World) (pre : List Bs) (W : World) : Prop where
  r : ∃ a c e : Nat, e ≠ 0 ∧ W.heap[w.heap.size]? = some (.cells #[.slice none 0 0] 23 (0, 0)) ∧ W.heap[w.heap.size + 1]? = some (.cells #[.int .i64 a, .int .i64 c] 25 (0, 0)) ∧
    W.heap[w.heap.size + 1 + 1]? = some (.cells #[.int .i64 e] 26 (0, 0)) ∧ ∀ r, runL (pre ++ r) 0 [] = ([], (a, c), e)
  K : W.heap[w.heap.size + 1 + 1 + 1 + 1 + 1 + 1 + 1 + 1]? = some (.deferred (some []))
  L : W.heap[w.heap.size + 1 + 1 + 1 + 1 + 1 + 1 + 1 + 1 + 1]? = some (.loop (lRec q0 q1 q2 q3 q4 q5 q6 q7 q8 q9 fn s w.heap.size (w.heap.size + 1 + 1 + 1 + 1 + 1 + 1 + 1 + 1) .done (some .ret)))
  below : Below w.heap.size w W
theorem grow_put (W : World) (l : Nat) (o : Obj) : W.grownBy (W.putObj l o) (some l) := grownBy_putObj' W l o
/-- whatever turns one of the later blocks alone. -/
theorem LBox.other {k : Nat} {c : ByteArray} {ls : List LnT} {W W' : World} (h : LBox w k c ls W) {l : Nat} (hg : W.grownBy W' (some l)) (h1 : w.heap.size + 9 ≤ l) (h2 : l < R0 w) : LBox w k c ls W' := by
  have hs := h.sz
  unfold R0 at hs h2
  have kb : ∀ j, j < w.heap.size + 9 → W'.heap[j]? = W.heap[j]? := fun j hj => hg.block j (by omega) (by simp; omega)
  obtain ⟨A, n, cp, VS, ho, hr⟩ := h.o
  exact ⟨(kb _ (by omega)).trans h.r0, (kb _ (by omega)).trans h.r1, (kb _ (by omega)).trans h.r2, ⟨A, n, cp, VS, (kb _ (by omega)).trans ho, hr.box hg (by unfold R0; omega)⟩, (kb _ (by omega)).trans h.n, (kb _ (by omega)).trans h.x,
    (kb _ (by omega)).trans h.sp, (kb _ (by omega)).trans h.sv, (kb _ (by omega)).trans h.K, h.below.grown hg h.below.size (fun j e => by cases e; omega), Nat.le_trans h.sz hg.size⟩
theorem LBox.below' {k : Nat} {c : ByteArray} {ls : List LnT} {W W' : World} (h : LBox w k c ls W) (hb : Below W.heap.size W W') : LBox w k c ls W' := by
  have hs := h.sz
  unfold R0 at hs
  have kb : ∀ j, j < w.heap.size + 10 → W'.heap[j]? = W.heap[j]? := fun j hj => hb.block j (by omega)
  obtain ⟨A, n, cp, VS, ho, hr⟩ := h.o
  exact ⟨(kb _ (by omega)).trans h.r0, (kb _ (by omega)).trans h.r1, (kb _ (by omega)).trans h.r2, ⟨A, n, cp, VS, (kb _ (by omega)).trans ho, hr.below hb⟩, (kb _ (by omega)).trans h.n, (kb _ (by omega)).trans h.x,
    (kb _ (by omega)).trans h.sp, (kb _ (by omega)).trans h.sv, (kb _ (by omega)).trans h.K, h.below.trans (hb.mono h.below.size), Nat.le_trans h.sz hb.size⟩
/-- the number box is turned. -/
theorem LBox.setn {k : Nat} {c : ByteArray} {ls : List LnT} {W : World} (h : LBox w k c ls W) (m : Nat) : LBox w m c ls (W.setCell ⟨w.heap.size + 1 + 1 + 1 + 1, 0, none⟩ (.int .i64 m)) := by
  have hg := grown_set W ⟨w.heap.size + 1 + 1 + 1 + 1, 0, none⟩ (.int .i64 m)
  have hs := h.sz
  unfold R0 at hs
  have kb : ∀ j, j ≠ w.heap.size + 1 + 1 + 1 + 1 → (W.setCell ⟨w.heap.size + 1 + 1 + 1 + 1, 0, none⟩ (.int .i64 m)).heap[j]? = W.heap[j]? := fun j hj => Below.heap_setCell _ _ _ _ hj
  obtain ⟨A, n, cp, VS, ho, hr⟩ := h.o
  exact ⟨(kb _ (by omega)).trans h.r0, (kb _ (by omega)).trans h.r1, (kb _ (by omega)).trans h.r2, ⟨A, n, cp, VS, (kb _ (by omega)).trans ho, hr.box hg (show w.heap.size + 1 + 1 + 1 + 1 < w.heap.size + 10 by omega)⟩, blk_set 0 _ h.n, (kb _ (by omega)).trans h.x,
    (kb _ (by omega)).trans h.sp, (kb _ (by omega)).trans h.sv, (kb _ (by omega)).trans h.K, h.below.grown hg h.below.size (fun j e => by cases e; show _ ≤ w.heap.size + 1 + 1 + 1 + 1; omega), Nat.le_trans h.sz hg.size⟩
/-- the text's box is turned. -/
theorem LBox.setx {k : Nat} {c : ByteArray} {ls : List LnT} {W : World} (h : LBox w k c ls W) (c' : ByteArray) : LBox w k c' ls (W.setCell ⟨w.heap.size + 1 + 1 + 1 + 1 + 1, 0, none⟩ (.string c')) := by
  have hg := grown_set W ⟨w.heap.size + 1 + 1 + 1 + 1 + 1, 0, none⟩ (.string c')
  have hs := h.sz
  unfold R0 at hs
  have kb : ∀ j, j ≠ w.heap.size + 1 + 1 + 1 + 1 + 1 → (W.setCell ⟨w.heap.size + 1 + 1 + 1 + 1 + 1, 0, none⟩ (.string c')).heap[j]? = W.heap[j]? := fun j hj => Below.heap_setCell _ _ _ _ hj
  obtain ⟨A, n, cp, VS, ho, hr⟩ := h.o
  exact ⟨(kb _ (by omega)).trans h.r0, (kb _ (by omega)).trans h.r1, (kb _ (by omega)).trans h.r2, ⟨A, n, cp, VS, (kb _ (by omega)).trans ho, hr.box hg (show w.heap.size + 1 + 1 + 1 + 1 + 1 < w.heap.size + 10 by omega)⟩, (kb _ (by omega)).trans h.n, blk_set 0 _ h.x,
    (kb _ (by omega)).trans h.sp, (kb _ (by omega)).trans h.sv, (kb _ (by omega)).trans h.K, h.below.grown hg h.below.size (fun j e => by cases e; show _ ≤ w.heap.size + 1 + 1 + 1 + 1 + 1; omega), Nat.le_trans h.sz hg.size⟩
/-- the rows' box is turned. -/
theorem LBox.seto {k : Nat} {c : ByteArray} {ls ls' : List LnT} {W W1 : World} {A A' : Option Addr} {n n' cp cp' : Nat} {VS VS' : List Value} (h : LBox w k c ls W) (ho : W.heap[w.heap.size + 1 + 1 + 1]? = some (.cells #[.slice A n cp] 23 (0, 0)))
    (hrow : (Value.slice A n cp).ownBlock = none ∨ ∃ g, (Value.slice A n cp).ownBlock = some g ∧ R0 w ≤ g) (hg : W.grownBy W1 (Value.slice A n cp).ownBlock) (hr : RowsL (R0 w) A' n' cp' ls' VS' W1) :
    LBox w k c ls' (W1.setCell ⟨w.heap.size + 1 + 1 + 1, 0, none⟩ (.slice A' n' cp')) := by
  have hs := h.sz
  unfold R0 at hs
  have k1 : ∀ j, j < w.heap.size + 10 → W1.heap[j]? = W.heap[j]? := fun j hj => hg.block j (by omega) (fun e => by
    rcases hrow with h0 | ⟨g, h0, h1⟩
    · rw [h0] at e; cases e
    · rw [h0] at e; injection e with e; unfold R0 at h1; omega)
  have hg2 := grown_set W1 ⟨w.heap.size + 1 + 1 + 1, 0, none⟩ (.slice A' n' cp')
  have kb : ∀ j, j ≠ w.heap.size + 1 + 1 + 1 → j < w.heap.size + 10 → (W1.setCell ⟨w.heap.size + 1 + 1 + 1, 0, none⟩ (.slice A' n' cp')).heap[j]? = W.heap[j]? := fun j hj hk => (Below.heap_setCell _ _ _ _ hj).trans (k1 j hk)
  have hb1 : Below w.heap.size w W1 := h.below.grown hg h.below.size (fun j e => by
    rcases hrow with h0 | ⟨g, h0, h1⟩
    · rw [h0] at e; cases e
    · rw [h0] at e; injection e with e; unfold R0 at h1; omega)
  exact ⟨(kb _ (by omega) (by omega)).trans h.r0, (kb _ (by omega) (by omega)).trans h.r1, (kb _ (by omega) (by omega)).trans h.r2, ⟨A', n', cp', VS', blk_set 0 _ ((k1 _ (by omega)).trans ho), hr.box hg2 (show w.heap.size + 1 + 1 + 1 < w.heap.size + 10 by omega)⟩, (kb _ (by omega) (by omega)).trans h.n, (kb _ (by omega) (by omega)).trans h.x,
    (kb _ (by omega) (by omega)).trans h.sp, (kb _ (by omega) (by omega)).trans h.sv, (kb _ (by omega) (by omega)).trans h.K, hb1.grown hg2 hb1.size (fun j e => by cases e; show _ ≤ w.heap.size + 1 + 1 + 1; omega), Nat.le_trans (Nat.le_trans h.sz hg.size) hg2.size⟩
end

end Go.Proofs.YtlgakejjakeomaaDoor.Lx
