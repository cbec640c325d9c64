/- The program's May: whether a text is a version. -/
import Derived.Test.YtccmgaibikiedaaVerCollect
namespace Go.Proofs.Ytccmgaibikiedaa.Ver
set_option linter.unusedVariables false
set_option linter.unusedSimpArgs false
open Go.RowKit Go.Shelf
attribute [local go_sem] Oper.semAt_some

/-- the loop variable is laid; the round (q..: the places in the text, whatever they are called). -/
def mayAssign (q0 q1 q2 q3 : String) : Code := (Code.region 5 #[{ dst := some 4, op := Op.assign (Operand.tmp 15), type := 9, pos := q0, after := #[], guard := none }] false)
def mayBody (q0 q1 q2 q3 : String) : Code := (Code.block 1 ((Code.region 6 #[{ dst := some 16, op := Op.load 3 (Operand.tmp 3), type := 3, pos := q1, after := #[], guard := none }, { dst := some 17, op := Op.binOp BinOp.add 3 (Operand.tmp 16) (Operand.const (Value.int IntKind.i64 1)) 3, type := 3, pos := q1, after := #[{ on := 0, ground := Ground.data }], guard := none }, { dst := none, op := Op.store 3 (Operand.tmp 3) (Operand.tmp 17), type := 0, pos := q1, after := #[{ on := 1, ground := Ground.data }, { on := 0, ground := Ground.phase }, { on := 1, ground := Ground.phase }], guard := none }] false).seq ((Code.region 7 #[{ dst := some 18, op := Op.move (Operand.tmp 4), type := 9, pos := q2, after := #[], guard := none }, { dst := some 19, op := Op.call { callee := Callee.value (Operand.func 88), args := #[Operand.tmp 18], argTypes := #[9] }, type := 4, pos := q2, after := #[{ on := 0, ground := Ground.data }], guard := none }, { dst := some 20, op := Op.unOp UnOp.not 4 (Operand.tmp 19), type := 4, pos := q2, after := #[{ on := 1, ground := Ground.data }], guard := none }, { dst := some 21, op := Op.move (Operand.tmp 20), type := 4, pos := q2, after := #[{ on := 2, ground := Ground.data }, { on := 1, ground := Ground.chain }], guard := none }, { dst := some 22, op := Op.move (Operand.tmp 4), type := 9, pos := q2, after := #[{ on := 3, ground := Ground.guard }], guard := some (3, true) }, { dst := some 23, op := Op.call { callee := Callee.value (Operand.func 89), args := #[Operand.tmp 22], argTypes := #[9] }, type := 4, pos := q2, after := #[{ on := 4, ground := Ground.data }, { on := 3, ground := Ground.chain }, { on := 3, ground := Ground.guard }], guard := some (3, true) }, { dst := some 24, op := Op.unOp UnOp.not 4 (Operand.tmp 23), type := 4, pos := q2, after := #[{ on := 5, ground := Ground.data }, { on := 3, ground := Ground.guard }], guard := some (3, true) }, { dst := some 25, op := Op.pick (Operand.tmp 21) (Operand.tmp 24) (Operand.const (Value.bool false)), type := 4, pos := q2, after := #[{ on := 3, ground := Ground.data }, { on := 6, ground := Ground.data }], guard := none }] false).seq (Code.cond (Operand.tmp 25) ((Code.region 8 #[{ dst := none, op := Op.store 4 (Operand.tmp 2) (Operand.const (Value.bool false)), type := 0, pos := q3, after := #[], guard := none }] false).seq Code.ret) Code.skip))))

def mayTmps (s : ByteArray) (b : Nat) (t4 t15 : Value) : Array Value :=
  #[.string s, undef, .pointer (some ⟨b, 0, none⟩), .pointer (some ⟨b + 1, 0, none⟩), t4, .string s, .int .i64 s.size, .bool false, .bool false, .string s, .int .i64 s.size, .bool false, .bool false, .string s,
    .func (.func 100) #[] #[.pointer (some ⟨b + 1 + 1, 0, none⟩)], t15, undef, undef, undef, undef, undef, undef, undef, undef, undef, undef, undef, undef]
def mayRec (q0 q1 q2 q3 : String) (fn : Nat) (s : ByteArray) (b D : Nat) (st : LoopState) (pend : Option Code) : Loop :=
  { state := st, pending := pend, fn, tmps := mayTmps s b undef undef, params := #[15], assign := mayAssign q0 q1 q2 q3, body := mayBody q0 q1 q2 q3, defers := D }

section
variable {q0 q1 q2 q3 : String} {fn : Nat} {s : ByteArray} {w : World}
structure MayAt (q0 q1 q2 q3 : String) (fn : Nat) (s : ByteArray) (w : World) (pre : List Bs) (c : ByteArray) (W : World) : Prop where
  n : W.heap[w.heap.size + 1]? = some (.cells #[.int .i64 pre.length] 3 (0, 0))
  r : W.heap[w.heap.size]? = some (.cells #[.bool false] 4 (0, 0))
  x : TextAt W (w.heap.size + 1 + 1) c
  K : W.heap[w.heap.size + 1 + 1 + 1]? = some (.deferred (some []))
  L : W.heap[w.heap.size + 1 + 1 + 1 + 1]? = some (.loop (mayRec q0 q1 q2 q3 fn s w.heap.size (w.heap.size + 1 + 1 + 1) .ready none))
  below : Below w.heap.size w W
  ok : pre.all partP = true
structure MayStop (q0 q1 q2 q3 : String) (fn : Nat) (s : ByteArray) (w : World) (pre : List Bs) (W : World) : Prop where
  r : W.heap[w.heap.size]? = some (.cells #[.bool false] 4 (0, 0))
  K : W.heap[w.heap.size + 1 + 1 + 1]? = some (.deferred (some []))
  L : W.heap[w.heap.size + 1 + 1 + 1 + 1]? = some (.loop (mayRec q0 q1 q2 q3 fn s w.heap.size (w.heap.size + 1 + 1 + 1) .done (some .ret)))
  below : Below w.heap.size w W
  ok : pre.all partP = false
theorem MayAt.drew {pre : List Bs} {c : ByteArray} {W : World} (h : MayAt q0 q1 q2 q3 fn s w pre c W) (k : Nat) : MayAt q0 q1 q2 q3 fn s w pre c (W.drewN k) :=
  ⟨h.n, h.r, h.x, h.K, h.L, drewN_below h.below k, h.ok⟩
theorem MayAt.store {pre : List Bs} {c : ByteArray} {W : World} (h : MayAt q0 q1 q2 q3 fn s w pre c W) (c' : ByteArray) : MayAt q0 q1 q2 q3 fn s w pre c' (W.setCell ⟨w.heap.size + 1 + 1, 0, none⟩ (.string c')) :=
  ⟨(Below.heap_setCell _ _ _ _ (by show _ ≠ w.heap.size + 1 + 1; omega)).trans h.n, (Below.heap_setCell _ _ _ _ (by show _ ≠ w.heap.size + 1 + 1; omega)).trans h.r, h.x.set c',
   (Below.heap_setCell _ _ _ _ (by show _ ≠ w.heap.size + 1 + 1; omega)).trans h.K, (Below.heap_setCell _ _ _ _ (by show _ ≠ w.heap.size + 1 + 1; omega)).trans h.L,
   h.below.setCell (p := ⟨w.heap.size + 1 + 1, 0, none⟩) (by show _ ≤ w.heap.size + 1 + 1; omega) _, h.ok⟩

abbrev busy (q0 q1 q2 q3 : String) (fn : Nat) (s : ByteArray) (b : Nat) : Loop := { mayRec q0 q1 q2 q3 fn s b (b + 1 + 1 + 1) .ready none with state := .busy }
structure MayMid (q0 q1 q2 q3 : String) (fn : Nat) (s : ByteArray) (w : World) (c : ByteArray) (k : Nat) (W : World) : Prop where
  n : W.heap[w.heap.size + 1]? = some (.cells #[.int .i64 k] 3 (0, 0))
  r : W.heap[w.heap.size]? = some (.cells #[.bool false] 4 (0, 0))
  x : TextAt W (w.heap.size + 1 + 1) c
  K : W.heap[w.heap.size + 1 + 1 + 1]? = some (.deferred (some []))
  L : W.heap[w.heap.size + 1 + 1 + 1 + 1]? = some (.loop (busy q0 q1 q2 q3 fn s w.heap.size))
  below : Below w.heap.size w W
theorem MayMid.setn {c : ByteArray} {k : Nat} {W : World} (h : MayMid q0 q1 q2 q3 fn s w c k W) (m : Nat) : MayMid q0 q1 q2 q3 fn s w c m (W.setCell ⟨w.heap.size + 1, 0, none⟩ (.int .i64 m)) :=
  ⟨blk_set 0 _ h.n, (Below.heap_setCell _ _ _ _ (by show _ ≠ w.heap.size + 1; omega)).trans h.r, (Below.heap_setCell _ _ _ _ (by show _ ≠ w.heap.size + 1; omega)).trans h.x, (Below.heap_setCell _ _ _ _ (by show _ ≠ w.heap.size + 1; omega)).trans h.K, (Below.heap_setCell _ _ _ _ (by show _ ≠ w.heap.size + 1; omega)).trans h.L,
   h.below.setCell (p := ⟨w.heap.size + 1, 0, none⟩) (by show _ ≤ w.heap.size + 1; omega) _⟩
theorem MayMid.setr {c : ByteArray} {k : Nat} {W : World} (h : MayMid q0 q1 q2 q3 fn s w c k W) : MayMid q0 q1 q2 q3 fn s w c k (W.setCell ⟨w.heap.size, 0, none⟩ (.bool false)) :=
  ⟨(Below.heap_setCell _ _ _ _ (by show _ ≠ w.heap.size; omega)).trans h.n, blk_set 0 _ h.r, (Below.heap_setCell _ _ _ _ (by show _ ≠ w.heap.size; omega)).trans h.x, (Below.heap_setCell _ _ _ _ (by show _ ≠ w.heap.size; omega)).trans h.K, (Below.heap_setCell _ _ _ _ (by show _ ≠ w.heap.size; omega)).trans h.L,
   h.below.setCell (p := ⟨w.heap.size, 0, none⟩) (Nat.le_refl _) _⟩
theorem MayMid.next {c : ByteArray} {pre : List Bs} {p : Bs} {W : World} (h : MayMid q0 q1 q2 q3 fn s w c (pre.length + 1) W) (ok : (pre ++ [p]).all partP = true) {R : Ending → World → Prop}
    (hR : ∀ W', MayAt q0 q1 q2 q3 fn s w (pre ++ [p]) c W' → R (.returned (.bool true)) W') :
    ∃ v w', (Instr.endRound (w.heap.size + 1 + 1 + 1 + 1) none).run Try.prog W = .ok v w' ∧ R (.returned v) w' :=
  ⟨_, _, run_endRound none h.L, hR _ ⟨(World.putObj_heap_other (by omega)).trans (by rw [List.length_append]; exact h.n), (World.putObj_heap_other (by omega)).trans h.r, (World.putObj_heap_other (by omega)).trans h.x, (World.putObj_heap_other (by omega)).trans h.K,
    World.putObj_heap_same (lt_of_block h.L), h.below.grown (grownBy_putObj_a _ _ _) h.below.size (fun k e => by cases e; omega), ok⟩⟩
theorem MayMid.halt {c : ByteArray} {k : Nat} {pre : List Bs} {p : Bs} {W : World} (h : MayMid q0 q1 q2 q3 fn s w c k W) (ok : (pre ++ [p]).all partP = false) {R : Ending → World → Prop}
    (hR : ∀ W', MayStop q0 q1 q2 q3 fn s w (pre ++ [p]) W' → R (.returned (.bool false)) W') :
    ∃ v w', (Instr.endRound (w.heap.size + 1 + 1 + 1 + 1) (some .ret)).run Try.prog W = .ok v w' ∧ R (.returned v) w' :=
  ⟨_, _, run_endRound (some .ret) h.L, hR _ ⟨(World.putObj_heap_other (by omega)).trans h.r, (World.putObj_heap_other (by omega)).trans h.K,
    World.putObj_heap_same (lt_of_block h.L), h.below.grown (grownBy_putObj_a _ _ _) h.below.size (fun k e => by cases e; omega), ok⟩⟩

set_option maxRecDepth 100000 in
set_option maxHeartbeats 2000000 in
theorem may_yield (hfn : Fence.wide.fn fn) {pre : List Bs} {c : ByteArray} {W : World} (h : MayAt q0 q1 q2 q3 fn s w pre c W) (p : ByteArray) (hp : p.size ≤ 1000000) (hl : pre.length ≤ 1000000) :
    YieldAt Fence.wide 9 Try.prog (w.heap.size + 1 + 1 + 1 + 1) #[.string p] W fun e W' =>
      (e = .returned (.bool true) ∧ MayAt q0 q1 q2 q3 fn s w (pre ++ [p.data.toList]) c W') ∨ (e = .returned (.bool false) ∧ MayStop q0 q1 q2 q3 fn s w (pre ++ [p.data.toList]) W') := by
  refine ⟨fn, mayTmps s w.heap.size undef (.string p), mayAssign q0 q1 q2 q3, mayBody q0 q1 q2 q3, by simpa [mayRec, mayTmps] using run_yield (P := Try.prog) (args := #[.string p]) h.L rfl, roundIn_of_wpIn hfn ?_⟩
  obtain ⟨l, el⟩ : ∃ l, l = w.heap.size + 1 + 1 + 1 + 1 := ⟨_, rfl⟩
  have hL := h.L
  have hlt : w.heap.size + 1 + 1 + 1 + 1 < W.heap.size := lt_of_block hL
  have hbr := run_beginRound (P := Try.prog) hL rfl
  obtain ⟨W2, hW2⟩ : ∃ W2, W.putObj (w.heap.size + 1 + 1 + 1 + 1) (.loop { mayRec q0 q1 q2 q3 fn s w.heap.size (w.heap.size + 1 + 1 + 1) .ready none with state := .busy }) = W2 := ⟨_, rfl⟩
  rw [hW2] at hbr
  have hn2 : W2.heap[w.heap.size + 1]? = some (.cells #[.int .i64 pre.length] 3 (0, 0)) := by rw [← hW2]; exact (World.putObj_heap_other (by omega)).trans h.n
  have hr2 : W2.heap[w.heap.size]? = some (.cells #[.bool false] 4 (0, 0)) := by rw [← hW2]; exact (World.putObj_heap_other (by omega)).trans h.r
  have hx2 : TextAt W2 (w.heap.size + 1 + 1) c := by rw [← hW2]; exact (World.putObj_heap_other (by omega)).trans h.x
  have hK2 : W2.heap[w.heap.size + 1 + 1 + 1]? = some (.deferred (some [])) := by rw [← hW2]; exact (World.putObj_heap_other (by omega)).trans h.K
  have hL2 : W2.heap[w.heap.size + 1 + 1 + 1 + 1]? = some (.loop { mayRec q0 q1 q2 q3 fn s w.heap.size (w.heap.size + 1 + 1 + 1) .ready none with state := .busy }) := by rw [← hW2]; exact World.putObj_heap_same hlt
  have hb2 : Below w.heap.size w W2 := by rw [← hW2]; exact h.below.grown (grownBy_putObj_a _ _ _) h.below.size (fun k e => by cases e; omega)
  have MID := Lib.hid (show MayMid q0 q1 q2 q3 fn s w c pre.length W2 from ⟨hn2, hr2, hx2, hK2, hL2, hb2⟩)
  have hcn : W2.cell? ⟨w.heap.size + 1, 0, none⟩ = some (.int .i64 pre.length) := blk_cell hn2 rfl
  have hfn' : W2.frozen? ⟨w.heap.size + 1, 0, none⟩ = false := blk_free 0 hn2
  have hpl : (pre.length : Int) ≤ 1000000 := by omega
  have hps : p.size ≤ maxLen := by unfold maxLen; omega
  have HPS := Lib.hid hps
  have OK := Lib.hid h.ok
  obtain ⟨W3, hW3⟩ : ∃ W3, W2.setCell ⟨w.heap.size + 1, 0, none⟩ (.int .i64 ((pre.length : Int) + 1)) = W3 := ⟨_, rfl⟩
  have MID3 := Lib.hid (show MayMid q0 q1 q2 q3 fn s w c (pre.length + 1) W3 by rw [← hW3]; exact MID.out.setn (pre.length + 1))
  have hr3 := MID3.out.r
  have hcr : W3.cell? ⟨w.heap.size, 0, none⟩ = some (.bool false) := blk_cell hr3 rfl
  have hfr : W3.frozen? ⟨w.heap.size, 0, none⟩ = false := blk_free 0 hr3
  clear hn2 hr2 hx2 hK2 hL2 hb2 hL hW2 h el hps hr3
  by_cases h1 : lettersP p.data.toList = true
  · have GOOD : Hid ((pre ++ [p.data.toList]).all partP = true) := Lib.hid (by rw [List.all_append, OK.out]; simp [partP, h1])
    unfold mayAssign mayTmps
    gi_wp2
    refine ⟨W2, hbr, ?_⟩
    unfold mayBody
    gi_wp2_with (refine ⟨trivial, ?_⟩; gi_at_call 88; refine (CallsIn.inRound _ (callsIn_wide.2 (isWord_any _ _ HPS.out))).mono ?_; rintro e w' ⟨rfl, rfl⟩; rw [h1])
    refine ⟨trivial, ?_⟩
    gi_wp2
    exact MID3.out.next (R := fun e W' => (e = .returned (.bool true) ∧ MayAt q0 q1 q2 q3 fn s w (pre ++ [p.data.toList]) c W') ∨ (e = .returned (.bool false) ∧ MayStop q0 q1 q2 q3 fn s w (pre ++ [p.data.toList]) W')) GOOD.out (fun W' h => Or.inl ⟨rfl, h⟩)
  · have h1' : lettersP p.data.toList = false := by simpa using h1
    clear h1
    by_cases h2 : numP p.data.toList = true
    · have GOOD : Hid ((pre ++ [p.data.toList]).all partP = true) := Lib.hid (by rw [List.all_append, OK.out]; simp [partP, h2])
      unfold mayAssign mayTmps
      gi_wp2
      refine ⟨W2, hbr, ?_⟩
      unfold mayBody
      gi_wp2_with (first
        | (refine ⟨trivial, ?_⟩; gi_at_call 88; refine (CallsIn.inRound _ (callsIn_wide.2 (isWord_any _ _ HPS.out))).mono ?_; rintro e w' ⟨rfl, rfl⟩; rw [h1'])
        | (refine ⟨trivial, ?_⟩; gi_at_call 89; refine (CallsIn.inRound _ (callsIn_wide.2 (isNumber_any _ _ HPS.out))).mono ?_; rintro e w' ⟨rfl, rfl⟩; rw [h2]))
      exact MID3.out.next (R := fun e W' => (e = .returned (.bool true) ∧ MayAt q0 q1 q2 q3 fn s w (pre ++ [p.data.toList]) c W') ∨ (e = .returned (.bool false) ∧ MayStop q0 q1 q2 q3 fn s w (pre ++ [p.data.toList]) W')) GOOD.out (fun W' h => Or.inl ⟨rfl, h⟩)
    · have h2' : numP p.data.toList = false := by simpa using h2
      clear h2
      have BAD : Hid ((pre ++ [p.data.toList]).all partP = false) := Lib.hid (by rw [List.all_append, OK.out]; simp [partP, h1', h2'])
      unfold mayAssign mayTmps
      gi_wp2
      refine ⟨W2, hbr, ?_⟩
      unfold mayBody
      gi_wp2_with (first
        | (refine ⟨trivial, ?_⟩; gi_at_call 88; refine (CallsIn.inRound _ (callsIn_wide.2 (isWord_any _ _ HPS.out))).mono ?_; rintro e w' ⟨rfl, rfl⟩; rw [h1'])
        | (refine ⟨trivial, ?_⟩; gi_at_call 89; refine (CallsIn.inRound _ (callsIn_wide.2 (isNumber_any _ _ HPS.out))).mono ?_; rintro e w' ⟨rfl, rfl⟩; rw [h2']))
      exact MID3.out.setr.halt (R := fun e W' => (e = .returned (.bool true) ∧ MayAt q0 q1 q2 q3 fn s w (pre ++ [p.data.toList]) c W') ∨ (e = .returned (.bool false) ∧ MayStop q0 q1 q2 q3 fn s w (pre ++ [p.data.toList]) W')) BAD.out (fun W' h => Or.inr ⟨rfl, h⟩)

structure MayEnd (w : World) (k : Nat) (W : World) : Prop where
  n : W.heap[w.heap.size + 1]? = some (.cells #[.int .i64 k] 3 (0, 0))
  r : W.heap[w.heap.size]? = some (.cells #[.bool false] 4 (0, 0))
  K : W.heap[w.heap.size + 1 + 1 + 1]? = some (.deferred (some []))
  below : Below w.heap.size w W
structure MayOut (w : World) (W : World) : Prop where
  r : W.heap[w.heap.size]? = some (.cells #[.bool false] 4 (0, 0))
  K : W.heap[w.heap.size + 1 + 1 + 1]? = some (.deferred (some []))
  below : Below w.heap.size w W
abbrev mayW0 (s : ByteArray) (w : World) : World := ((w.alloc (.cells #[.bool false] 4)).alloc (.cells #[.int .i64 0] 3)).alloc (.cells #[.string s] 9)

set_option maxRecDepth 100000 in
set_option maxHeartbeats 2000000 in
theorem may_range (q0 q1 q2 q3 : String) (s : ByteArray) (w : World) (h2 : s.size ≤ 40) (Q : Exit → Act → World → Prop)
    (hdone : ∀ W, MayEnd w (cutAt 46 s.data.toList).length W → (cutAt 46 s.data.toList).all partP = true → Q .normal { tmps := mayTmps s w.heap.size undef undef, defers := [{ target := .collected (w.heap.size + 1 + 1 + 1), args := #[] }] } W)
    (hstop : ∀ W, MayOut w W → (cutAt 46 s.data.toList).all partP = false → Q .ret { tmps := mayTmps s w.heap.size undef undef, defers := [{ target := .collected (w.heap.size + 1 + 1 + 1), args := #[] }] } W) :
    (Code.rangeFunc (.tmp 14) #[15] (mayAssign q0 q1 q2 q3) (mayBody q0 q1 q2 q3)).wpIn Fence.wide 12 Try.prog Q { tmps := mayTmps s w.heap.size undef undef, defers := [] } (mayW0 s w) := by
  refine wpIn_rangeFunc ?_
  intro fn hfn
  obtain ⟨W0, hW0⟩ : ∃ W0, mayW0 s w = W0 := ⟨_, rfl⟩
  have hs0 : W0.heap.size = w.heap.size + 1 + 1 + 1 := by rw [← hW0]; simp [mayW0]
  have b0 : W0.heap[w.heap.size]? = some (.cells #[.bool false] 4 (0, 0)) := by rw [← hW0]; exact (Below.heap_alloc _ _ _ (by simp; omega)).trans ((Below.heap_alloc _ _ _ (by simp)).trans (heap_alloc_new _ _))
  have b1 : W0.heap[w.heap.size + 1]? = some (.cells #[.int .i64 0] 3 (0, 0)) := by
    rw [← hW0]
    have h := heap_alloc_new (w.alloc (.cells #[.bool false] 4)) (.cells #[.int .i64 0] 3)
    rw [World.size_alloc] at h
    exact (Below.heap_alloc _ _ _ (by simp)).trans h
  have b2 : TextAt W0 (w.heap.size + 1 + 1) s := by
    rw [← hW0]
    have h := heap_alloc_new ((w.alloc (.cells #[.bool false] 4)).alloc (.cells #[.int .i64 0] 3)) (.cells #[.string s] 9)
    rw [World.size_alloc, World.size_alloc] at h
    exact h
  have bb : Below w.heap.size w W0 := by rw [← hW0]; exact ((((Below.refl _ w).alloc (Nat.le_refl _) _).alloc (by simp) _).alloc (by simp; omega) _)
  rw [hW0]
  obtain ⟨W1, hW1⟩ : ∃ W1, (W0.alloc (.deferred (some []))).alloc (.loop (mayRec q0 q1 q2 q3 fn s w.heap.size W0.heap.size .ready none)) = W1 := ⟨_, rfl⟩
  have hold : ∀ k, k < W0.heap.size → W1.heap[k]? = W0.heap[k]? := fun k hk => by
    rw [← hW1]; exact (Below.heap_alloc _ _ k (by simp; omega)).trans (Below.heap_alloc _ _ k hk)
  have hM : MayAt q0 q1 q2 q3 fn s w [] s W1 :=
    ⟨(hold _ (by omega)).trans b1, (hold _ (by omega)).trans b0, (hold _ (by omega)).trans b2,
     by rw [← hW1, ← hs0]; exact (Below.heap_alloc _ _ _ (by simp)).trans (heap_alloc_new W0 _),
     by rw [← hW1, ← hs0]; have h := heap_alloc_new (W0.alloc (.deferred (some []))) (.loop (mayRec q0 q1 q2 q3 fn s w.heap.size W0.heap.size .ready none)); rw [World.size_alloc] at h; exact h,
     by rw [← hW1]; exact (bb.alloc (by omega) _).alloc (by simp; omega) _, rfl⟩
  have hf : ({ tmps := mayTmps s w.heap.size undef undef, defers := [] } : Act).eval (.tmp 14) = .func (.func 100) #[] #[.pointer (some ⟨w.heap.size + 1 + 1, 0, none⟩)] := rfl
  refine ⟨W0.heap.size + 1, [{ target := .collected W0.heap.size, args := #[] }], W1, { target := .fn (.func 100) #[.pointer (some ⟨w.heap.size + 1 + 1, 0, none⟩)], args := #[.func (.yield (W0.heap.size + 1)) #[] #[]] }, W1, 100,
    #[.func (.yield (W0.heap.size + 1)) #[] #[]] ++ #[.pointer (some ⟨w.heap.size + 1 + 1, 0, none⟩)], W1, ?_, ?_, ?_, ?_, fun _ => by omega, ?_⟩
  · rw [← hW1]; exact run_enterLoop_outer _ _ _ _ _
  · simp [resolve, go_sem, mayTmps]
  · intro f' hf'; trivial
  · have eg := enters_of Try.func100 (by kernel_rfl) rfl
    simp [invoke, go_sem, eg]
  · rw [hs0]
    refine (callsIn_wide.2 (callsIn_wide.1 (iter_any (w.heap.size + 1 + 1 + 1 + 1) (w.heap.size + 1 + 1) s (by omega) (MayAt q0 q1 q2 q3 fn s w) (MayStop q0 q1 q2 q3 fn s w)
      (fun pre c W hJ => hJ.x.cell) (fun pre c W n hJ => hJ.drew n) (fun pre c W c' hJ => hJ.store c')
      (fun pre c p W hJ hp hl => may_yield hfn hJ p hp hl) W1 hM))).mono ?_
    rintro e W2 ⟨⟨v0, rfl⟩, ⟨c, h⟩ | ⟨pre, hpre, h⟩⟩
    · exact ⟨none, _, run_endLoop h.L (by simp [mayRec]), hdone _ ⟨(World.putObj_heap_other (by omega)).trans h.n, (World.putObj_heap_other (by omega)).trans h.r, (World.putObj_heap_other (by omega)).trans h.K,
        h.below.grown (grownBy_putObj_a _ _ _) h.below.size (fun k e => by cases e; omega)⟩ h.ok⟩
    · have hbad : (cutAt 46 s.data.toList).all partP = false := by
        obtain ⟨r, hr⟩ := hpre
        rw [← hr, List.all_append, h.ok]; rfl
      refine ⟨some .ret, _, run_endLoop h.L (by simp [mayRec]), ?_⟩
      have H := hstop _ ⟨(World.putObj_heap_other (by omega)).trans h.r, (World.putObj_heap_other (by omega)).trans h.K,
        h.below.grown (grownBy_putObj_a W2 (w.heap.size + 1 + 1 + 1 + 1) (.loop { mayRec q0 q1 q2 q3 fn s w.heap.size (w.heap.size + 1 + 1 + 1) .done (some .ret) with state := .exhausted })) h.below.size (fun k e => by cases e; omega)⟩ hbad
      have HH := Lib.hid H
      clear hdone hstop H
      gi_wp2
      exact HH.out
end


theorem may_len {s : Bs} (h1 : 0 < s.length) (h2 : s.length ≤ 40) : mayV s = ((cutAt 46 s).all partP && decide ((cutAt 46 s).length ≤ 8)) := by
  simp only [mayV, decide_eq_true h1, decide_eq_true h2, Bool.true_and]

set_option maxRecDepth 100000 in
set_option maxHeartbeats 2000000 in
theorem may_in (s : ByteArray) (w : World) (h1 : 0 < s.size) (h2 : s.size ≤ 40) :
    CallsIn Fence.wide 12 Try.prog 72 #[.string s] w fun e w' => e = .returned (.bool (mayV s.data.toList)) ∧ Below w.heap.size w w' := by
  have h1' : 0 < (s.size : Int) := by omega
  have h2' : (s.size : Int) ≤ 40 := by omega
  have e1 : ((s.size : Int) == 0) = false := beq_eq_false_iff_ne.2 (by omega)
  have e2 : decide (40 < (s.size : Int)) = false := decide_eq_false (by omega)
  have M := Lib.hid (may_len (s := s.data.toList) (by rw [len_list]; exact h1) (by rw [len_list]; exact h2))
  have hc := cut_length 46 s.data.toList
  rw [len_list] at hc
  have hk : (cutAt 46 s.data.toList).length ≤ 41 := by omega
  clear hc
  refine callsIn_of_wp_marks Try.func72 rfl trivial ?_ rfl
  simp only [Try.ntmps72, List.size_toArray, List.length_cons, List.length_nil, Nat.reduceAdd, Nat.reduceSub, Array.replicate_succ, Array.replicate_zero, List.push_toArray, List.append_toArray, List.nil_append, List.cons_append]
  gi_wp2_with (refine ⟨trivial, ?_⟩; gi_at_call 87; refine (callsIn_wide.2 (parts_any _ _)).mono ?_; rintro e w' ⟨rfl, rfl⟩)
  obtain ⟨k, hkk⟩ : ∃ k, k = (cutAt 46 s.data.toList).length := ⟨_, rfl⟩
  refine may_range _ _ _ _ s w h2 _ ?_ ?_
  · intro W hE hall
    rw [← hkk] at hE hk
    have hcn : W.cell? ⟨w.heap.size + 1, 0, none⟩ = some (.int .i64 k) := blk_cell hE.n rfl
    have hcr : W.cell? ⟨w.heap.size, 0, none⟩ = some (.bool false) := blk_cell hE.r rfl
    have hfr : W.frozen? ⟨w.heap.size, 0, none⟩ = false := blk_free 0 hE.r
    have F : Hid (mayV s.data.toList = decide ((k : Int) ≤ 8)) := Lib.hid (by rw [M.out, hall, ← hkk]; simp; omega)
    have HE := Lib.hid hE
    clear hE hall hkk M e1 e2
    unfold mayTmps
    gi_wp2
    have hr' : (W.setCell ⟨w.heap.size, 0, none⟩ (.bool (decide ((k : Int) ≤ 8)))).heap[w.heap.size]? = some (.cells #[.bool (decide ((k : Int) ≤ 8))] 4 (0, 0)) := blk_set 0 _ HE.out.r
    have hK' : (W.setCell ⟨w.heap.size, 0, none⟩ (.bool (decide ((k : Int) ≤ 8)))).heap[w.heap.size + 1 + 1 + 1]? = some (.deferred (some [])) := (Below.heap_setCell _ _ _ _ (by show _ ≠ w.heap.size; omega)).trans HE.out.K
    refine ⟨by simp, .inl ⟨_, _, rfl, run_takeDeferred hK', ?_⟩⟩
    have hc0 : (W.setCell ⟨w.heap.size, 0, none⟩ (.bool (decide ((k : Int) ≤ 8)))).cell? ⟨w.heap.size, 0, none⟩ = some (.bool (decide ((k : Int) ≤ 8))) := blk_cell hr' rfl
    have hc5 := cell_kept hc0 (grownBy_putObj' _ (w.heap.size + 1 + 1 + 1) (.deferred none)) (fun r e => by cases e; exact ⟨_, hK', rfl⟩)
    refine ⟨.bool (decide ((k : Int) ≤ 8)), ?_, ret_bool F.out.symm, ?_⟩
    · simp [results, Try.f72, go_sem, hc5]
    · have hb := HE.out.below.setCell (p := ⟨w.heap.size, 0, none⟩) (Nat.le_refl _) (.bool (decide ((k : Int) ≤ 8)))
      exact hb.grown (grownBy_putObj_a _ _ _) hb.size (fun k e => by cases e; omega)
  · intro W hE hall
    have F : Hid (mayV s.data.toList = false) := Lib.hid (by rw [M.out, hall]; rfl)
    have HE := Lib.hid hE
    clear hE hall hkk M e1 e2 hk
    unfold mayTmps
    gi_wp2
    refine ⟨by simp, .inl ⟨_, _, rfl, run_takeDeferred HE.out.K, ?_⟩⟩
    have hc0 : W.cell? ⟨w.heap.size, 0, none⟩ = some (.bool false) := blk_cell HE.out.r rfl
    have hc5 := cell_kept hc0 (grownBy_putObj' _ (w.heap.size + 1 + 1 + 1) (.deferred none)) (fun r e => by cases e; exact ⟨_, HE.out.K, rfl⟩)
    refine ⟨.bool false, ?_, ret_bool F.out.symm, HE.out.below.grown (grownBy_putObj_a _ _ _) HE.out.below.size (fun k e => by cases e; omega)⟩
    simp [results, Try.f72, go_sem, hc5]

set_option maxRecDepth 100000 in
set_option maxHeartbeats 1000000 in
theorem may_not (s : ByteArray) (w : World) (hm : s.size ≤ maxLen) (h : s.size = 0 ∨ 40 < s.size) :
    Calls Try.prog 72 #[.string s] w fun e w' => e = .returned (.bool (mayV s.data.toList)) ∧ Below w.heap.size w w' := by
  have hb := (Below.refl w.heap.size w).alloc (Nat.le_refl _) (.cells #[.bool false] 4)
  have F : Hid (mayV s.data.toList = false) := Lib.hid (by
    have e : (decide (0 < s.data.toList.length) && decide (s.data.toList.length ≤ 40)) = false := by
      rw [len_list]
      rcases h with h | h
      · rw [h]; rfl
      · simp; omega
    simp only [mayV, e, Bool.false_and])
  unfold maxLen at hm
  rcases h with h | h
  · obtain rfl : s = ByteArray.empty := ByteArray.size_eq_zero_iff.1 h
    have HB := Lib.hid hb
    clear hb
    go_enter Try.func72, Try.ntmps72
    go_wp2_with fail
    exact bodyPost_ret (v := .bool false) (by simp [results, Try.results72, go_sem]) rfl ⟨ret_bool F.out.symm, HB.out⟩
  · have e1 : ((s.size : Int) == 0) = false := beq_eq_false_iff_ne.2 (by omega)
    have h' : 40 < (s.size : Int) := by omega
    have HB := Lib.hid hb
    clear hb h
    go_enter Try.func72, Try.ntmps72
    go_wp2_with fail
    exact bodyPost_ret (v := .bool false) (by simp [results, Try.results72, go_sem]) rfl ⟨ret_bool F.out.symm, HB.out⟩

theorem may_any (s : ByteArray) (w : World) (hm : s.size ≤ maxLen) :
    Calls Try.prog 72 #[.string s] w fun e w' => e = .returned (.bool (mayV s.data.toList)) ∧ Below w.heap.size w w' := by
  by_cases h : 0 < s.size ∧ s.size ≤ 40
  · exact callsIn_wide.1 (may_in s w h.1 h.2)
  · exact may_not s w hm (by omega)

end Go.Proofs.Ytccmgaibikiedaa.Ver
