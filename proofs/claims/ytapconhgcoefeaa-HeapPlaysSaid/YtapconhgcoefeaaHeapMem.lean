/- A heap in memory: its struct, its three rows; what each short method does to them. -/
import Derived.Test.YtapconhgcoefeaaRows
import Derived.Test.YtapconhgcoefeaaHeapMath
import Derived.Test.YtapconhgcoefeaaAppend1
import Derived.Deep.QuietTactic
import Derived.BigQuiet
namespace Go.Proofs.Ytapconhgcoefeaa.Heap
set_option linter.unusedVariables false
open Go.RowKit

/-- the blocks of a heap, and the room of its row. -/
structure Ids where
  hb : Nat
  g1 : Nat
  g2 : Nat
  g3 : Nat
  c3 : Nat

def Ids.has (I : Ids) (k : Nat) : Prop := k = I.hb ∨ k = I.g1 ∨ k = I.g2 ∨ k = I.g3

/-- the world is the same, but for the blocks of S, and new ones. -/
structure Sm (S : Nat → Prop) (w w' : World) : Prop where
  os : w'.os = w.os
  tape : w'.tape = w.tape
  output : w'.output = w.output
  size : w.heap.size ≤ w'.heap.size
  block : ∀ k, k < w.heap.size → ¬ S k → w'.heap[k]? = w.heap[k]?

theorem Sm.refl (S : Nat → Prop) (w : World) : Sm S w w := ⟨rfl, rfl, rfl, Nat.le_refl _, fun _ _ _ => rfl⟩
theorem Sm.trans {S : Nat → Prop} {a b c : World} (h : Sm S a b) (k : Sm S b c) : Sm S a c :=
  ⟨k.os.trans h.os, k.tape.trans h.tape, k.output.trans h.output, Nat.le_trans h.size k.size, fun i hi hs => (k.block i (Nat.lt_of_lt_of_le hi h.size) hs).trans (h.block i hi hs)⟩
theorem Sm.set {S : Nat → Prop} {w w' : World} (h : Sm S w w') (a : Addr) (v : Value) (hs : S a.block) : Sm S w (w'.setCell a v) :=
  h.trans ⟨rfl, rfl, rfl, by simp, fun k _ hk => Below.heap_setCell _ _ _ _ (fun e => hk (by rw [e]; exact hs))⟩
theorem Sm.alloc {S : Nat → Prop} {w w' : World} (h : Sm S w w') (o : Obj) : Sm S w (w'.alloc o) :=
  h.trans ⟨rfl, rfl, rfl, by simp, fun k hk _ => Below.heap_alloc _ _ _ hk⟩
theorem Sm.drewN {S : Nat → Prop} {w w' : World} (h : Sm S w w') (n : Nat) : Sm S w (w'.drewN n) := ⟨h.os, h.tape, h.output, h.size, h.block⟩
theorem Sm.drew {S : Nat → Prop} {w w' : World} (h : Sm S w w') : Sm S w w'.drew := ⟨h.os, h.tape, h.output, h.size, h.block⟩
theorem Sm.mono {S T : Nat → Prop} {w w' : World} (h : Sm S w w') (k : ∀ i, S i → T i) : Sm T w w' := ⟨h.os, h.tape, h.output, h.size, fun i hi ht => h.block i hi (fun hs => ht (k i hs))⟩
theorem Sm.below {S : Nat → Prop} {B : Nat} {w w' : World} (h : Sm S w w') (hB : B ≤ w.heap.size) (hS : ∀ i, S i → B ≤ i) : Below B w w' :=
  ⟨h.os, h.tape, h.output, h.size, fun i hi => h.block i (Nat.lt_of_lt_of_le hi hB) (fun hs => by have := hS i hs; omega)⟩

def u64s (l : List Nat) : List Value := l.map fun (n : Nat) => Value.int .u64 (n : Int)
def ints (l : List Int) : List Value := l.map (Value.int .i64)
def nats (l : List Nat) : List Value := l.map fun (n : Nat) => Value.int .i64 (n : Int)

structure HM (w : World) (I : Ids) (sc : List Nat) (pl : List Int) (rw : List Nat) : Prop where
  head : w.heap[I.hb]? = some (.cells #[.slice (some ⟨I.g1, 0, none⟩) sc.length sc.length, .slice (some ⟨I.g2, 0, none⟩) pl.length pl.length, .slice (some ⟨I.g3, 0, none⟩) rw.length I.c3] 92 (0, 0))
  scs : w.heap[I.g1]? = some (.cells (u64s sc).toArray 56 (0, 0))
  pls : w.heap[I.g2]? = some (.cells (ints pl).toArray 3 (0, 0))
  rws : ∃ junk : List Value, w.heap[I.g3]? = some (.cells (nats rw ++ junk).toArray 3 (0, 0)) ∧ rw.length + junk.length = I.c3
  apart : I.hb ≠ I.g1 ∧ I.hb ≠ I.g2 ∧ I.hb ≠ I.g3 ∧ I.g1 ≠ I.g2 ∧ I.g1 ≠ I.g3 ∧ I.g2 ≠ I.g3
  len : sc.length = pl.length
  small : sc.length ≤ 65537
  room : rw.length < sc.length
  cap : I.c3 + 1 = sc.length

variable {w : World} {I : Ids} {sc : List Nat} {pl : List Int} {rw : List Nat}

theorem HM.of_heap {w' : World} (h : HM w I sc pl rw) (e : w'.heap = w.heap) : HM w' I sc pl rw :=
  ⟨by rw [e]; exact h.head, by rw [e]; exact h.scs, by rw [e]; exact h.pls, by rw [e]; exact h.rws, h.apart, h.len, h.small, h.room, h.cap⟩
theorem HM.drewN (h : HM w I sc pl rw) (n : Nat) : HM (w.drewN n) I sc pl rw := h.of_heap rfl
theorem HM.drew (h : HM w I sc pl rw) : HM w.drew I sc pl rw := h.of_heap rfl
theorem HM.lt (h : HM w I sc pl rw) : I.hb < w.heap.size ∧ I.g1 < w.heap.size ∧ I.g2 < w.heap.size ∧ I.g3 < w.heap.size := by
  obtain ⟨j, hj, _⟩ := h.rws
  exact ⟨lt_of_block h.head, lt_of_block h.scs, lt_of_block h.pls, lt_of_block hj⟩
theorem HM.keep {w' : World} {S : Nat → Prop} (h : HM w I sc pl rw) (k : Sm S w w') (hs : ∀ i, I.has i → ¬ S i) : HM w' I sc pl rw := by
  have l := h.lt
  refine ⟨?_, ?_, ?_, ?_, h.apart, h.len, h.small, h.room, h.cap⟩
  · rw [k.block _ l.1 (hs _ (.inl rfl))]; exact h.head
  · rw [k.block _ l.2.1 (hs _ (.inr (.inl rfl)))]; exact h.scs
  · rw [k.block _ l.2.2.1 (hs _ (.inr (.inr (.inl rfl))))]; exact h.pls
  · rw [k.block _ l.2.2.2 (hs _ (.inr (.inr (.inr rfl))))]; exact h.rws

theorem HM.c0 (h : HM w I sc pl rw) : w.cell? ⟨I.hb, 0, none⟩ = some (.slice (some ⟨I.g1, 0, none⟩) sc.length sc.length) := blk_cell h.head rfl
theorem HM.c1 (h : HM w I sc pl rw) : w.cell? ⟨I.hb, 1, none⟩ = some (.slice (some ⟨I.g2, 0, none⟩) pl.length pl.length) := blk_cell h.head rfl
theorem HM.c2 (h : HM w I sc pl rw) : w.cell? ⟨I.hb, 2, none⟩ = some (.slice (some ⟨I.g3, 0, none⟩) rw.length I.c3) := blk_cell h.head rfl
theorem HM.score (h : HM w I sc pl rw) (a : Nat) (ha : a < sc.length) : w.cell? ⟨I.g1, a, none⟩ = some (.int .u64 (sc.getD a 0 : Nat)) := by
  refine blk_cell h.scs ?_
  simp [u64s, ha]
theorem HM.place (h : HM w I sc pl rw) (a : Nat) (ha : a < pl.length) : w.cell? ⟨I.g2, a, none⟩ = some (.int .i64 (pl.getD a (-1))) := by
  refine blk_cell h.pls ?_
  simp [ints, ha]
theorem HM.row (h : HM w I sc pl rw) (i : Nat) (hi : i < rw.length) : w.cell? ⟨I.g3, i, none⟩ = some (.int .i64 (rw.getD i 0 : Nat)) := by
  obtain ⟨j, hj, _⟩ := h.rws
  refine blk_cell hj ?_
  simp [nats, hi, List.getElem?_append]
theorem HM.f0 (h : HM w I sc pl rw) (j : Nat) : w.frozen? ⟨I.hb, j, none⟩ = false := blk_free j h.head
theorem HM.f1 (h : HM w I sc pl rw) (j : Nat) : w.frozen? ⟨I.g1, j, none⟩ = false := blk_free j h.scs
theorem HM.f2 (h : HM w I sc pl rw) (j : Nat) : w.frozen? ⟨I.g2, j, none⟩ = false := blk_free j h.pls
theorem HM.f3 (h : HM w I sc pl rw) (j : Nat) : w.frozen? ⟨I.g3, j, none⟩ = false := by obtain ⟨x, hx, _⟩ := h.rws; exact blk_free j hx

theorem set_other (w : World) (b j k : Nat) (v : Value) (h : k ≠ b) : (w.setCell ⟨b, j, none⟩ v).heap[k]? = w.heap[k]? := Below.heap_setCell _ _ _ _ h

theorem HM.setRow (h : HM w I sc pl rw) (i x : Nat) (hi : i < rw.length) : HM (w.setCell ⟨I.g3, i, none⟩ (.int .i64 x)) I sc pl (rw.set i x) := by
  obtain ⟨a1, a2, a3, a4, a5, a6⟩ := h.apart
  refine ⟨?_, ?_, ?_, ?_, h.apart, h.len, h.small, by simpa using h.room, h.cap⟩
  · rw [set_other _ _ _ _ _ a3]; simpa using h.head
  · rw [set_other _ _ _ _ _ a5]; exact h.scs
  · rw [set_other _ _ _ _ _ a6]; exact h.pls
  · obtain ⟨j, hj, hl⟩ := h.rws
    refine ⟨j, ?_, by simpa using hl⟩
    rw [blk_set _ _ hj]
    simp [nats, hi, List.map_set]
theorem HM.setPlace (h : HM w I sc pl rw) (a : Nat) (x : Int) (ha : a < pl.length) : HM (w.setCell ⟨I.g2, a, none⟩ (.int .i64 x)) I sc (pl.set a x) rw := by
  obtain ⟨a1, a2, a3, a4, a5, a6⟩ := h.apart
  refine ⟨?_, ?_, ?_, ?_, h.apart, by simpa using h.len, h.small, h.room, h.cap⟩
  · rw [set_other _ _ _ _ _ a2]; simpa using h.head
  · rw [set_other _ _ _ _ _ a4]; exact h.scs
  · rw [blk_set _ _ h.pls]
    simp [ints, List.map_set]
  · rw [set_other _ _ _ _ _ (fun e => a6 e.symm)]; exact h.rws
theorem HM.setScore (h : HM w I sc pl rw) (a : Nat) (x : Nat) : HM (w.setCell ⟨I.g1, a, none⟩ (.int .u64 x)) I (sc.set a x) pl rw := by
  obtain ⟨a1, a2, a3, a4, a5, a6⟩ := h.apart
  refine ⟨?_, ?_, ?_, ?_, h.apart, by simpa using h.len, by simpa using h.small, by simpa using h.room, by simpa using h.cap⟩
  · rw [set_other _ _ _ _ _ a1]; simpa using h.head
  · rw [blk_set _ _ h.scs]
    simp [u64s, List.map_set]
  · rw [set_other _ _ _ _ _ (fun e => a4 e.symm)]; exact h.pls
  · rw [set_other _ _ _ _ _ (fun e => a5 e.symm)]; exact h.rws

set_option maxHeartbeats 1000000 in
theorem put_any (h : HM w I sc pl rw) (i a : Nat) (hi : i < rw.length) (ha : a < pl.length) :
    Calls Try.prog 63 #[.pointer (some ⟨I.hb, 0, none⟩), .int .i64 i, .int .i64 a] w fun e w' =>
      e = .returned (.tuple #[]) ∧ HM w' I sc (pl.set a i) (rw.set i a) ∧ Sm I.has w w' := by
  have c1 := h.c1
  have c2 := h.c2
  have r := h.row i hi
  have p := h.place a ha
  have f3 := h.f3 i
  have f2 := h.f2 a
  have hs := h.small
  have hr := h.room
  have hl := h.len
  obtain ⟨a1, a2, a3, a4, a5, a6⟩ := h.apart
  have n2 : ¬ I.g2 = I.g3 := a6
  have n3 : ¬ I.hb = I.g3 := a3
  have HH := Lib.hid h; clear h
  go_enter Try.func63, Try.ntmps63
  go_wp2_with fail
  go_end0
  exact ⟨rfl, (HH.out.setRow i a hi).setPlace a i ha, ((Sm.refl _ _).set _ _ (.inr (.inr (.inr rfl)))).set _ _ (.inr (.inr (.inl rfl)))⟩

set_option maxHeartbeats 2000000 in
set_option maxRecDepth 100000 in
theorem swap_any (h : HM w I sc pl rw) (i k : Nat) (hi : i < rw.length) (hk : k < rw.length) (ha : rw.getD i 0 < pl.length) (hb : rw.getD k 0 < pl.length) :
    Calls Try.prog 78 #[.pointer (some ⟨I.hb, 0, none⟩), .int .i64 i, .int .i64 k] w fun e w' =>
      e = .returned (.tuple #[]) ∧ HM w' I sc (swapPl pl rw i k) (swap rw i k) ∧ Sm I.has w w' := by
  have c2 := h.c2
  have r1 := h.row i hi
  have r2 := h.row k hk
  have hs := h.small
  have hr := h.room
  have hl := h.len
  obtain ⟨a, ea⟩ : ∃ a, a = rw.getD i 0 := ⟨_, rfl⟩
  obtain ⟨b, eb⟩ : ∃ b, b = rw.getD k 0 := ⟨_, rfl⟩
  rw [← ea] at r1 ha
  rw [← eb] at r2 hb
  have EA := Lib.hid ea; clear ea
  have EB := Lib.hid eb; clear eb
  have HH := Lib.hid h; clear h
  go_enter Try.func78, Try.ntmps78
  go_wp2_with fail
  go_quiet (fail)
  go_wp2_with fail
  refine (put_any (HH.out.drewN _) i b hi hb).mono ?_
  rintro e w1 ⟨rfl, h1, s1⟩
  have H1 := Lib.hid h1; clear h1
  go_wp2_with fail
  refine (put_any H1.out k a (by simpa using hk) (by simpa using ha)).mono ?_
  rintro e w2 ⟨rfl, h2, s2⟩
  have H2 := Lib.hid h2; clear h2
  go_wp2_with fail
  go_end0
  refine ⟨rfl, ?_, (((Sm.refl _ _).drewN _).trans s1).trans s2⟩
  have := H2.out
  rw [EA.out, EB.out] at this
  exact this

theorem bt_ne {sc : List Nat} {a b : Nat} (h : sc.getD a 0 ≠ sc.getD b 0) : decide (bt sc a b) = decide (sc.getD b 0 < sc.getD a 0) := by
  rw [decide_eq_decide]
  unfold bt
  omega
theorem bt_eq {sc : List Nat} {a b : Nat} (h : sc.getD a 0 = sc.getD b 0) : decide (bt sc a b) = decide (a < b) := by
  rw [decide_eq_decide]
  unfold bt
  omega

set_option maxHeartbeats 2000000 in
set_option maxRecDepth 100000 in
theorem ahead_any (h : HM w I sc pl rw) (i k : Nat) (hi : i < rw.length) (hk : k < rw.length) (ha : rw.getD i 0 < sc.length) (hb : rw.getD k 0 < sc.length) :
    Calls Try.prog 77 #[.pointer (some ⟨I.hb, 0, none⟩), .int .i64 i, .int .i64 k] w fun e w' =>
      e = .returned (.bool (decide (bt sc (rw.getD i 0) (rw.getD k 0)))) ∧ HM w' I sc pl rw ∧ Sm I.has w w' := by
  have c0 := h.c0
  have c2 := h.c2
  have r1 := h.row i hi
  have r2 := h.row k hk
  have hs := h.small
  have hr := h.room
  have s1 := h.score _ ha
  have s2 := h.score _ hb
  have HH := Lib.hid h; clear h
  obtain ⟨a, ea⟩ : ∃ a, a = rw.getD i 0 := ⟨_, rfl⟩
  obtain ⟨b, eb⟩ : ∃ b, b = rw.getD k 0 := ⟨_, rfl⟩
  rw [← ea] at r1 ha s1 ⊢
  rw [← eb] at r2 hb s2 ⊢
  clear ea eb
  by_cases hne : sc.getD a 0 = sc.getD b 0
  · rw [bt_eq hne]
    rw [hne] at s1
    clear hne
    generalize sc.getD b 0 = y at s1 s2
    go_enter Try.func77, Try.ntmps77
    go_wp2_with fail
    go_quiet (fail)
    go_wp2_with fail
    go_quiet (fail)
    go_wp2_with fail
    go_ret
    exact ⟨rfl, by repeat (first | exact HH.out | apply HM.drewN), by repeat (first | exact Sm.refl _ _ | apply Sm.drewN)⟩
  · rw [bt_ne hne]
    have hb2 : (((sc.getD a 0 : Nat) : Int) != ((sc.getD b 0 : Nat) : Int)) = true := by rw [bne_iff_ne]; omega
    clear hne
    generalize sc.getD b 0 = y at s1 s2 hb2 ⊢
    generalize sc.getD a 0 = x at s1 s2 hb2 ⊢
    go_enter Try.func77, Try.ntmps77
    go_wp2_with fail
    go_quiet (fail)
    go_wp2_with fail
    go_quiet (fail)
    go_wp2_with fail
    go_quiet (fail)
    go_wp2_with fail
    go_ret
    exact ⟨rfl, by repeat (first | exact HH.out | apply HM.drewN), by repeat (first | exact Sm.refl _ _ | apply Sm.drewN)⟩

end Go.Proofs.Ytapconhgcoefeaa.Heap
