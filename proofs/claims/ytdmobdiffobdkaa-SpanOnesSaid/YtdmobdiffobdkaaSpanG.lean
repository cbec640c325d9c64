/- Spans: what two have in common, and the least that has both. -/
import Derived.Test.YtdmobdiffobdkaaSpanF
namespace Go.Proofs.Ytdmobdiffobdkaa.Ver
set_option linter.unusedVariables false
set_option linter.unusedSimpArgs false
open Go.RowKit Go.Shelf

def upLoA (a b : ByteArray) : ByteArray := if lowerB a.data.toList b.data.toList then b else a
def downHiA (a b : ByteArray) : ByteArray := if higherB a.data.toList b.data.toList then b else a
def downLoA (a b : ByteArray) : ByteArray := if lowerB b.data.toList a.data.toList then b else a
def upHiA (a b : ByteArray) : ByteArray := if higherB b.data.toList a.data.toList then b else a
def meetC (a a' b b' : ByteArray) : Bool := spanB a.data.toList a'.data.toList && spanB b.data.toList b'.data.toList && spanB (upLoA a b).data.toList (downHiA a' b').data.toList
def meetA (a a' b b' : ByteArray) : Value := if meetC a a' b b' then rd (upLoA a b) (downHiA a' b') true else rd ⟨#[]⟩ ⟨#[]⟩ false
def joinA (a a' b b' : ByteArray) : Value := if spanB a.data.toList a'.data.toList && spanB b.data.toList b'.data.toList then spv (downLoA a b) (upHiA a' b') else spv ⟨#[]⟩ ⟨#[]⟩

/-- block k holds a span. -/
def Bx (W : World) (k : Nat) (lo hi : ByteArray) : Prop := W.heap[k]? = some (.cells #[.string lo, .string hi] 37 (0, 0))
theorem Bx.step {W W' : World} {k : Nat} {lo hi : ByteArray} (h : Bx W k lo hi) (hb : Below W.heap.size W W') : Bx W' k lo hi := (hb.block _ (lt_of_block h)).trans h
theorem Bx.cells {W : World} {k : Nat} {lo hi : ByteArray} (h : Bx W k lo hi) : W.cell? ⟨k, 0, none⟩ = some (.string lo) ∧ W.cell? ⟨k, 1, none⟩ = some (.string hi) := ⟨blk_cell (j := 0) h rfl, blk_cell (j := 1) h rfl⟩
theorem Bx.free {W : World} {k : Nat} {lo hi : ByteArray} (h : Bx W k lo hi) : W.frozen? ⟨k, 0, none⟩ = false ∧ W.frozen? ⟨k, 1, none⟩ = false := ⟨blk_free 0 h, blk_free 1 h⟩
theorem Bx.lt {W : World} {k : Nat} {lo hi : ByteArray} (h : Bx W k lo hi) : k < W.heap.size := lt_of_block h
theorem Bx.alloc {W : World} {k : Nat} {lo hi : ByteArray} (h : Bx W k lo hi) (o : Obj) : Bx (W.alloc o) k lo hi := (Below.heap_alloc _ _ _ h.lt).trans h
theorem Bx.new (W : World) (lo hi : ByteArray) : Bx (W.alloc (.cells #[.string lo, .string hi] 37)) W.heap.size lo hi := heap_alloc_new W _
theorem Bx.far {W : World} {k : Nat} {lo hi : ByteArray} (h : Bx W k lo hi) {m : Nat} (hm : k ≠ m) (j : Nat) (v : Value) : Bx (W.setCell ⟨m, j, none⟩ v) k lo hi := (Below.heap_setCell _ _ _ _ hm).trans h
theorem Bx.set0 {W : World} {k : Nat} {lo hi : ByteArray} (h : Bx W k lo hi) (x : ByteArray) : Bx (W.setCell ⟨k, 0, none⟩ (.string x)) k x hi := blk_set 0 _ h
theorem Bx.set1 {W : World} {k : Nat} {lo hi : ByteArray} (h : Bx W k lo hi) (x : ByteArray) : Bx (W.setCell ⟨k, 1, none⟩ (.string x)) k lo x := blk_set 1 _ h

/-- two spans boxed, and the result's cell. -/
structure MJ (w : World) (a a' b b' : ByteArray) (W : World) : Prop where
  a : Bx W w.heap.size a a'
  b : Bx W (w.heap.size + 1) b b'
  r : Bx W (w.heap.size + 1 + 1) ⟨#[]⟩ ⟨#[]⟩
  below : Below w.heap.size w W
theorem MJ.step {w W W' : World} {a a' b b' : ByteArray} (h : MJ w a a' b b' W) (hb : Below W.heap.size W W') : MJ w a a' b b' W' := ⟨h.a.step hb, h.b.step hb, h.r.step hb, bstep h.below hb⟩
abbrev mjW (w : World) (a a' b b' : ByteArray) : World := ((w.alloc (.cells #[.string a, .string a'] 37)).alloc (.cells #[.string b, .string b'] 37)).alloc (.cells #[.string ⟨#[]⟩, .string ⟨#[]⟩] 37)
theorem MJ.start (w : World) (a a' b b' : ByteArray) : MJ w a a' b b' (mjW w a a' b b') := by
  refine ⟨((Bx.new w a a').alloc _).alloc _, ?_, ?_, ?_⟩
  · have h := Bx.new (w.alloc (.cells #[.string a, .string a'] 37)) b b'
    rw [World.size_alloc] at h
    exact h.alloc _
  · have h := Bx.new ((w.alloc (.cells #[.string a, .string a'] 37)).alloc (.cells #[.string b, .string b'] 37)) ⟨#[]⟩ ⟨#[]⟩
    rw [World.size_alloc, World.size_alloc] at h
    exact h
  · exact (((Below.refl _ w).alloc (Nat.le_refl _) _).alloc (by simp) _).alloc (by simp; omega) _
theorem MJ.cells {w W : World} {a a' b b' : ByteArray} (h : MJ w a a' b b' W) : W.cell? ⟨w.heap.size, 0, none⟩ = some (.string a) ∧ W.cell? ⟨w.heap.size, 1, none⟩ = some (.string a') ∧ W.cell? ⟨w.heap.size + 1, 0, none⟩ = some (.string b) ∧ W.cell? ⟨w.heap.size + 1, 1, none⟩ = some (.string b') ∧
    W.cell? ⟨w.heap.size + 1 + 1, 0, none⟩ = some (.string ⟨#[]⟩) ∧ W.cell? ⟨w.heap.size + 1 + 1, 1, none⟩ = some (.string ⟨#[]⟩) ∧ W.frozen? ⟨w.heap.size + 1 + 1, 0, none⟩ = false ∧ W.frozen? ⟨w.heap.size + 1 + 1, 1, none⟩ = false :=
  ⟨h.a.cells.1, h.a.cells.2, h.b.cells.1, h.b.cells.2, h.r.cells.1, h.r.cells.2, h.r.free.1, h.r.free.2⟩
/-- .. and a third span. -/
structure MK (w : World) (a a' b b' : ByteArray) (k : Nat) (x y : ByteArray) (W : World) : Prop where
  j : MJ w a a' b b' W
  s : Bx W k x y
  lt : w.heap.size + 1 + 1 < k
theorem MK.step {w W W' : World} {a a' b b' x y : ByteArray} {k : Nat} (h : MK w a a' b b' k x y W) (hb : Below W.heap.size W W') : MK w a a' b b' k x y W' := ⟨h.j.step hb, h.s.step hb, h.lt⟩
theorem MK.start {w W : World} {a a' b b' : ByteArray} (h : MJ w a a' b b' W) (x y : ByteArray) : MK w a a' b b' W.heap.size x y (W.alloc (.cells #[.string x, .string y] 37)) :=
  ⟨⟨h.a.alloc _, h.b.alloc _, h.r.alloc _, h.below.alloc h.below.size _⟩, Bx.new W x y, h.r.lt⟩
theorem MK.set0 {w W : World} {a a' b b' x y : ByteArray} {k : Nat} (h : MK w a a' b b' k x y W) (z : ByteArray) : MK w a a' b b' k z y (W.setCell ⟨k, 0, none⟩ (.string z)) :=
  have l := h.lt
  ⟨⟨h.j.a.far (by omega) 0 _, h.j.b.far (by omega) 0 _, h.j.r.far (by omega) 0 _, h.j.below.setCell (p := ⟨k, 0, none⟩) (by show w.heap.size ≤ k; omega) _⟩, h.s.set0 z, l⟩
theorem MK.set1 {w W : World} {a a' b b' x y : ByteArray} {k : Nat} (h : MK w a a' b b' k x y W) (z : ByteArray) : MK w a a' b b' k x z (W.setCell ⟨k, 1, none⟩ (.string z)) :=
  have l := h.lt
  ⟨⟨h.j.a.far (by omega) 1 _, h.j.b.far (by omega) 1 _, h.j.r.far (by omega) 1 _, h.j.below.setCell (p := ⟨k, 1, none⟩) (by show w.heap.size ≤ k; omega) _⟩, h.s.set1 z, l⟩
theorem MK.cells {w W : World} {a a' b b' x y : ByteArray} {k : Nat} (h : MK w a a' b b' k x y W) : W.cell? ⟨k, 0, none⟩ = some (.string x) ∧ W.cell? ⟨k, 1, none⟩ = some (.string y) ∧ W.frozen? ⟨k, 0, none⟩ = false ∧ W.frozen? ⟨k, 1, none⟩ = false := ⟨h.s.cells.1, h.s.cells.2, h.s.free.1, h.s.free.2⟩
/-- the result laid into its cell. -/
theorem MJ.out {w W : World} {a a' b b' : ByteArray} (h : MJ w a a' b b' W) (x y : Value) : Below w.heap.size w ((W.setCell ⟨w.heap.size + 1 + 1, 0, none⟩ x).setCell ⟨w.heap.size + 1 + 1, 1, none⟩ y) :=
  (h.below.setCell (p := ⟨w.heap.size + 1 + 1, 0, none⟩) (by show w.heap.size ≤ w.heap.size + 1 + 1; omega) _).setCell (p := ⟨w.heap.size + 1 + 1, 1, none⟩) (by show w.heap.size ≤ w.heap.size + 1 + 1; omega) _

set_option maxHeartbeats 2000000 in
theorem meet_no (a a' b b' : ByteArray) (w : World) (za : a.size ≤ maxLen) (za' : a'.size ≤ maxLen) (zb : b.size ≤ maxLen) (zb' : b'.size ≤ maxLen) (h : (spanB a.data.toList a'.data.toList && spanB b.data.toList b'.data.toList) = false) :
    Calls Try.prog 37 #[spv a a', spv b b'] w fun e w' => e = .returned (rd ⟨#[]⟩ ⟨#[]⟩ false) ∧ Below w.heap.size w w' := by
  have SA := Lib.hid (spanMay_any a a' za za')
  have SB := Lib.hid (spanMay_any b b' zb zb')
  have J := Lib.hid (MJ.start w a a' b b')
  clear za za' zb zb'
  cases sa : spanB a.data.toList a'.data.toList with
  | false =>
    rw [sa] at SA
    clear h sa
    go_enter Try.func37, Try.ntmps37
    go_wp2_with fail
    go_at_call 29; refine (SA.out _).mono ?_; rintro e w1 ⟨rfl, hb⟩; have J := Lib.hid (J.out.step hb); clear hb; obtain ⟨a0, a1, b0, b1, r0, r1, f0, f1⟩ := J.out.cells
    go_wp2_with fail
    exact bodyPost_ret (v := rd ⟨#[]⟩ ⟨#[]⟩ false) (by simp [results, Try.results37, go_sem, r0, r1, f0, f1]) rfl ⟨rfl, J.out.out _ _⟩
  | true =>
    have sb : spanB b.data.toList b'.data.toList = false := by rw [sa] at h; simpa using h
    rw [sa] at SA
    rw [sb] at SB
    clear h sa sb
    go_enter Try.func37, Try.ntmps37
    go_wp2_with fail
    go_at_call 29; refine (SA.out _).mono ?_; rintro e w1 ⟨rfl, hb⟩; have J := Lib.hid (J.out.step hb); clear hb; obtain ⟨a0, a1, b0, b1, r0, r1, f0, f1⟩ := J.out.cells
    go_wp2_with fail
    go_at_call 29; refine (SB.out _).mono ?_; rintro e w1 ⟨rfl, hb⟩; clear a0 a1 b0 b1 r0 r1 f0 f1; have J := Lib.hid (J.out.step hb); clear hb; obtain ⟨a0, a1, b0, b1, r0, r1, f0, f1⟩ := J.out.cells
    go_wp2_with fail
    exact bodyPost_ret (v := rd ⟨#[]⟩ ⟨#[]⟩ false) (by simp [results, Try.results37, go_sem, r0, r1, f0, f1]) rfl ⟨rfl, J.out.out _ _⟩

set_option maxHeartbeats 2000000 in
theorem meet_fft (a a' b b' : ByteArray) (w : World) (za : a.size ≤ maxLen) (za' : a'.size ≤ maxLen) (zb : b.size ≤ maxLen) (zb' : b'.size ≤ maxLen) (sa : spanB a.data.toList a'.data.toList = true) (sb : spanB b.data.toList b'.data.toList = true) (hl : lowerB a.data.toList b.data.toList = false) (hh : higherB a'.data.toList b'.data.toList = false) (hs : spanB a.data.toList a'.data.toList = true) :
    Calls Try.prog 37 #[spv a a', spv b b'] w fun e w' => e = .returned (rd a a' true) ∧ Below w.heap.size w w' := by
  have SA : Hid (Says 29 #[spv a a'] (.bool true)) := Lib.hid (by have h := spanMay_any a a' za za'; rwa [sa] at h)
  have SB : Hid (Says 29 #[spv b b'] (.bool true)) := Lib.hid (by have h := spanMay_any b b' zb zb'; rwa [sb] at h)
  have LO : Hid (Says 55 #[.string a, .string b] (.bool false)) := Lib.hid (by have h := lower_any a b za zb; rwa [hl] at h)
  have HI : Hid (Says 56 #[.string a', .string b'] (.bool false)) := Lib.hid (by have h := higher_any a' b' za' zb'; rwa [hh] at h)
  have SX : Hid (Says 29 #[spv a a'] (.bool true)) := Lib.hid (by have h := spanMay_any a a' za za'; rwa [hs] at h)
  have J := Lib.hid (MJ.start w a a' b b')
  clear sa sb hl hh hs za za' zb zb'
  go_enter Try.func37, Try.ntmps37
  go_wp2_with fail
  go_at_call 29; refine (SA.out _).mono ?_; rintro e w1 ⟨rfl, hb⟩; have J := Lib.hid (J.out.step hb); clear hb; obtain ⟨a0, a1, b0, b1, r0, r1, f0, f1⟩ := J.out.cells
  go_wp2_with fail
  go_at_call 29; refine (SB.out _).mono ?_; rintro e w2 ⟨rfl, hb⟩; clear a0 a1 b0 b1 r0 r1 f0 f1; have J := Lib.hid (J.out.step hb); clear hb; obtain ⟨a0, a1, b0, b1, r0, r1, f0, f1⟩ := J.out.cells
  have K := Lib.hid (MK.start J.out a a')
  obtain ⟨p0, p1, p2, p3, p4, p5, p6, p7⟩ := K.out.j.cells
  have lt0 := J.out.a.lt
  have lt1 := J.out.b.lt
  go_wp2_with fail
  go_at_call 55; refine (LO.out _).mono ?_; rintro e w3 ⟨rfl, hb⟩; clear a0 a1 b0 b1 r0 r1 f0 f1 p0 p1 p2 p3 p4 p5 p6 p7 lt0 lt1; have K := Lib.hid (K.out.step hb); clear hb; obtain ⟨a0, a1, b0, b1, r0, r1, f0, f1⟩ := K.out.j.cells; obtain ⟨k0, k1, g0, g1⟩ := K.out.cells
  go_wp2_with fail
  go_at_call 56; refine (HI.out _).mono ?_; rintro e w4 ⟨rfl, hb⟩; have K := Lib.hid (K.out.step hb); clear a0 a1 b0 b1 r0 r1 f0 f1 k0 k1 g0 g1 hb; obtain ⟨a0, a1, b0, b1, r0, r1, f0, f1⟩ := K.out.j.cells; obtain ⟨k0, k1, g0, g1⟩ := K.out.cells
  go_wp2_with fail
  go_at_call 29; refine (SX.out _).mono ?_; rintro e w5 ⟨rfl, hb⟩; have K := Lib.hid (K.out.step hb); clear a0 a1 b0 b1 r0 r1 f0 f1 k0 k1 g0 g1 hb; obtain ⟨a0, a1, b0, b1, r0, r1, f0, f1⟩ := K.out.j.cells; obtain ⟨k0, k1, g0, g1⟩ := K.out.cells
  go_wp2_with fail
  exact bodyPost_ret (v := rd a a' true) (by simp [results, Try.results37, go_sem, r0, r1, f0, f1]) rfl ⟨rfl, K.out.j.out _ _⟩

set_option maxHeartbeats 2000000 in
theorem meet_fff (a a' b b' : ByteArray) (w : World) (za : a.size ≤ maxLen) (za' : a'.size ≤ maxLen) (zb : b.size ≤ maxLen) (zb' : b'.size ≤ maxLen) (sa : spanB a.data.toList a'.data.toList = true) (sb : spanB b.data.toList b'.data.toList = true) (hl : lowerB a.data.toList b.data.toList = false) (hh : higherB a'.data.toList b'.data.toList = false) (hs : spanB a.data.toList a'.data.toList = false) :
    Calls Try.prog 37 #[spv a a', spv b b'] w fun e w' => e = .returned (rd ⟨#[]⟩ ⟨#[]⟩ false) ∧ Below w.heap.size w w' := by
  have SA : Hid (Says 29 #[spv a a'] (.bool true)) := Lib.hid (by have h := spanMay_any a a' za za'; rwa [sa] at h)
  have SB : Hid (Says 29 #[spv b b'] (.bool true)) := Lib.hid (by have h := spanMay_any b b' zb zb'; rwa [sb] at h)
  have LO : Hid (Says 55 #[.string a, .string b] (.bool false)) := Lib.hid (by have h := lower_any a b za zb; rwa [hl] at h)
  have HI : Hid (Says 56 #[.string a', .string b'] (.bool false)) := Lib.hid (by have h := higher_any a' b' za' zb'; rwa [hh] at h)
  have SX : Hid (Says 29 #[spv a a'] (.bool false)) := Lib.hid (by have h := spanMay_any a a' za za'; rwa [hs] at h)
  have J := Lib.hid (MJ.start w a a' b b')
  clear sa sb hl hh hs za za' zb zb'
  go_enter Try.func37, Try.ntmps37
  go_wp2_with fail
  go_at_call 29; refine (SA.out _).mono ?_; rintro e w1 ⟨rfl, hb⟩; have J := Lib.hid (J.out.step hb); clear hb; obtain ⟨a0, a1, b0, b1, r0, r1, f0, f1⟩ := J.out.cells
  go_wp2_with fail
  go_at_call 29; refine (SB.out _).mono ?_; rintro e w2 ⟨rfl, hb⟩; clear a0 a1 b0 b1 r0 r1 f0 f1; have J := Lib.hid (J.out.step hb); clear hb; obtain ⟨a0, a1, b0, b1, r0, r1, f0, f1⟩ := J.out.cells
  have K := Lib.hid (MK.start J.out a a')
  obtain ⟨p0, p1, p2, p3, p4, p5, p6, p7⟩ := K.out.j.cells
  have lt0 := J.out.a.lt
  have lt1 := J.out.b.lt
  go_wp2_with fail
  go_at_call 55; refine (LO.out _).mono ?_; rintro e w3 ⟨rfl, hb⟩; clear a0 a1 b0 b1 r0 r1 f0 f1 p0 p1 p2 p3 p4 p5 p6 p7 lt0 lt1; have K := Lib.hid (K.out.step hb); clear hb; obtain ⟨a0, a1, b0, b1, r0, r1, f0, f1⟩ := K.out.j.cells; obtain ⟨k0, k1, g0, g1⟩ := K.out.cells
  go_wp2_with fail
  go_at_call 56; refine (HI.out _).mono ?_; rintro e w4 ⟨rfl, hb⟩; have K := Lib.hid (K.out.step hb); clear a0 a1 b0 b1 r0 r1 f0 f1 k0 k1 g0 g1 hb; obtain ⟨a0, a1, b0, b1, r0, r1, f0, f1⟩ := K.out.j.cells; obtain ⟨k0, k1, g0, g1⟩ := K.out.cells
  go_wp2_with fail
  go_at_call 29; refine (SX.out _).mono ?_; rintro e w5 ⟨rfl, hb⟩; have K := Lib.hid (K.out.step hb); clear a0 a1 b0 b1 r0 r1 f0 f1 k0 k1 g0 g1 hb; obtain ⟨a0, a1, b0, b1, r0, r1, f0, f1⟩ := K.out.j.cells; obtain ⟨k0, k1, g0, g1⟩ := K.out.cells
  go_wp2_with fail
  exact bodyPost_ret (v := rd ⟨#[]⟩ ⟨#[]⟩ false) (by simp [results, Try.results37, go_sem, r0, r1, f0, f1]) rfl ⟨rfl, K.out.j.out _ _⟩

set_option maxHeartbeats 2000000 in
theorem meet_ftt (a a' b b' : ByteArray) (w : World) (za : a.size ≤ maxLen) (za' : a'.size ≤ maxLen) (zb : b.size ≤ maxLen) (zb' : b'.size ≤ maxLen) (sa : spanB a.data.toList a'.data.toList = true) (sb : spanB b.data.toList b'.data.toList = true) (hl : lowerB a.data.toList b.data.toList = false) (hh : higherB a'.data.toList b'.data.toList = true) (hs : spanB a.data.toList b'.data.toList = true) :
    Calls Try.prog 37 #[spv a a', spv b b'] w fun e w' => e = .returned (rd a b' true) ∧ Below w.heap.size w w' := by
  have SA : Hid (Says 29 #[spv a a'] (.bool true)) := Lib.hid (by have h := spanMay_any a a' za za'; rwa [sa] at h)
  have SB : Hid (Says 29 #[spv b b'] (.bool true)) := Lib.hid (by have h := spanMay_any b b' zb zb'; rwa [sb] at h)
  have LO : Hid (Says 55 #[.string a, .string b] (.bool false)) := Lib.hid (by have h := lower_any a b za zb; rwa [hl] at h)
  have HI : Hid (Says 56 #[.string a', .string b'] (.bool true)) := Lib.hid (by have h := higher_any a' b' za' zb'; rwa [hh] at h)
  have SX : Hid (Says 29 #[spv a b'] (.bool true)) := Lib.hid (by have h := spanMay_any a b' za zb'; rwa [hs] at h)
  have J := Lib.hid (MJ.start w a a' b b')
  clear sa sb hl hh hs za za' zb zb'
  go_enter Try.func37, Try.ntmps37
  go_wp2_with fail
  go_at_call 29; refine (SA.out _).mono ?_; rintro e w1 ⟨rfl, hb⟩; have J := Lib.hid (J.out.step hb); clear hb; obtain ⟨a0, a1, b0, b1, r0, r1, f0, f1⟩ := J.out.cells
  go_wp2_with fail
  go_at_call 29; refine (SB.out _).mono ?_; rintro e w2 ⟨rfl, hb⟩; clear a0 a1 b0 b1 r0 r1 f0 f1; have J := Lib.hid (J.out.step hb); clear hb; obtain ⟨a0, a1, b0, b1, r0, r1, f0, f1⟩ := J.out.cells
  have K := Lib.hid (MK.start J.out a a')
  obtain ⟨p0, p1, p2, p3, p4, p5, p6, p7⟩ := K.out.j.cells
  have lt0 := J.out.a.lt
  have lt1 := J.out.b.lt
  go_wp2_with fail
  go_at_call 55; refine (LO.out _).mono ?_; rintro e w3 ⟨rfl, hb⟩; clear a0 a1 b0 b1 r0 r1 f0 f1 p0 p1 p2 p3 p4 p5 p6 p7 lt0 lt1; have K := Lib.hid (K.out.step hb); clear hb; obtain ⟨a0, a1, b0, b1, r0, r1, f0, f1⟩ := K.out.j.cells; obtain ⟨k0, k1, g0, g1⟩ := K.out.cells
  go_wp2_with fail
  go_at_call 56; refine (HI.out _).mono ?_; rintro e w4 ⟨rfl, hb⟩; have K := Lib.hid (K.out.step hb); clear a0 a1 b0 b1 r0 r1 f0 f1 k0 k1 g0 g1 hb; obtain ⟨a0, a1, b0, b1, r0, r1, f0, f1⟩ := K.out.j.cells; obtain ⟨k0, k1, g0, g1⟩ := K.out.cells
  go_wp2_with fail
  have K := Lib.hid (K.out.set1 b')
  go_at_call 29; refine (SX.out _).mono ?_; rintro e w5 ⟨rfl, hb⟩; have K := Lib.hid (K.out.step hb); clear a0 a1 b0 b1 r0 r1 f0 f1 k0 k1 g0 g1 hb; obtain ⟨a0, a1, b0, b1, r0, r1, f0, f1⟩ := K.out.j.cells; obtain ⟨k0, k1, g0, g1⟩ := K.out.cells
  go_wp2_with fail
  exact bodyPost_ret (v := rd a b' true) (by simp [results, Try.results37, go_sem, r0, r1, f0, f1]) rfl ⟨rfl, K.out.j.out _ _⟩

set_option maxHeartbeats 2000000 in
theorem meet_ftf (a a' b b' : ByteArray) (w : World) (za : a.size ≤ maxLen) (za' : a'.size ≤ maxLen) (zb : b.size ≤ maxLen) (zb' : b'.size ≤ maxLen) (sa : spanB a.data.toList a'.data.toList = true) (sb : spanB b.data.toList b'.data.toList = true) (hl : lowerB a.data.toList b.data.toList = false) (hh : higherB a'.data.toList b'.data.toList = true) (hs : spanB a.data.toList b'.data.toList = false) :
    Calls Try.prog 37 #[spv a a', spv b b'] w fun e w' => e = .returned (rd ⟨#[]⟩ ⟨#[]⟩ false) ∧ Below w.heap.size w w' := by
  have SA : Hid (Says 29 #[spv a a'] (.bool true)) := Lib.hid (by have h := spanMay_any a a' za za'; rwa [sa] at h)
  have SB : Hid (Says 29 #[spv b b'] (.bool true)) := Lib.hid (by have h := spanMay_any b b' zb zb'; rwa [sb] at h)
  have LO : Hid (Says 55 #[.string a, .string b] (.bool false)) := Lib.hid (by have h := lower_any a b za zb; rwa [hl] at h)
  have HI : Hid (Says 56 #[.string a', .string b'] (.bool true)) := Lib.hid (by have h := higher_any a' b' za' zb'; rwa [hh] at h)
  have SX : Hid (Says 29 #[spv a b'] (.bool false)) := Lib.hid (by have h := spanMay_any a b' za zb'; rwa [hs] at h)
  have J := Lib.hid (MJ.start w a a' b b')
  clear sa sb hl hh hs za za' zb zb'
  go_enter Try.func37, Try.ntmps37
  go_wp2_with fail
  go_at_call 29; refine (SA.out _).mono ?_; rintro e w1 ⟨rfl, hb⟩; have J := Lib.hid (J.out.step hb); clear hb; obtain ⟨a0, a1, b0, b1, r0, r1, f0, f1⟩ := J.out.cells
  go_wp2_with fail
  go_at_call 29; refine (SB.out _).mono ?_; rintro e w2 ⟨rfl, hb⟩; clear a0 a1 b0 b1 r0 r1 f0 f1; have J := Lib.hid (J.out.step hb); clear hb; obtain ⟨a0, a1, b0, b1, r0, r1, f0, f1⟩ := J.out.cells
  have K := Lib.hid (MK.start J.out a a')
  obtain ⟨p0, p1, p2, p3, p4, p5, p6, p7⟩ := K.out.j.cells
  have lt0 := J.out.a.lt
  have lt1 := J.out.b.lt
  go_wp2_with fail
  go_at_call 55; refine (LO.out _).mono ?_; rintro e w3 ⟨rfl, hb⟩; clear a0 a1 b0 b1 r0 r1 f0 f1 p0 p1 p2 p3 p4 p5 p6 p7 lt0 lt1; have K := Lib.hid (K.out.step hb); clear hb; obtain ⟨a0, a1, b0, b1, r0, r1, f0, f1⟩ := K.out.j.cells; obtain ⟨k0, k1, g0, g1⟩ := K.out.cells
  go_wp2_with fail
  go_at_call 56; refine (HI.out _).mono ?_; rintro e w4 ⟨rfl, hb⟩; have K := Lib.hid (K.out.step hb); clear a0 a1 b0 b1 r0 r1 f0 f1 k0 k1 g0 g1 hb; obtain ⟨a0, a1, b0, b1, r0, r1, f0, f1⟩ := K.out.j.cells; obtain ⟨k0, k1, g0, g1⟩ := K.out.cells
  go_wp2_with fail
  have K := Lib.hid (K.out.set1 b')
  go_at_call 29; refine (SX.out _).mono ?_; rintro e w5 ⟨rfl, hb⟩; have K := Lib.hid (K.out.step hb); clear a0 a1 b0 b1 r0 r1 f0 f1 k0 k1 g0 g1 hb; obtain ⟨a0, a1, b0, b1, r0, r1, f0, f1⟩ := K.out.j.cells; obtain ⟨k0, k1, g0, g1⟩ := K.out.cells
  go_wp2_with fail
  exact bodyPost_ret (v := rd ⟨#[]⟩ ⟨#[]⟩ false) (by simp [results, Try.results37, go_sem, r0, r1, f0, f1]) rfl ⟨rfl, K.out.j.out _ _⟩

set_option maxHeartbeats 2000000 in
theorem meet_tft (a a' b b' : ByteArray) (w : World) (za : a.size ≤ maxLen) (za' : a'.size ≤ maxLen) (zb : b.size ≤ maxLen) (zb' : b'.size ≤ maxLen) (sa : spanB a.data.toList a'.data.toList = true) (sb : spanB b.data.toList b'.data.toList = true) (hl : lowerB a.data.toList b.data.toList = true) (hh : higherB a'.data.toList b'.data.toList = false) (hs : spanB b.data.toList a'.data.toList = true) :
    Calls Try.prog 37 #[spv a a', spv b b'] w fun e w' => e = .returned (rd b a' true) ∧ Below w.heap.size w w' := by
  have SA : Hid (Says 29 #[spv a a'] (.bool true)) := Lib.hid (by have h := spanMay_any a a' za za'; rwa [sa] at h)
  have SB : Hid (Says 29 #[spv b b'] (.bool true)) := Lib.hid (by have h := spanMay_any b b' zb zb'; rwa [sb] at h)
  have LO : Hid (Says 55 #[.string a, .string b] (.bool true)) := Lib.hid (by have h := lower_any a b za zb; rwa [hl] at h)
  have HI : Hid (Says 56 #[.string a', .string b'] (.bool false)) := Lib.hid (by have h := higher_any a' b' za' zb'; rwa [hh] at h)
  have SX : Hid (Says 29 #[spv b a'] (.bool true)) := Lib.hid (by have h := spanMay_any b a' zb za'; rwa [hs] at h)
  have J := Lib.hid (MJ.start w a a' b b')
  clear sa sb hl hh hs za za' zb zb'
  go_enter Try.func37, Try.ntmps37
  go_wp2_with fail
  go_at_call 29; refine (SA.out _).mono ?_; rintro e w1 ⟨rfl, hb⟩; have J := Lib.hid (J.out.step hb); clear hb; obtain ⟨a0, a1, b0, b1, r0, r1, f0, f1⟩ := J.out.cells
  go_wp2_with fail
  go_at_call 29; refine (SB.out _).mono ?_; rintro e w2 ⟨rfl, hb⟩; clear a0 a1 b0 b1 r0 r1 f0 f1; have J := Lib.hid (J.out.step hb); clear hb; obtain ⟨a0, a1, b0, b1, r0, r1, f0, f1⟩ := J.out.cells
  have K := Lib.hid (MK.start J.out a a')
  obtain ⟨p0, p1, p2, p3, p4, p5, p6, p7⟩ := K.out.j.cells
  have lt0 := J.out.a.lt
  have lt1 := J.out.b.lt
  go_wp2_with fail
  go_at_call 55; refine (LO.out _).mono ?_; rintro e w3 ⟨rfl, hb⟩; clear a0 a1 b0 b1 r0 r1 f0 f1 p0 p1 p2 p3 p4 p5 p6 p7 lt0 lt1; have K := Lib.hid (K.out.step hb); clear hb; obtain ⟨a0, a1, b0, b1, r0, r1, f0, f1⟩ := K.out.j.cells; obtain ⟨k0, k1, g0, g1⟩ := K.out.cells
  go_wp2_with fail
  have K := Lib.hid (K.out.set0 b)
  go_at_call 56; refine (HI.out _).mono ?_; rintro e w4 ⟨rfl, hb⟩; have K := Lib.hid (K.out.step hb); clear a0 a1 b0 b1 r0 r1 f0 f1 k0 k1 g0 g1 hb; obtain ⟨a0, a1, b0, b1, r0, r1, f0, f1⟩ := K.out.j.cells; obtain ⟨k0, k1, g0, g1⟩ := K.out.cells
  go_wp2_with fail
  go_at_call 29; refine (SX.out _).mono ?_; rintro e w5 ⟨rfl, hb⟩; have K := Lib.hid (K.out.step hb); clear a0 a1 b0 b1 r0 r1 f0 f1 k0 k1 g0 g1 hb; obtain ⟨a0, a1, b0, b1, r0, r1, f0, f1⟩ := K.out.j.cells; obtain ⟨k0, k1, g0, g1⟩ := K.out.cells
  go_wp2_with fail
  exact bodyPost_ret (v := rd b a' true) (by simp [results, Try.results37, go_sem, r0, r1, f0, f1]) rfl ⟨rfl, K.out.j.out _ _⟩

set_option maxHeartbeats 2000000 in
theorem meet_tff (a a' b b' : ByteArray) (w : World) (za : a.size ≤ maxLen) (za' : a'.size ≤ maxLen) (zb : b.size ≤ maxLen) (zb' : b'.size ≤ maxLen) (sa : spanB a.data.toList a'.data.toList = true) (sb : spanB b.data.toList b'.data.toList = true) (hl : lowerB a.data.toList b.data.toList = true) (hh : higherB a'.data.toList b'.data.toList = false) (hs : spanB b.data.toList a'.data.toList = false) :
    Calls Try.prog 37 #[spv a a', spv b b'] w fun e w' => e = .returned (rd ⟨#[]⟩ ⟨#[]⟩ false) ∧ Below w.heap.size w w' := by
  have SA : Hid (Says 29 #[spv a a'] (.bool true)) := Lib.hid (by have h := spanMay_any a a' za za'; rwa [sa] at h)
  have SB : Hid (Says 29 #[spv b b'] (.bool true)) := Lib.hid (by have h := spanMay_any b b' zb zb'; rwa [sb] at h)
  have LO : Hid (Says 55 #[.string a, .string b] (.bool true)) := Lib.hid (by have h := lower_any a b za zb; rwa [hl] at h)
  have HI : Hid (Says 56 #[.string a', .string b'] (.bool false)) := Lib.hid (by have h := higher_any a' b' za' zb'; rwa [hh] at h)
  have SX : Hid (Says 29 #[spv b a'] (.bool false)) := Lib.hid (by have h := spanMay_any b a' zb za'; rwa [hs] at h)
  have J := Lib.hid (MJ.start w a a' b b')
  clear sa sb hl hh hs za za' zb zb'
  go_enter Try.func37, Try.ntmps37
  go_wp2_with fail
  go_at_call 29; refine (SA.out _).mono ?_; rintro e w1 ⟨rfl, hb⟩; have J := Lib.hid (J.out.step hb); clear hb; obtain ⟨a0, a1, b0, b1, r0, r1, f0, f1⟩ := J.out.cells
  go_wp2_with fail
  go_at_call 29; refine (SB.out _).mono ?_; rintro e w2 ⟨rfl, hb⟩; clear a0 a1 b0 b1 r0 r1 f0 f1; have J := Lib.hid (J.out.step hb); clear hb; obtain ⟨a0, a1, b0, b1, r0, r1, f0, f1⟩ := J.out.cells
  have K := Lib.hid (MK.start J.out a a')
  obtain ⟨p0, p1, p2, p3, p4, p5, p6, p7⟩ := K.out.j.cells
  have lt0 := J.out.a.lt
  have lt1 := J.out.b.lt
  go_wp2_with fail
  go_at_call 55; refine (LO.out _).mono ?_; rintro e w3 ⟨rfl, hb⟩; clear a0 a1 b0 b1 r0 r1 f0 f1 p0 p1 p2 p3 p4 p5 p6 p7 lt0 lt1; have K := Lib.hid (K.out.step hb); clear hb; obtain ⟨a0, a1, b0, b1, r0, r1, f0, f1⟩ := K.out.j.cells; obtain ⟨k0, k1, g0, g1⟩ := K.out.cells
  go_wp2_with fail
  have K := Lib.hid (K.out.set0 b)
  go_at_call 56; refine (HI.out _).mono ?_; rintro e w4 ⟨rfl, hb⟩; have K := Lib.hid (K.out.step hb); clear a0 a1 b0 b1 r0 r1 f0 f1 k0 k1 g0 g1 hb; obtain ⟨a0, a1, b0, b1, r0, r1, f0, f1⟩ := K.out.j.cells; obtain ⟨k0, k1, g0, g1⟩ := K.out.cells
  go_wp2_with fail
  go_at_call 29; refine (SX.out _).mono ?_; rintro e w5 ⟨rfl, hb⟩; have K := Lib.hid (K.out.step hb); clear a0 a1 b0 b1 r0 r1 f0 f1 k0 k1 g0 g1 hb; obtain ⟨a0, a1, b0, b1, r0, r1, f0, f1⟩ := K.out.j.cells; obtain ⟨k0, k1, g0, g1⟩ := K.out.cells
  go_wp2_with fail
  exact bodyPost_ret (v := rd ⟨#[]⟩ ⟨#[]⟩ false) (by simp [results, Try.results37, go_sem, r0, r1, f0, f1]) rfl ⟨rfl, K.out.j.out _ _⟩

set_option maxHeartbeats 2000000 in
theorem meet_ttt (a a' b b' : ByteArray) (w : World) (za : a.size ≤ maxLen) (za' : a'.size ≤ maxLen) (zb : b.size ≤ maxLen) (zb' : b'.size ≤ maxLen) (sa : spanB a.data.toList a'.data.toList = true) (sb : spanB b.data.toList b'.data.toList = true) (hl : lowerB a.data.toList b.data.toList = true) (hh : higherB a'.data.toList b'.data.toList = true) (hs : spanB b.data.toList b'.data.toList = true) :
    Calls Try.prog 37 #[spv a a', spv b b'] w fun e w' => e = .returned (rd b b' true) ∧ Below w.heap.size w w' := by
  have SA : Hid (Says 29 #[spv a a'] (.bool true)) := Lib.hid (by have h := spanMay_any a a' za za'; rwa [sa] at h)
  have SB : Hid (Says 29 #[spv b b'] (.bool true)) := Lib.hid (by have h := spanMay_any b b' zb zb'; rwa [sb] at h)
  have LO : Hid (Says 55 #[.string a, .string b] (.bool true)) := Lib.hid (by have h := lower_any a b za zb; rwa [hl] at h)
  have HI : Hid (Says 56 #[.string a', .string b'] (.bool true)) := Lib.hid (by have h := higher_any a' b' za' zb'; rwa [hh] at h)
  have SX : Hid (Says 29 #[spv b b'] (.bool true)) := Lib.hid (by have h := spanMay_any b b' zb zb'; rwa [hs] at h)
  have J := Lib.hid (MJ.start w a a' b b')
  clear sa sb hl hh hs za za' zb zb'
  go_enter Try.func37, Try.ntmps37
  go_wp2_with fail
  go_at_call 29; refine (SA.out _).mono ?_; rintro e w1 ⟨rfl, hb⟩; have J := Lib.hid (J.out.step hb); clear hb; obtain ⟨a0, a1, b0, b1, r0, r1, f0, f1⟩ := J.out.cells
  go_wp2_with fail
  go_at_call 29; refine (SB.out _).mono ?_; rintro e w2 ⟨rfl, hb⟩; clear a0 a1 b0 b1 r0 r1 f0 f1; have J := Lib.hid (J.out.step hb); clear hb; obtain ⟨a0, a1, b0, b1, r0, r1, f0, f1⟩ := J.out.cells
  have K := Lib.hid (MK.start J.out a a')
  obtain ⟨p0, p1, p2, p3, p4, p5, p6, p7⟩ := K.out.j.cells
  have lt0 := J.out.a.lt
  have lt1 := J.out.b.lt
  go_wp2_with fail
  go_at_call 55; refine (LO.out _).mono ?_; rintro e w3 ⟨rfl, hb⟩; clear a0 a1 b0 b1 r0 r1 f0 f1 p0 p1 p2 p3 p4 p5 p6 p7 lt0 lt1; have K := Lib.hid (K.out.step hb); clear hb; obtain ⟨a0, a1, b0, b1, r0, r1, f0, f1⟩ := K.out.j.cells; obtain ⟨k0, k1, g0, g1⟩ := K.out.cells
  go_wp2_with fail
  have K := Lib.hid (K.out.set0 b)
  go_at_call 56; refine (HI.out _).mono ?_; rintro e w4 ⟨rfl, hb⟩; have K := Lib.hid (K.out.step hb); clear a0 a1 b0 b1 r0 r1 f0 f1 k0 k1 g0 g1 hb; obtain ⟨a0, a1, b0, b1, r0, r1, f0, f1⟩ := K.out.j.cells; obtain ⟨k0, k1, g0, g1⟩ := K.out.cells
  go_wp2_with fail
  have K := Lib.hid (K.out.set1 b')
  go_at_call 29; refine (SX.out _).mono ?_; rintro e w5 ⟨rfl, hb⟩; have K := Lib.hid (K.out.step hb); clear a0 a1 b0 b1 r0 r1 f0 f1 k0 k1 g0 g1 hb; obtain ⟨a0, a1, b0, b1, r0, r1, f0, f1⟩ := K.out.j.cells; obtain ⟨k0, k1, g0, g1⟩ := K.out.cells
  go_wp2_with fail
  exact bodyPost_ret (v := rd b b' true) (by simp [results, Try.results37, go_sem, r0, r1, f0, f1]) rfl ⟨rfl, K.out.j.out _ _⟩

set_option maxHeartbeats 2000000 in
theorem meet_ttf (a a' b b' : ByteArray) (w : World) (za : a.size ≤ maxLen) (za' : a'.size ≤ maxLen) (zb : b.size ≤ maxLen) (zb' : b'.size ≤ maxLen) (sa : spanB a.data.toList a'.data.toList = true) (sb : spanB b.data.toList b'.data.toList = true) (hl : lowerB a.data.toList b.data.toList = true) (hh : higherB a'.data.toList b'.data.toList = true) (hs : spanB b.data.toList b'.data.toList = false) :
    Calls Try.prog 37 #[spv a a', spv b b'] w fun e w' => e = .returned (rd ⟨#[]⟩ ⟨#[]⟩ false) ∧ Below w.heap.size w w' := by
  have SA : Hid (Says 29 #[spv a a'] (.bool true)) := Lib.hid (by have h := spanMay_any a a' za za'; rwa [sa] at h)
  have SB : Hid (Says 29 #[spv b b'] (.bool true)) := Lib.hid (by have h := spanMay_any b b' zb zb'; rwa [sb] at h)
  have LO : Hid (Says 55 #[.string a, .string b] (.bool true)) := Lib.hid (by have h := lower_any a b za zb; rwa [hl] at h)
  have HI : Hid (Says 56 #[.string a', .string b'] (.bool true)) := Lib.hid (by have h := higher_any a' b' za' zb'; rwa [hh] at h)
  have SX : Hid (Says 29 #[spv b b'] (.bool false)) := Lib.hid (by have h := spanMay_any b b' zb zb'; rwa [hs] at h)
  have J := Lib.hid (MJ.start w a a' b b')
  clear sa sb hl hh hs za za' zb zb'
  go_enter Try.func37, Try.ntmps37
  go_wp2_with fail
  go_at_call 29; refine (SA.out _).mono ?_; rintro e w1 ⟨rfl, hb⟩; have J := Lib.hid (J.out.step hb); clear hb; obtain ⟨a0, a1, b0, b1, r0, r1, f0, f1⟩ := J.out.cells
  go_wp2_with fail
  go_at_call 29; refine (SB.out _).mono ?_; rintro e w2 ⟨rfl, hb⟩; clear a0 a1 b0 b1 r0 r1 f0 f1; have J := Lib.hid (J.out.step hb); clear hb; obtain ⟨a0, a1, b0, b1, r0, r1, f0, f1⟩ := J.out.cells
  have K := Lib.hid (MK.start J.out a a')
  obtain ⟨p0, p1, p2, p3, p4, p5, p6, p7⟩ := K.out.j.cells
  have lt0 := J.out.a.lt
  have lt1 := J.out.b.lt
  go_wp2_with fail
  go_at_call 55; refine (LO.out _).mono ?_; rintro e w3 ⟨rfl, hb⟩; clear a0 a1 b0 b1 r0 r1 f0 f1 p0 p1 p2 p3 p4 p5 p6 p7 lt0 lt1; have K := Lib.hid (K.out.step hb); clear hb; obtain ⟨a0, a1, b0, b1, r0, r1, f0, f1⟩ := K.out.j.cells; obtain ⟨k0, k1, g0, g1⟩ := K.out.cells
  go_wp2_with fail
  have K := Lib.hid (K.out.set0 b)
  go_at_call 56; refine (HI.out _).mono ?_; rintro e w4 ⟨rfl, hb⟩; have K := Lib.hid (K.out.step hb); clear a0 a1 b0 b1 r0 r1 f0 f1 k0 k1 g0 g1 hb; obtain ⟨a0, a1, b0, b1, r0, r1, f0, f1⟩ := K.out.j.cells; obtain ⟨k0, k1, g0, g1⟩ := K.out.cells
  go_wp2_with fail
  have K := Lib.hid (K.out.set1 b')
  go_at_call 29; refine (SX.out _).mono ?_; rintro e w5 ⟨rfl, hb⟩; have K := Lib.hid (K.out.step hb); clear a0 a1 b0 b1 r0 r1 f0 f1 k0 k1 g0 g1 hb; obtain ⟨a0, a1, b0, b1, r0, r1, f0, f1⟩ := K.out.j.cells; obtain ⟨k0, k1, g0, g1⟩ := K.out.cells
  go_wp2_with fail
  exact bodyPost_ret (v := rd ⟨#[]⟩ ⟨#[]⟩ false) (by simp [results, Try.results37, go_sem, r0, r1, f0, f1]) rfl ⟨rfl, K.out.j.out _ _⟩

set_option maxHeartbeats 2000000 in
theorem join_ff (a a' b b' : ByteArray) (w : World) (za : a.size ≤ maxLen) (za' : a'.size ≤ maxLen) (zb : b.size ≤ maxLen) (zb' : b'.size ≤ maxLen) (sa : spanB a.data.toList a'.data.toList = true) (sb : spanB b.data.toList b'.data.toList = true) (hl : lowerB b.data.toList a.data.toList = false) (hh : higherB b'.data.toList a'.data.toList = false) :
    Calls Try.prog 40 #[spv a a', spv b b'] w fun e w' => e = .returned (spv a a') ∧ Below w.heap.size w w' := by
  have SA : Hid (Says 29 #[spv a a'] (.bool true)) := Lib.hid (by have h := spanMay_any a a' za za'; rwa [sa] at h)
  have SB : Hid (Says 29 #[spv b b'] (.bool true)) := Lib.hid (by have h := spanMay_any b b' zb zb'; rwa [sb] at h)
  have LO : Hid (Says 55 #[.string b, .string a] (.bool false)) := Lib.hid (by have h := lower_any b a zb za; rwa [hl] at h)
  have HI : Hid (Says 56 #[.string b', .string a'] (.bool false)) := Lib.hid (by have h := higher_any b' a' zb' za'; rwa [hh] at h)
  have J := Lib.hid (MJ.start w a a' b b')
  clear sa sb hl hh za za' zb zb'
  go_enter Try.func40, Try.ntmps40
  go_wp2_with fail
  go_at_call 29; refine (SA.out _).mono ?_; rintro e w1 ⟨rfl, hb⟩; have J := Lib.hid (J.out.step hb); clear hb; obtain ⟨a0, a1, b0, b1, r0, r1, f0, f1⟩ := J.out.cells
  go_wp2_with fail
  go_at_call 29; refine (SB.out _).mono ?_; rintro e w2 ⟨rfl, hb⟩; clear a0 a1 b0 b1 r0 r1 f0 f1; have J := Lib.hid (J.out.step hb); clear hb; obtain ⟨a0, a1, b0, b1, r0, r1, f0, f1⟩ := J.out.cells
  have K := Lib.hid (MK.start J.out a a')
  obtain ⟨p0, p1, p2, p3, p4, p5, p6, p7⟩ := K.out.j.cells
  have lt0 := J.out.a.lt
  have lt1 := J.out.b.lt
  go_wp2_with fail
  go_at_call 55; refine (LO.out _).mono ?_; rintro e w3 ⟨rfl, hb⟩; clear a0 a1 b0 b1 r0 r1 f0 f1 p0 p1 p2 p3 p4 p5 p6 p7 lt0 lt1; have K := Lib.hid (K.out.step hb); clear hb; obtain ⟨a0, a1, b0, b1, r0, r1, f0, f1⟩ := K.out.j.cells; obtain ⟨k0, k1, g0, g1⟩ := K.out.cells
  go_wp2_with fail
  go_at_call 56; refine (HI.out _).mono ?_; rintro e w4 ⟨rfl, hb⟩; have K := Lib.hid (K.out.step hb); clear a0 a1 b0 b1 r0 r1 f0 f1 k0 k1 g0 g1 hb; obtain ⟨a0, a1, b0, b1, r0, r1, f0, f1⟩ := K.out.j.cells; obtain ⟨k0, k1, g0, g1⟩ := K.out.cells
  go_wp2_with fail
  exact bodyPost_ret (v := spv a a') (by simp [results, Try.results40, go_sem, r0, r1, f0, f1]) rfl ⟨rfl, K.out.j.out _ _⟩

set_option maxHeartbeats 2000000 in
theorem join_ft (a a' b b' : ByteArray) (w : World) (za : a.size ≤ maxLen) (za' : a'.size ≤ maxLen) (zb : b.size ≤ maxLen) (zb' : b'.size ≤ maxLen) (sa : spanB a.data.toList a'.data.toList = true) (sb : spanB b.data.toList b'.data.toList = true) (hl : lowerB b.data.toList a.data.toList = false) (hh : higherB b'.data.toList a'.data.toList = true) :
    Calls Try.prog 40 #[spv a a', spv b b'] w fun e w' => e = .returned (spv a b') ∧ Below w.heap.size w w' := by
  have SA : Hid (Says 29 #[spv a a'] (.bool true)) := Lib.hid (by have h := spanMay_any a a' za za'; rwa [sa] at h)
  have SB : Hid (Says 29 #[spv b b'] (.bool true)) := Lib.hid (by have h := spanMay_any b b' zb zb'; rwa [sb] at h)
  have LO : Hid (Says 55 #[.string b, .string a] (.bool false)) := Lib.hid (by have h := lower_any b a zb za; rwa [hl] at h)
  have HI : Hid (Says 56 #[.string b', .string a'] (.bool true)) := Lib.hid (by have h := higher_any b' a' zb' za'; rwa [hh] at h)
  have J := Lib.hid (MJ.start w a a' b b')
  clear sa sb hl hh za za' zb zb'
  go_enter Try.func40, Try.ntmps40
  go_wp2_with fail
  go_at_call 29; refine (SA.out _).mono ?_; rintro e w1 ⟨rfl, hb⟩; have J := Lib.hid (J.out.step hb); clear hb; obtain ⟨a0, a1, b0, b1, r0, r1, f0, f1⟩ := J.out.cells
  go_wp2_with fail
  go_at_call 29; refine (SB.out _).mono ?_; rintro e w2 ⟨rfl, hb⟩; clear a0 a1 b0 b1 r0 r1 f0 f1; have J := Lib.hid (J.out.step hb); clear hb; obtain ⟨a0, a1, b0, b1, r0, r1, f0, f1⟩ := J.out.cells
  have K := Lib.hid (MK.start J.out a a')
  obtain ⟨p0, p1, p2, p3, p4, p5, p6, p7⟩ := K.out.j.cells
  have lt0 := J.out.a.lt
  have lt1 := J.out.b.lt
  go_wp2_with fail
  go_at_call 55; refine (LO.out _).mono ?_; rintro e w3 ⟨rfl, hb⟩; clear a0 a1 b0 b1 r0 r1 f0 f1 p0 p1 p2 p3 p4 p5 p6 p7 lt0 lt1; have K := Lib.hid (K.out.step hb); clear hb; obtain ⟨a0, a1, b0, b1, r0, r1, f0, f1⟩ := K.out.j.cells; obtain ⟨k0, k1, g0, g1⟩ := K.out.cells
  go_wp2_with fail
  go_at_call 56; refine (HI.out _).mono ?_; rintro e w4 ⟨rfl, hb⟩; have K := Lib.hid (K.out.step hb); clear a0 a1 b0 b1 r0 r1 f0 f1 k0 k1 g0 g1 hb; obtain ⟨a0, a1, b0, b1, r0, r1, f0, f1⟩ := K.out.j.cells; obtain ⟨k0, k1, g0, g1⟩ := K.out.cells
  have K2 := Lib.hid (K.out.set1 b')
  obtain ⟨q0, q1, q2, q3, q4, q5, q6, q7⟩ := K2.out.j.cells
  obtain ⟨m0, m1, m2, m3⟩ := K2.out.cells
  have ltk := K.out.lt
  go_wp2_with fail
  have K := K2
  exact bodyPost_ret (v := spv a b') (by simp [results, Try.results40, go_sem, r0, r1, f0, f1]) rfl ⟨rfl, K.out.j.out _ _⟩

set_option maxHeartbeats 2000000 in
theorem join_tf (a a' b b' : ByteArray) (w : World) (za : a.size ≤ maxLen) (za' : a'.size ≤ maxLen) (zb : b.size ≤ maxLen) (zb' : b'.size ≤ maxLen) (sa : spanB a.data.toList a'.data.toList = true) (sb : spanB b.data.toList b'.data.toList = true) (hl : lowerB b.data.toList a.data.toList = true) (hh : higherB b'.data.toList a'.data.toList = false) :
    Calls Try.prog 40 #[spv a a', spv b b'] w fun e w' => e = .returned (spv b a') ∧ Below w.heap.size w w' := by
  have SA : Hid (Says 29 #[spv a a'] (.bool true)) := Lib.hid (by have h := spanMay_any a a' za za'; rwa [sa] at h)
  have SB : Hid (Says 29 #[spv b b'] (.bool true)) := Lib.hid (by have h := spanMay_any b b' zb zb'; rwa [sb] at h)
  have LO : Hid (Says 55 #[.string b, .string a] (.bool true)) := Lib.hid (by have h := lower_any b a zb za; rwa [hl] at h)
  have HI : Hid (Says 56 #[.string b', .string a'] (.bool false)) := Lib.hid (by have h := higher_any b' a' zb' za'; rwa [hh] at h)
  have J := Lib.hid (MJ.start w a a' b b')
  clear sa sb hl hh za za' zb zb'
  go_enter Try.func40, Try.ntmps40
  go_wp2_with fail
  go_at_call 29; refine (SA.out _).mono ?_; rintro e w1 ⟨rfl, hb⟩; have J := Lib.hid (J.out.step hb); clear hb; obtain ⟨a0, a1, b0, b1, r0, r1, f0, f1⟩ := J.out.cells
  go_wp2_with fail
  go_at_call 29; refine (SB.out _).mono ?_; rintro e w2 ⟨rfl, hb⟩; clear a0 a1 b0 b1 r0 r1 f0 f1; have J := Lib.hid (J.out.step hb); clear hb; obtain ⟨a0, a1, b0, b1, r0, r1, f0, f1⟩ := J.out.cells
  have K := Lib.hid (MK.start J.out a a')
  obtain ⟨p0, p1, p2, p3, p4, p5, p6, p7⟩ := K.out.j.cells
  have lt0 := J.out.a.lt
  have lt1 := J.out.b.lt
  go_wp2_with fail
  go_at_call 55; refine (LO.out _).mono ?_; rintro e w3 ⟨rfl, hb⟩; clear a0 a1 b0 b1 r0 r1 f0 f1 p0 p1 p2 p3 p4 p5 p6 p7 lt0 lt1; have K := Lib.hid (K.out.step hb); clear hb; obtain ⟨a0, a1, b0, b1, r0, r1, f0, f1⟩ := K.out.j.cells; obtain ⟨k0, k1, g0, g1⟩ := K.out.cells
  go_wp2_with fail
  have K := Lib.hid (K.out.set0 b)
  go_at_call 56; refine (HI.out _).mono ?_; rintro e w4 ⟨rfl, hb⟩; have K := Lib.hid (K.out.step hb); clear a0 a1 b0 b1 r0 r1 f0 f1 k0 k1 g0 g1 hb; obtain ⟨a0, a1, b0, b1, r0, r1, f0, f1⟩ := K.out.j.cells; obtain ⟨k0, k1, g0, g1⟩ := K.out.cells
  go_wp2_with fail
  exact bodyPost_ret (v := spv b a') (by simp [results, Try.results40, go_sem, r0, r1, f0, f1]) rfl ⟨rfl, K.out.j.out _ _⟩

set_option maxHeartbeats 2000000 in
theorem join_tt (a a' b b' : ByteArray) (w : World) (za : a.size ≤ maxLen) (za' : a'.size ≤ maxLen) (zb : b.size ≤ maxLen) (zb' : b'.size ≤ maxLen) (sa : spanB a.data.toList a'.data.toList = true) (sb : spanB b.data.toList b'.data.toList = true) (hl : lowerB b.data.toList a.data.toList = true) (hh : higherB b'.data.toList a'.data.toList = true) :
    Calls Try.prog 40 #[spv a a', spv b b'] w fun e w' => e = .returned (spv b b') ∧ Below w.heap.size w w' := by
  have SA : Hid (Says 29 #[spv a a'] (.bool true)) := Lib.hid (by have h := spanMay_any a a' za za'; rwa [sa] at h)
  have SB : Hid (Says 29 #[spv b b'] (.bool true)) := Lib.hid (by have h := spanMay_any b b' zb zb'; rwa [sb] at h)
  have LO : Hid (Says 55 #[.string b, .string a] (.bool true)) := Lib.hid (by have h := lower_any b a zb za; rwa [hl] at h)
  have HI : Hid (Says 56 #[.string b', .string a'] (.bool true)) := Lib.hid (by have h := higher_any b' a' zb' za'; rwa [hh] at h)
  have J := Lib.hid (MJ.start w a a' b b')
  clear sa sb hl hh za za' zb zb'
  go_enter Try.func40, Try.ntmps40
  go_wp2_with fail
  go_at_call 29; refine (SA.out _).mono ?_; rintro e w1 ⟨rfl, hb⟩; have J := Lib.hid (J.out.step hb); clear hb; obtain ⟨a0, a1, b0, b1, r0, r1, f0, f1⟩ := J.out.cells
  go_wp2_with fail
  go_at_call 29; refine (SB.out _).mono ?_; rintro e w2 ⟨rfl, hb⟩; clear a0 a1 b0 b1 r0 r1 f0 f1; have J := Lib.hid (J.out.step hb); clear hb; obtain ⟨a0, a1, b0, b1, r0, r1, f0, f1⟩ := J.out.cells
  have K := Lib.hid (MK.start J.out a a')
  obtain ⟨p0, p1, p2, p3, p4, p5, p6, p7⟩ := K.out.j.cells
  have lt0 := J.out.a.lt
  have lt1 := J.out.b.lt
  go_wp2_with fail
  go_at_call 55; refine (LO.out _).mono ?_; rintro e w3 ⟨rfl, hb⟩; clear a0 a1 b0 b1 r0 r1 f0 f1 p0 p1 p2 p3 p4 p5 p6 p7 lt0 lt1; have K := Lib.hid (K.out.step hb); clear hb; obtain ⟨a0, a1, b0, b1, r0, r1, f0, f1⟩ := K.out.j.cells; obtain ⟨k0, k1, g0, g1⟩ := K.out.cells
  go_wp2_with fail
  have K := Lib.hid (K.out.set0 b)
  go_at_call 56; refine (HI.out _).mono ?_; rintro e w4 ⟨rfl, hb⟩; have K := Lib.hid (K.out.step hb); clear a0 a1 b0 b1 r0 r1 f0 f1 k0 k1 g0 g1 hb; obtain ⟨a0, a1, b0, b1, r0, r1, f0, f1⟩ := K.out.j.cells; obtain ⟨k0, k1, g0, g1⟩ := K.out.cells
  have K2 := Lib.hid (K.out.set1 b')
  obtain ⟨q0, q1, q2, q3, q4, q5, q6, q7⟩ := K2.out.j.cells
  obtain ⟨m0, m1, m2, m3⟩ := K2.out.cells
  have ltk := K.out.lt
  go_wp2_with fail
  have K := K2
  exact bodyPost_ret (v := spv b b') (by simp [results, Try.results40, go_sem, r0, r1, f0, f1]) rfl ⟨rfl, K.out.j.out _ _⟩

end Go.Proofs.Ytdmobdiffobdkaa.Ver
