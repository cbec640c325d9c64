/- Spans: their texts, and what a text reads as. -/
import Derived.Test.YtdmobdiffobdkaaSpanB
import Derived.Test.YtdmobdiffobdkaaVerCollect
namespace Go.Proofs.Ytdmobdiffobdkaa.Ver
set_option linter.unusedVariables false
set_option linter.unusedSimpArgs false
open Go.RowKit Go.Shelf

theorem span_small {lo hi : Bs} (h : spanB lo hi = true) : lo.length ≤ 40 ∧ hi.length ≤ 40 := by
  obtain ⟨b1, b2, _⟩ := span_parts h
  have key : ∀ {s : Bs}, boundB s = true → s.length ≤ 40 := fun {s} h => by
    rcases bound_cases h with rfl | ⟨m, _⟩
    · simp
    · exact (may_facts m).1
  exact ⟨key b1, key b2⟩
theorem colon_list (h a : ByteArray) : (h ++ ⟨#[58]⟩ ++ a).data.toList = h.data.toList ++ 58 :: a.data.toList := by
  simp [ByteArray.data_append]
theorem str_list (s : ByteArray) : Value.string s = str s.data.toList := rfl
/-- what the text of a span is, as a string. -/
def textA (lo hi : ByteArray) : ByteArray := if (lo.toList == hi.toList) && !lo.toList.isEmpty then lo else lo ++ ⟨#[58]⟩ ++ hi
theorem textA_list (lo hi : ByteArray) : (textA lo hi).data.toList = textS lo.data.toList hi.data.toList := by
  unfold textA textS
  rw [Lib.toList_data, Lib.toList_data]
  by_cases h : lo.data.toList = hi.data.toList ∧ lo.data.toList ≠ []
  · have : ((lo.data.toList == hi.data.toList) && !lo.data.toList.isEmpty) = true := by simp [h.1]; simpa [h.1] using h.2
    rw [if_pos h, if_pos this]
  · have : ¬ ((lo.data.toList == hi.data.toList) && !lo.data.toList.isEmpty) = true := by simp at h ⊢; exact h
    rw [if_neg h, if_neg this, colon_list]

set_option maxHeartbeats 1000000 in
theorem rtext_any (lo hi : ByteArray) (hlo : lo.size ≤ 3000) (hhi : hi.size ≤ 3000) : Says 35 #[spv lo hi] (.string (textA lo hi)) := fun w => by
  have R := Lib.hid (Below.refl (boxW w lo hi).heap.size (boxW w lo hi))
  have h1 : (lo.size : Int) ≤ 3000 := by omega
  have h2 : (hi.size : Int) ≤ 3000 := by omega
  have T : Hid (textA lo hi = if (lo.toList == hi.toList) && !lo.toList.isEmpty then lo else lo ++ ⟨#[58]⟩ ++ hi) := Lib.hid rfl
  go_enter Try.func35, Try.ntmps35
  go_wp2_with fail
  all_goals (go_ret; refine ⟨?_, box_below R.out⟩)
  all_goals rw [T.out]
  all_goals clear T R
  all_goals simp_all

set_option maxHeartbeats 1000000 in
theorem text_any (lo hi : ByteArray) (hlo : lo.size ≤ maxLen) (hhi : hi.size ≤ maxLen) (h : spanB lo.data.toList hi.data.toList = true) : Says 33 #[spv lo hi] (.string (textA lo hi)) := fun w => by
  have R := Lib.hid (Below.refl (boxW w lo hi).heap.size (boxW w lo hi))
  have sm := span_small h
  rw [len_list, len_list] at sm
  have h1 : (lo.size : Int) ≤ 40 := by omega
  have h2 : (hi.size : Int) ≤ 40 := by omega
  have S := Lib.hid (fun w => by have := spanMay_any lo hi hlo hhi w; rwa [h] at this)
  have T : Hid (textA lo hi = if (lo.toList == hi.toList) && !lo.toList.isEmpty then lo else lo ++ ⟨#[58]⟩ ++ hi) := Lib.hid rfl
  clear h sm hlo hhi
  go_enter Try.func33, Try.ntmps33
  go_wp2_with (first
    | (go_at_call 29; (with_reducible refine (S.out _).mono ?_); rintro e w1 ⟨rfl, hb⟩; have R := Lib.hid (bstep R.out hb); clear hb; obtain ⟨c0, c1⟩ := box_cells R.out))
  all_goals (go_ret; refine ⟨?_, box_below R.out⟩)
  all_goals rw [T.out]
  all_goals clear T R S
  all_goals simp_all
set_option maxHeartbeats 1000000 in
theorem text_no (lo hi : ByteArray) (hlo : lo.size ≤ maxLen) (hhi : hi.size ≤ maxLen) (h : spanB lo.data.toList hi.data.toList = false) : Says 33 #[spv lo hi] (.string ⟨#[]⟩) := fun w => by
  have R := Lib.hid (Below.refl (boxW w lo hi).heap.size (boxW w lo hi))
  have S := Lib.hid (fun w => by have := spanMay_any lo hi hlo hhi w; rwa [h] at this)
  clear h hlo hhi
  go_enter Try.func33, Try.ntmps33
  go_wp2_with (first
    | (go_at_call 29; (with_reducible refine (S.out _).mono ?_); rintro e w1 ⟨rfl, hb⟩; have R := Lib.hid (bstep R.out hb); clear hb; obtain ⟨c0, c1⟩ := box_cells R.out))
  go_ret
  exact ⟨rfl, box_below R.out⟩

/-! ### reading -/
/-- behind Read: a span and whether it is one. -/
abbrev rd (lo hi : ByteArray) (b : Bool) : Value := .tuple #[spv lo hi, .bool b]
abbrev E0 : ByteArray := ⟨#[]⟩
/-- what lies behind Read's first lines: the result's cell and the span's. -/
structure ReadAt (w : World) (lo hi : ByteArray) (W : World) : Prop where
  r : W.heap[w.heap.size]? = some (.cells #[.string ⟨#[]⟩, .string ⟨#[]⟩] 37 (0, 0))
  s : W.heap[w.heap.size + 1]? = some (.cells #[.string lo, .string hi] 37 (0, 0))
  below : Below w.heap.size w W
theorem ReadAt.step {w W W' : World} {lo hi : ByteArray} (h : ReadAt w lo hi W) (hb : Below W.heap.size W W') : ReadAt w lo hi W' :=
  ⟨(hb.block _ (lt_of_block h.r)).trans h.r, (hb.block _ (lt_of_block h.s)).trans h.s, bstep h.below hb⟩
theorem ReadAt.cells {w W : World} {lo hi : ByteArray} (h : ReadAt w lo hi W) : W.cell? ⟨w.heap.size, 0, none⟩ = some (.string ⟨#[]⟩) ∧ W.cell? ⟨w.heap.size, 1, none⟩ = some (.string ⟨#[]⟩) ∧
    W.cell? ⟨w.heap.size + 1, 0, none⟩ = some (.string lo) ∧ W.cell? ⟨w.heap.size + 1, 1, none⟩ = some (.string hi) ∧ W.frozen? ⟨w.heap.size, 0, none⟩ = false ∧ W.frozen? ⟨w.heap.size, 1, none⟩ = false :=
  ⟨blk_cell (j := 0) h.r rfl, blk_cell (j := 1) h.r rfl, blk_cell (j := 0) h.s rfl, blk_cell (j := 1) h.s rfl, blk_free 0 h.r, blk_free 1 h.r⟩
theorem ReadAt.start (w : World) (lo hi : ByteArray) (n : Nat) : ReadAt w lo hi (((w.alloc (.cells #[.string ⟨#[]⟩, .string ⟨#[]⟩] 37)).drewN n).alloc (.cells #[.string lo, .string hi] 37)) := by
  have h2 := heap_alloc_new ((w.alloc (.cells #[.string ⟨#[]⟩, .string ⟨#[]⟩] 37)).drewN n) (.cells #[.string lo, .string hi] 37)
  have e : ((w.alloc (.cells #[.string ⟨#[]⟩, .string ⟨#[]⟩] 37)).drewN n).heap.size = w.heap.size + 1 := by
    show (w.alloc (.cells #[.string ⟨#[]⟩, .string ⟨#[]⟩] 37)).heap.size = _; simp
  rw [e] at h2
  refine ⟨(Below.heap_alloc _ _ _ (by rw [e]; omega)).trans (heap_alloc_new w _), h2, ?_⟩
  exact (drewN_below ((Below.refl _ w).alloc (Nat.le_refl _) _) n).alloc (by rw [e]; omega) _

set_option maxHeartbeats 2000000 in
theorem read_hit_ok (t lo hi : ByteArray) (w : World) (ht : t.size ≤ 3000) (hh : t.data.toList = lo.data.toList ++ 58 :: hi.data.toList) (hno : (58 : UInt8) ∉ lo.data.toList) (hs : spanB lo.data.toList hi.data.toList = true) (hx : (textA lo hi).toList == t.toList) :
    Calls Try.prog 34 #[.string t] w fun e w' => e = .returned (rd lo hi true) ∧ Below w.heap.size w w' := by
  have zl : t.size = lo.size + (hi.size + 1) := by rw [← len_list t, hh]; simp
  have S := Lib.hid (fun w => by have := spanMay_any lo hi (by unfold maxLen; omega) (by unfold maxLen; omega) w; rwa [hs] at this)
  have X := Lib.hid (text_any lo hi (by unfold maxLen; omega) (by unfold maxLen; omega) hs)
  have C := Lib.hid (cut_hitB t lo hi 58 (w.alloc (.cells #[.string ⟨#[]⟩, .string ⟨#[]⟩] 37)) hh hno (by omega))
  clear hh hno hs zl
  go_enter Try.func34, Try.ntmps34
  go_wp2_with fail
  go_at_call 57; (with_reducible refine C.out.mono ?_); rintro e w1 ⟨rfl, n, rfl⟩
  go_wp2_with fail
  go_at_call 29; (with_reducible refine (S.out _).mono ?_); rintro e w1 ⟨rfl, hb⟩
  have R := Lib.hid ((ReadAt.start w lo hi n).step hb); clear hb; obtain ⟨r0, r1, s0, s1, f0, f1⟩ := R.out.cells
  go_wp2_with fail
  go_at_call 33; (with_reducible refine (X.out _).mono ?_); rintro e w2 ⟨rfl, hb⟩
  clear r0 r1 s0 s1 f0 f1
  have R := Lib.hid (R.out.step hb); clear hb; obtain ⟨r0, r1, s0, s1, f0, f1⟩ := R.out.cells
  go_wp2_with fail
  refine bodyPost_ret (v := rd lo hi true) (by simp [results, Try.results34, go_sem, r0, r1, f0, f1]) rfl ⟨rfl, ?_⟩
  exact (R.out.below.setCell (p := ⟨w.heap.size, 0, none⟩) (Nat.le_refl _) _).setCell (p := ⟨w.heap.size, 1, none⟩) (Nat.le_refl _) _

set_option maxHeartbeats 2000000 in
theorem read_hit_bad (t lo hi : ByteArray) (w : World) (ht : t.size ≤ 3000) (hh : t.data.toList = lo.data.toList ++ 58 :: hi.data.toList) (hno : (58 : UInt8) ∉ lo.data.toList) (hs : spanB lo.data.toList hi.data.toList = true) (hx : ((textA lo hi).toList == t.toList) = false) :
    Calls Try.prog 34 #[.string t] w fun e w' => e = .returned (rd ⟨#[]⟩ ⟨#[]⟩ false) ∧ Below w.heap.size w w' := by
  have zl : t.size = lo.size + (hi.size + 1) := by rw [← len_list t, hh]; simp
  have S := Lib.hid (fun w => by have := spanMay_any lo hi (by unfold maxLen; omega) (by unfold maxLen; omega) w; rwa [hs] at this)
  have X := Lib.hid (text_any lo hi (by unfold maxLen; omega) (by unfold maxLen; omega) hs)
  have C := Lib.hid (cut_hitB t lo hi 58 (w.alloc (.cells #[.string ⟨#[]⟩, .string ⟨#[]⟩] 37)) hh hno (by omega))
  clear hh hno hs zl
  go_enter Try.func34, Try.ntmps34
  go_wp2_with fail
  go_at_call 57; (with_reducible refine C.out.mono ?_); rintro e w1 ⟨rfl, n, rfl⟩
  go_wp2_with fail
  go_at_call 29; (with_reducible refine (S.out _).mono ?_); rintro e w1 ⟨rfl, hb⟩
  have R := Lib.hid ((ReadAt.start w lo hi n).step hb); clear hb; obtain ⟨r0, r1, s0, s1, f0, f1⟩ := R.out.cells
  go_wp2_with fail
  go_at_call 33; (with_reducible refine (X.out _).mono ?_); rintro e w2 ⟨rfl, hb⟩
  clear r0 r1 s0 s1 f0 f1
  have R := Lib.hid (R.out.step hb); clear hb; obtain ⟨r0, r1, s0, s1, f0, f1⟩ := R.out.cells
  go_wp2_with fail
  refine bodyPost_ret (v := rd ⟨#[]⟩ ⟨#[]⟩ false) (by simp [results, Try.results34, go_sem, r0, r1, f0, f1]) rfl ⟨rfl, ?_⟩
  exact (R.out.below.setCell (p := ⟨w.heap.size, 0, none⟩) (Nat.le_refl _) _).setCell (p := ⟨w.heap.size, 1, none⟩) (Nat.le_refl _) _

set_option maxHeartbeats 2000000 in
theorem read_hit_no (t lo hi : ByteArray) (w : World) (ht : t.size ≤ 3000) (hh : t.data.toList = lo.data.toList ++ 58 :: hi.data.toList) (hno : (58 : UInt8) ∉ lo.data.toList) (hs : spanB lo.data.toList hi.data.toList = false) :
    Calls Try.prog 34 #[.string t] w fun e w' => e = .returned (rd ⟨#[]⟩ ⟨#[]⟩ false) ∧ Below w.heap.size w w' := by
  have zl : t.size = lo.size + (hi.size + 1) := by rw [← len_list t, hh]; simp
  have S := Lib.hid (fun w => by have := spanMay_any lo hi (by unfold maxLen; omega) (by unfold maxLen; omega) w; rwa [hs] at this)
  have C := Lib.hid (cut_hitB t lo hi 58 (w.alloc (.cells #[.string ⟨#[]⟩, .string ⟨#[]⟩] 37)) hh hno (by omega))
  clear hh hno hs zl
  go_enter Try.func34, Try.ntmps34
  go_wp2_with fail
  go_at_call 57; (with_reducible refine C.out.mono ?_); rintro e w1 ⟨rfl, n, rfl⟩
  go_wp2_with fail
  go_at_call 29; (with_reducible refine (S.out _).mono ?_); rintro e w1 ⟨rfl, hb⟩
  have R := Lib.hid ((ReadAt.start w lo hi n).step hb); clear hb; obtain ⟨r0, r1, s0, s1, f0, f1⟩ := R.out.cells
  go_wp2_with fail
  refine bodyPost_ret (v := rd ⟨#[]⟩ ⟨#[]⟩ false) (by simp [results, Try.results34, go_sem, r0, r1, f0, f1]) rfl ⟨rfl, ?_⟩
  exact (R.out.below.setCell (p := ⟨w.heap.size, 0, none⟩) (Nat.le_refl _) _).setCell (p := ⟨w.heap.size, 1, none⟩) (Nat.le_refl _) _

set_option maxHeartbeats 2000000 in
theorem read_miss_ok (t : ByteArray) (w : World) (ht : t.size ≤ 3000) (hno : (58 : UInt8) ∉ t.data.toList) (hs : spanB t.data.toList t.data.toList = true) (hx : (textA t t).toList == t.toList) :
    Calls Try.prog 34 #[.string t] w fun e w' => e = .returned (rd t t true) ∧ Below w.heap.size w w' := by
  have S := Lib.hid (fun w => by have := spanMay_any t t (by unfold maxLen; omega) (by unfold maxLen; omega) w; rwa [hs] at this)
  have X := Lib.hid (text_any t t (by unfold maxLen; omega) (by unfold maxLen; omega) hs)
  have C := Lib.hid (cut_miss t 58 (w.alloc (.cells #[.string ⟨#[]⟩, .string ⟨#[]⟩] 37)) hno)
  clear hno hs
  go_enter Try.func34, Try.ntmps34
  go_wp2_with fail
  go_at_call 57; (with_reducible refine C.out.mono ?_); rintro e w1 ⟨rfl, rfl⟩
  go_wp2_with fail
  go_at_call 29; (with_reducible refine (S.out _).mono ?_); rintro e w1 ⟨rfl, hb⟩
  have R := Lib.hid ((ReadAt.start w t t 0).step hb); clear hb; obtain ⟨r0, r1, s0, s1, f0, f1⟩ := R.out.cells
  go_wp2_with fail
  go_at_call 33; (with_reducible refine (X.out _).mono ?_); rintro e w2 ⟨rfl, hb⟩
  clear r0 r1 s0 s1 f0 f1
  have R := Lib.hid (R.out.step hb); clear hb; obtain ⟨r0, r1, s0, s1, f0, f1⟩ := R.out.cells
  go_wp2_with fail
  refine bodyPost_ret (v := rd t t true) (by simp [results, Try.results34, go_sem, r0, r1, f0, f1]) rfl ⟨rfl, ?_⟩
  exact (R.out.below.setCell (p := ⟨w.heap.size, 0, none⟩) (Nat.le_refl _) _).setCell (p := ⟨w.heap.size, 1, none⟩) (Nat.le_refl _) _

set_option maxHeartbeats 2000000 in
theorem read_miss_bad (t : ByteArray) (w : World) (ht : t.size ≤ 3000) (hno : (58 : UInt8) ∉ t.data.toList) (hs : spanB t.data.toList t.data.toList = true) (hx : ((textA t t).toList == t.toList) = false) :
    Calls Try.prog 34 #[.string t] w fun e w' => e = .returned (rd ⟨#[]⟩ ⟨#[]⟩ false) ∧ Below w.heap.size w w' := by
  have S := Lib.hid (fun w => by have := spanMay_any t t (by unfold maxLen; omega) (by unfold maxLen; omega) w; rwa [hs] at this)
  have X := Lib.hid (text_any t t (by unfold maxLen; omega) (by unfold maxLen; omega) hs)
  have C := Lib.hid (cut_miss t 58 (w.alloc (.cells #[.string ⟨#[]⟩, .string ⟨#[]⟩] 37)) hno)
  clear hno hs
  go_enter Try.func34, Try.ntmps34
  go_wp2_with fail
  go_at_call 57; (with_reducible refine C.out.mono ?_); rintro e w1 ⟨rfl, rfl⟩
  go_wp2_with fail
  go_at_call 29; (with_reducible refine (S.out _).mono ?_); rintro e w1 ⟨rfl, hb⟩
  have R := Lib.hid ((ReadAt.start w t t 0).step hb); clear hb; obtain ⟨r0, r1, s0, s1, f0, f1⟩ := R.out.cells
  go_wp2_with fail
  go_at_call 33; (with_reducible refine (X.out _).mono ?_); rintro e w2 ⟨rfl, hb⟩
  clear r0 r1 s0 s1 f0 f1
  have R := Lib.hid (R.out.step hb); clear hb; obtain ⟨r0, r1, s0, s1, f0, f1⟩ := R.out.cells
  go_wp2_with fail
  refine bodyPost_ret (v := rd ⟨#[]⟩ ⟨#[]⟩ false) (by simp [results, Try.results34, go_sem, r0, r1, f0, f1]) rfl ⟨rfl, ?_⟩
  exact (R.out.below.setCell (p := ⟨w.heap.size, 0, none⟩) (Nat.le_refl _) _).setCell (p := ⟨w.heap.size, 1, none⟩) (Nat.le_refl _) _

set_option maxHeartbeats 2000000 in
theorem read_miss_no (t : ByteArray) (w : World) (ht : t.size ≤ 3000) (hno : (58 : UInt8) ∉ t.data.toList) (hs : spanB t.data.toList t.data.toList = false) :
    Calls Try.prog 34 #[.string t] w fun e w' => e = .returned (rd ⟨#[]⟩ ⟨#[]⟩ false) ∧ Below w.heap.size w w' := by
  have S := Lib.hid (fun w => by have := spanMay_any t t (by unfold maxLen; omega) (by unfold maxLen; omega) w; rwa [hs] at this)
  have C := Lib.hid (cut_miss t 58 (w.alloc (.cells #[.string ⟨#[]⟩, .string ⟨#[]⟩] 37)) hno)
  clear hno hs
  go_enter Try.func34, Try.ntmps34
  go_wp2_with fail
  go_at_call 57; (with_reducible refine C.out.mono ?_); rintro e w1 ⟨rfl, rfl⟩
  go_wp2_with fail
  go_at_call 29; (with_reducible refine (S.out _).mono ?_); rintro e w1 ⟨rfl, hb⟩
  have R := Lib.hid ((ReadAt.start w t t 0).step hb); clear hb; obtain ⟨r0, r1, s0, s1, f0, f1⟩ := R.out.cells
  go_wp2_with fail
  refine bodyPost_ret (v := rd ⟨#[]⟩ ⟨#[]⟩ false) (by simp [results, Try.results34, go_sem, r0, r1, f0, f1]) rfl ⟨rfl, ?_⟩
  exact (R.out.below.setCell (p := ⟨w.heap.size, 0, none⟩) (Nat.le_refl _) _).setCell (p := ⟨w.heap.size, 1, none⟩) (Nat.le_refl _) _

end Go.Proofs.Ytdmobdiffobdkaa.Ver
