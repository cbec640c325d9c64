/- The laws SpanTexts and SpanReads, walked. -/
import Derived.Test.YtdmobdiffobdkaaSpanE
namespace Go.Proofs.Ytdmobdiffobdkaa.Ver
set_option linter.unusedVariables false
set_option linter.unusedSimpArgs false
open Go.RowKit Go.Shelf

theorem read_text {lo hi : Bs} (h : spanB lo hi = true) : readOk (textS lo hi) = some (lo, hi) := by
  obtain ⟨b1, b2, _⟩ := span_parts h
  unfold textS
  by_cases e : lo = hi ∧ lo ≠ []
  · rw [if_pos e]
    obtain ⟨rfl, hne⟩ := e
    unfold readOk
    rw [cut_none 58 _ (bound_no b1)]
    rcases bound_cases b1 with h0 | ⟨m, _⟩
    · exact absurd h0 hne
    · simp [m]
  · rw [if_neg e]
    unfold readOk
    rw [text_cut b1 b2]
    have : textS lo hi = lo ++ 58 :: hi := if_neg e
    simp [h, this]
theorem textA_size {lo hi : ByteArray} (h : spanB lo.data.toList hi.data.toList = true) : (textA lo hi).size ≤ 100 := by
  have := span_small h
  rw [← len_list, textA_list]
  unfold textS
  split
  · omega
  · simp only [List.length_append, List.length_cons]; omega
theorem bs_list (s : ByteArray) : bs s.data.toList = s := rfl

/-- two boxes: a block before, and a span laid behind it. -/
structure Two (w : World) (lo hi lo2 hi2 : ByteArray) (k : Nat) (W : World) : Prop where
  a : W.heap[w.heap.size]? = some (.cells #[.string lo, .string hi] 37 (0, 0))
  b : W.heap[k]? = some (.cells #[.string lo2, .string hi2] 37 (0, 0))
  below : Below w.heap.size w W
theorem Two.step {w W W' : World} {lo hi lo2 hi2 : ByteArray} {k : Nat} (h : Two w lo hi lo2 hi2 k W) (hb : Below W.heap.size W W') : Two w lo hi lo2 hi2 k W' :=
  ⟨(hb.block _ (lt_of_block h.a)).trans h.a, (hb.block _ (lt_of_block h.b)).trans h.b, bstep h.below hb⟩
theorem Two.drew {w W : World} {lo hi lo2 hi2 : ByteArray} {k : Nat} (h : Two w lo hi lo2 hi2 k W) : Two w lo hi lo2 hi2 k W.drew := ⟨h.a, h.b, h.below.drew⟩
theorem Two.cells {w W : World} {lo hi lo2 hi2 : ByteArray} {k : Nat} (h : Two w lo hi lo2 hi2 k W) : W.cell? ⟨w.heap.size, 0, none⟩ = some (.string lo) ∧ W.cell? ⟨w.heap.size, 1, none⟩ = some (.string hi) ∧ W.cell? ⟨k, 0, none⟩ = some (.string lo2) ∧ W.cell? ⟨k, 1, none⟩ = some (.string hi2) :=
  ⟨blk_cell (j := 0) h.a rfl, blk_cell (j := 1) h.a rfl, blk_cell (j := 0) h.b rfl, blk_cell (j := 1) h.b rfl⟩
theorem Two.start {w W : World} {lo hi : ByteArray} (h : Below (boxW w lo hi).heap.size (boxW w lo hi) W) (lo2 hi2 : ByteArray) : Two w lo hi lo2 hi2 W.heap.size (boxW W lo2 hi2) := by
  have h0 := heap_alloc_new w (.cells #[.string lo, .string hi] 37)
  have h1 := (h.block w.heap.size (by simp)).trans h0
  exact ⟨(Below.heap_alloc _ _ _ (lt_of_block h1)).trans h1, heap_alloc_new W _, (box_below h).alloc (box_below h).size _⟩

set_option maxHeartbeats 2000000 in
theorem texts_yes (lo hi : ByteArray) (w : World) (h1 : lo.size ≤ 3000) (h2 : hi.size ≤ 3000) (hs : spanB lo.data.toList hi.data.toList = true) :
    Calls Try.prog 9 #[spv lo hi] w fun e w' => e = .returned (.bool true) ∧ Below w.heap.size w w' := by
  have m1 : lo.size ≤ maxLen := by unfold maxLen; omega
  have m2 : hi.size ≤ maxLen := by unfold maxLen; omega
  have G : Hid (Says 27 #[spv lo hi] (.bool false)) := Lib.hid (by
    have h := sgreat_any lo hi m1 m2
    rwa [decide_eq_false (by omega), decide_eq_false (by omega)] at h)
  have FX := Lib.hid sfixed_any
  have T := Lib.hid (text_any lo hi m1 m2 hs)
  have RT := Lib.hid (rtext_any lo hi h1 h2)
  have RM : Hid (Says 30 #[spv lo hi] (.bool true)) := Lib.hid (by have h := rspanMay_any lo hi m1 m2; rwa [hs] at h)
  have tz := textA_size hs
  have RD : Hid (Says 34 #[.string (textA lo hi)] (rd lo hi true)) := Lib.hid (by
    have h := read_yes (textA lo hi) (by omega) (p := lo.data.toList) (q := hi.data.toList) (by rw [textA_list]; exact read_text hs)
    exact h.1)
  obtain ⟨X, hX⟩ : ∃ X, X = textA lo hi := ⟨_, rfl⟩
  rw [← hX] at T RT RD
  clear m1 m2 h1 h2 hs tz hX
  have R := Lib.hid (Below.refl (boxW w lo hi).heap.size (boxW w lo hi))
  go_enter Try.func9, Try.ntmps9
  go_wp2_with fail
  go_at_call 27; refine (G.out _).mono ?_; rintro e w1 ⟨rfl, hb⟩; have R := Lib.hid (bstep R.out hb); clear hb; obtain ⟨c0, c1⟩ := box_cells R.out
  go_wp2_with fail
  go_at_call 33; refine (T.out _).mono ?_; rintro e w2 ⟨rfl, hb⟩; clear c0 c1; have R := Lib.hid (bstep R.out hb); clear hb; obtain ⟨c0, c1⟩ := box_cells R.out
  go_wp2_with fail
  go_at_call 30; refine (RM.out _).mono ?_; rintro e w3 ⟨rfl, hb⟩; clear c0 c1; have R := Lib.hid (bstep R.out hb); clear hb; obtain ⟨c0, c1⟩ := box_cells R.out
  go_wp2_with fail
  go_at_call 34; refine (RD.out _).mono ?_; rintro e w4 ⟨rfl, hb⟩; clear c0 c1; have R := Lib.hid (bstep R.out hb); clear hb
  have Q := Lib.hid (Two.start R.out lo hi)
  go_wp2_with fail
  go_at_call 28; refine (FX.out _).mono ?_; rintro e w5 ⟨rfl, hb⟩; have Q := Lib.hid (Q.out.step hb); clear hb; obtain ⟨c0, c1, d0, d1⟩ := Q.out.cells
  go_wp2_with fail
  go_at_call 35; refine (RT.out _).mono ?_; rintro e w6 ⟨rfl, hb⟩; clear c0 c1 d0 d1; have Q := Lib.hid (Q.out.step hb); clear hb; obtain ⟨c0, c1, d0, d1⟩ := Q.out.cells
  go_wp2_with fail
  go_ret
  exact ⟨rfl, Q.out.below⟩

set_option maxHeartbeats 2000000 in
theorem texts_no (lo hi : ByteArray) (w : World) (h1 : lo.size ≤ 3000) (h2 : hi.size ≤ 3000) (hs : spanB lo.data.toList hi.data.toList = false) :
    Calls Try.prog 9 #[spv lo hi] w fun e w' => e = .returned (.bool true) ∧ Below w.heap.size w w' := by
  have m1 : lo.size ≤ maxLen := by unfold maxLen; omega
  have m2 : hi.size ≤ maxLen := by unfold maxLen; omega
  have G : Hid (Says 27 #[spv lo hi] (.bool false)) := Lib.hid (by
    have h := sgreat_any lo hi m1 m2
    rwa [decide_eq_false (by omega), decide_eq_false (by omega)] at h)
  have FX := Lib.hid sfixed_any
  have T := Lib.hid (text_no lo hi m1 m2 hs)
  have RM : Hid (Says 30 #[spv lo hi] (.bool false)) := Lib.hid (by have h := rspanMay_any lo hi m1 m2; rwa [hs] at h)
  clear m1 m2 h1 h2 hs
  have R := Lib.hid (Below.refl (boxW w lo hi).heap.size (boxW w lo hi))
  go_enter Try.func9, Try.ntmps9
  go_wp2_with fail
  go_at_call 27; refine (G.out _).mono ?_; rintro e w1 ⟨rfl, hb⟩; have R := Lib.hid (bstep R.out hb); clear hb; obtain ⟨c0, c1⟩ := box_cells R.out
  go_wp2_with fail
  go_at_call 33; refine (T.out _).mono ?_; rintro e w2 ⟨rfl, hb⟩; clear c0 c1; have R := Lib.hid (bstep R.out hb); clear hb; obtain ⟨c0, c1⟩ := box_cells R.out
  go_wp2_with fail
  go_at_call 30; refine (RM.out _).mono ?_; rintro e w3 ⟨rfl, hb⟩; clear c0 c1; have R := Lib.hid (bstep R.out hb); clear hb; obtain ⟨c0, c1⟩ := box_cells R.out
  go_wp2_with fail
  go_at_call 28; refine (FX.out _).mono ?_; rintro e w4 ⟨rfl, hb⟩; clear c0 c1; have R := Lib.hid (bstep R.out hb); clear hb
  go_wp2_with fail
  go_ret
  exact ⟨rfl, box_below R.out⟩
set_option maxHeartbeats 1000000 in
theorem texts_great (lo hi : ByteArray) (w : World) (h1 : lo.size ≤ maxLen) (h2 : hi.size ≤ maxLen) (h : (decide (3000 < lo.size) || decide (3000 < hi.size)) = true) :
    Calls Try.prog 9 #[spv lo hi] w fun e w' => e = .returned (.bool true) ∧ Below w.heap.size w w' := by
  have G := Lib.hid (sgreat_any lo hi h1 h2)
  have FX := Lib.hid sfixed_any
  have R := Lib.hid (Below.refl (boxW w lo hi).heap.size (boxW w lo hi))
  rw [h] at G
  clear h1 h2 h
  go_enter Try.func9, Try.ntmps9
  go_wp2_with fail
  go_at_call 27; refine (G.out _).mono ?_; rintro e w1 ⟨rfl, hb⟩; have R := Lib.hid (bstep R.out hb); clear hb
  go_wp2_with fail
  go_at_call 28; refine (FX.out _).mono ?_; rintro e w2 ⟨rfl, hb⟩; have R := Lib.hid (bstep R.out hb); clear hb
  go_wp2_with fail
  go_ret
  exact ⟨rfl, box_below R.out⟩
theorem law_spantexts (lo hi : ByteArray) (w : World) (h1 : lo.size ≤ maxLen) (h2 : hi.size ≤ maxLen) :
    Calls Try.prog 9 #[spv lo hi] w fun e w' => e = .returned (.bool true) ∧ Below w.heap.size w w' := by
  cases hg : (decide (3000 < lo.size) || decide (3000 < hi.size)) with
  | true => exact texts_great lo hi w h1 h2 hg
  | false =>
    have := great_parts lo hi hg
    cases hs : spanB lo.data.toList hi.data.toList with
    | true => exact texts_yes lo hi w this.1 this.2 hs
    | false => exact texts_no lo hi w this.1 this.2 hs

/-! ### SpanReads -/
set_option maxHeartbeats 2000000 in
theorem reads_yes (t p q : ByteArray) (w : World) (ht : t.size ≤ 3000) (h : readOk t.data.toList = some (p.data.toList, q.data.toList)) :
    Calls Try.prog 10 #[.string t] w fun e w' => e = .returned (.bool true) ∧ Below w.heap.size w w' := by
  obtain ⟨h1, h2, h3⟩ := read_yes t ht h
  have RD : Hid (Says 34 #[.string t] (rd p q true)) := Lib.hid h1
  have RR : Hid (Says 36 #[.string t] (rd p q true)) := Lib.hid (rread_yes t ht h)
  have FX := Lib.hid sfixed_any
  have sm := span_small h2
  rw [len_list, len_list] at sm
  have T := Lib.hid (text_any p q (by unfold maxLen; omega) (by unfold maxLen; omega) h2)
  have hx : ((textA p q).toList == t.toList) = true := by rw [Lib.toList_data, Lib.toList_data, textA_list, h3]; exact beq_self_eq_true _
  obtain ⟨X, hX⟩ : ∃ X, X = textA p q := ⟨_, rfl⟩
  rw [← hX] at T hx
  have ht' : (t.size : Int) ≤ 3000 := by omega
  clear h1 h2 h3 sm h hX ht
  go_enter Try.func10, Try.ntmps10
  go_wp2_with fail
  go_at_call 34; refine (RD.out _).mono ?_; rintro e w1 ⟨rfl, hb⟩; have HB := Lib.hid hb; clear hb
  have R := Lib.hid (Below.refl (boxW w1 p q).heap.size (boxW w1 p q))
  go_wp2_with fail
  go_at_call 36; refine (RR.out _).mono ?_; rintro e w2 ⟨rfl, hb⟩; have R := Lib.hid (bstep R.out hb); clear hb
  have Q := Lib.hid (Two.start R.out p q)
  go_wp2_with fail
  go_at_call 28; refine (FX.out _).mono ?_; rintro e w3 ⟨rfl, hb⟩; have Q := Lib.hid (Q.out.step hb); clear hb; obtain ⟨c0, c1, d0, d1⟩ := Q.out.cells
  go_wp2_with fail
  go_at_call 33; refine (T.out _).mono ?_; rintro e w4 ⟨rfl, hb⟩; clear c0 c1 d0 d1; have Q := Lib.hid (Q.out.step hb); clear hb
  go_wp2_with fail
  go_ret
  exact ⟨rfl, bstep HB.out Q.out.below⟩
set_option maxHeartbeats 2000000 in
theorem reads_no (t : ByteArray) (w : World) (ht : t.size ≤ 3000) (h : readOk t.data.toList = none) :
    Calls Try.prog 10 #[.string t] w fun e w' => e = .returned (.bool true) ∧ Below w.heap.size w w' := by
  obtain ⟨x, y, h2⟩ := rread_no t ht h
  have RD : Hid (Says 34 #[.string t] (rd ⟨#[]⟩ ⟨#[]⟩ false)) := Lib.hid (read_not t ht h)
  have RR : Hid (Says 36 #[.string t] (rd x y false)) := Lib.hid h2
  have FX := Lib.hid sfixed_any
  have ht' : (t.size : Int) ≤ 3000 := by omega
  clear h2 h ht
  go_enter Try.func10, Try.ntmps10
  go_wp2_with fail
  go_at_call 34; refine (RD.out _).mono ?_; rintro e w1 ⟨rfl, hb⟩; have HB := Lib.hid hb; clear hb
  have R := Lib.hid (Below.refl (boxW w1 ⟨#[]⟩ ⟨#[]⟩).heap.size (boxW w1 ⟨#[]⟩ ⟨#[]⟩))
  go_wp2_with fail
  go_at_call 36; refine (RR.out _).mono ?_; rintro e w2 ⟨rfl, hb⟩; have R := Lib.hid (bstep R.out hb); clear hb
  have Q := Lib.hid (Two.start R.out x y)
  go_wp2_with fail
  go_at_call 28; refine (FX.out _).mono ?_; rintro e w3 ⟨rfl, hb⟩; have Q := Lib.hid (Q.out.step hb); clear hb; obtain ⟨c0, c1, d0, d1⟩ := Q.out.cells
  go_wp2_with fail
  go_ret
  exact ⟨rfl, bstep HB.out Q.out.below⟩
set_option maxHeartbeats 1000000 in
theorem reads_great (t : ByteArray) (w : World) (ht : t.size ≤ maxLen) (h : 3000 < t.size) :
    Calls Try.prog 10 #[.string t] w fun e w' => e = .returned (.bool true) ∧ Below w.heap.size w w' := by
  have FX := Lib.hid sfixed_any
  have ht' : (t.size : Int) ≤ 9223372036854775807 := by unfold maxLen at ht; omega
  have h' : 3000 < (t.size : Int) := by omega
  clear ht h
  go_enter Try.func10, Try.ntmps10
  go_wp2_with fail
  go_at_call 28; refine (FX.out _).mono ?_; rintro e w2 ⟨rfl, hb⟩; have HB := Lib.hid hb; clear hb
  go_wp2_with fail
  go_ret
  exact ⟨rfl, HB.out⟩
theorem law_spanreads (t : ByteArray) (w : World) (ht : t.size ≤ maxLen) :
    Calls Try.prog 10 #[.string t] w fun e w' => e = .returned (.bool true) ∧ Below w.heap.size w w' := by
  by_cases h : 3000 < t.size
  · exact reads_great t w ht h
  · cases hr : readOk t.data.toList with
    | none => exact reads_no t w (by omega) hr
    | some pq => exact reads_yes t (bs pq.1) (bs pq.2) w (by omega) hr

end Go.Proofs.Ytdmobdiffobdkaa.Ver
