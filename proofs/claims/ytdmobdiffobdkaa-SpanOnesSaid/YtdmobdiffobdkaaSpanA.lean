/- Spans: whether one may be, and how bounds stand to each other. -/
import Derived.Test.YtdmobdiffobdkaaVerLess
import Derived.Test.YtdmobdiffobdkaaSpanMath
namespace Go.Proofs.Ytdmobdiffobdkaa.Ver
set_option linter.unusedVariables false
open Go.RowKit Go.Shelf

/-- a call that makes memory of its own and answers this. -/
abbrev Says (f : Nat) (args : Array Value) (v : Value) : Prop := ∀ w, Calls Try.prog f args w fun e w' => e = .returned v ∧ Below w.heap.size w w'
theorem isEmpty_eq (s : ByteArray) : s.toList.isEmpty = s.data.toList.isEmpty := empty_toList s

set_option maxHeartbeats 400000 in
theorem mayBound_any (s : ByteArray) (hs : s.size ≤ maxLen) : Says 53 #[.string s] (.bool (boundB s.data.toList)) := fun w => by
  have M := Lib.hid (fun w => may_any s w hs)
  have R := Lib.hid (Below.refl w.heap.size w)
  clear hs
  go_enter Try.func53, Try.ntmps53
  go_wp2_with (go_at_call 16; refine (M.out _).mono ?_; rintro e w1 ⟨rfl, hb⟩; have R := Lib.hid hb; clear hb)
  all_goals (go_ret; refine ⟨ret_bool ?_, R.out⟩)
  all_goals try simp only [Lib.toList_data] at *
  all_goals simp_all [boundB]
set_option maxHeartbeats 400000 in
theorem bound_any (s : ByteArray) (hs : s.size ≤ maxLen) : Says 54 #[.string s] (.bool (boundB s.data.toList)) := fun w => by
  have M := Lib.hid (fun w => rmay_any s w hs)
  have R := Lib.hid (Below.refl w.heap.size w)
  clear hs
  go_enter Try.func54, Try.ntmps54
  go_wp2_with (go_at_call 17; refine (M.out _).mono ?_; rintro e w1 ⟨rfl, hb⟩; have R := Lib.hid hb; clear hb)
  all_goals (go_ret; refine ⟨ret_bool ?_, R.out⟩)
  all_goals try simp only [Lib.toList_data] at *
  all_goals simp_all [boundB]
set_option maxHeartbeats 400000 in
theorem lower_any (v l : ByteArray) (hv : v.size ≤ maxLen) (hl : l.size ≤ maxLen) : Says 55 #[.string v, .string l] (.bool (lowerB v.data.toList l.data.toList)) := fun w => by
  have M := Lib.hid (fun w => compare_any v l w hv hl)
  have R := Lib.hid (Below.refl w.heap.size w)
  clear hv hl
  go_enter Try.func55, Try.ntmps55
  go_wp2_with (go_at_call 21; refine (M.out _).mono ?_; rintro e w1 ⟨rfl, hb⟩; have R := Lib.hid hb; clear hb)
  all_goals (go_ret; refine ⟨ret_bool ?_, R.out⟩)
  all_goals clear M R
  all_goals try simp only [Lib.toList_data] at *
  all_goals simp_all [lowerB]
set_option maxHeartbeats 400000 in
theorem higher_any (v l : ByteArray) (hv : v.size ≤ maxLen) (hl : l.size ≤ maxLen) : Says 56 #[.string v, .string l] (.bool (higherB v.data.toList l.data.toList)) := fun w => by
  have M := Lib.hid (fun w => compare_any v l w hv hl)
  have R := Lib.hid (Below.refl w.heap.size w)
  clear hv hl
  go_enter Try.func56, Try.ntmps56
  go_wp2_with (go_at_call 21; refine (M.out _).mono ?_; rintro e w1 ⟨rfl, hb⟩; have R := Lib.hid hb; clear hb)
  all_goals (go_ret; refine ⟨ret_bool ?_, R.out⟩)
  all_goals clear M R
  all_goals try simp only [Lib.toList_data] at *
  all_goals simp_all [higherB]

/-! ### a span, boxed -/
abbrev spv (lo hi : ByteArray) : Value := .agg #[.string lo, .string hi]
abbrev boxW (w : World) (lo hi : ByteArray) : World := w.alloc (.cells #[.string lo, .string hi] 37)
theorem box_cells {w w1 : World} {lo hi : ByteArray} (h : Below (boxW w lo hi).heap.size (boxW w lo hi) w1) : w1.cell? ⟨w.heap.size, 0, none⟩ = some (.string lo) ∧ w1.cell? ⟨w.heap.size, 1, none⟩ = some (.string hi) := by
  have h0 := heap_alloc_new w (.cells #[.string lo, .string hi] 37)
  have h1 := (h.block w.heap.size (by simp)).trans h0
  exact ⟨blk_cell (j := 0) h1 rfl, blk_cell (j := 1) h1 rfl⟩
theorem box_below {w w1 : World} {lo hi : ByteArray} (h : Below (boxW w lo hi).heap.size (boxW w lo hi) w1) : Below w.heap.size w w1 :=
  ((Below.refl _ w).alloc (Nat.le_refl _) _).trans (h.mono (by simp))

set_option maxHeartbeats 1000000 in
theorem spanMay_any (lo hi : ByteArray) (hlo : lo.size ≤ maxLen) (hhi : hi.size ≤ maxLen) : Says 29 #[spv lo hi] (.bool (spanB lo.data.toList hi.data.toList)) := fun w => by
  have B1 := Lib.hid (mayBound_any lo hlo)
  have B2 := Lib.hid (mayBound_any hi hhi)
  have C := Lib.hid (fun w => compare_any lo hi w hlo hhi)
  have R := Lib.hid (Below.refl (boxW w lo hi).heap.size (boxW w lo hi))
  clear hlo hhi
  go_enter Try.func29, Try.ntmps29
  go_wp2_with (first
    | (go_at_call 53; refine (B1.out _).mono ?_; clear B1; rintro e w1 ⟨rfl, hb⟩; have R := Lib.hid (bstep R.out hb); clear hb; obtain ⟨c0, c1⟩ := box_cells R.out)
    | (go_at_call 53; refine (B2.out _).mono ?_; rintro e w1 ⟨rfl, hb⟩; have R := Lib.hid (bstep R.out hb); clear hb; obtain ⟨c0, c1⟩ := box_cells R.out)
    | (go_at_call 21; refine (C.out _).mono ?_; rintro e w1 ⟨rfl, hb⟩; have R := Lib.hid (bstep R.out hb); clear hb; obtain ⟨c0, c1⟩ := box_cells R.out))
  all_goals (go_ret; refine ⟨ret_bool ?_, box_below R.out⟩)
  all_goals clear C R
  all_goals try simp only [Lib.toList_data] at *
  all_goals simp_all [spanB]

end Go.Proofs.Ytdmobdiffobdkaa.Ver
