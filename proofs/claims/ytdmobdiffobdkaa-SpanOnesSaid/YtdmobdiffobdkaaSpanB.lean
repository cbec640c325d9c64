/- Spans: the document's May, and which versions are in one. -/
import Derived.Test.YtdmobdiffobdkaaSpanA
namespace Go.Proofs.Ytdmobdiffobdkaa.Ver
set_option linter.unusedVariables false
open Go.RowKit Go.Shelf

theorem less_turn (a b : ByteArray) (ha : a.size ≤ maxLen) (hb : b.size ≤ maxLen) : Says 24 #[.string b, .string a] (.bool (decide (0 < cmpV a.data.toList b.data.toList))) := fun w => by
  have h := less_any b a w hb ha
  rw [ord_v.anti] at h
  have e : decide (-cmpV a.data.toList b.data.toList < 0) = decide (0 < cmpV a.data.toList b.data.toList) := by congr 1; simp
  rwa [e] at h

theorem npos (x : Int) : (!decide (0 < x)) = decide (x ≤ 0) := by rw [Bool.eq_iff_iff]; simp
theorem nneg (x : Int) : (!decide (x < 0)) = decide (0 ≤ x) := by rw [Bool.eq_iff_iff]; simp

set_option maxHeartbeats 1000000 in
theorem rspanMay_any (lo hi : ByteArray) (hlo : lo.size ≤ maxLen) (hhi : hi.size ≤ maxLen) : Says 30 #[spv lo hi] (.bool (spanB lo.data.toList hi.data.toList)) := fun w => by
  have B1 := Lib.hid (bound_any lo hlo)
  have B2 := Lib.hid (bound_any hi hhi)
  have C := Lib.hid (less_turn lo hi hlo hhi)
  have R := Lib.hid (Below.refl (boxW w lo hi).heap.size (boxW w lo hi))
  clear hlo hhi
  go_enter Try.func30, Try.ntmps30
  go_wp2_with (first
    | (go_at_call 54; (with_reducible refine (B1.out _).mono ?_); clear B1; rintro e w1 ⟨rfl, hb⟩; have R := Lib.hid (bstep R.out hb); clear hb; obtain ⟨c0, c1⟩ := box_cells R.out)
    | (go_at_call 54; (with_reducible refine (B2.out _).mono ?_); rintro e w1 ⟨rfl, hb⟩; have R := Lib.hid (bstep R.out hb); clear hb; obtain ⟨c0, c1⟩ := box_cells R.out)
    | (go_at_call 24; (with_reducible refine (C.out _).mono ?_); rintro e w1 ⟨rfl, hb⟩; have R := Lib.hid (bstep R.out hb); clear hb; obtain ⟨c0, c1⟩ := box_cells R.out))
  all_goals (go_ret; refine ⟨ret_bool ?_, box_below R.out⟩)
  all_goals clear C R
  all_goals try simp only [Lib.toList_data] at *
  all_goals simp_all [spanB, npos]

set_option maxHeartbeats 1000000 in
theorem has_any (lo hi v : ByteArray) (hlo : lo.size ≤ maxLen) (hhi : hi.size ≤ maxLen) (hv : v.size ≤ maxLen) : Says 31 #[spv lo hi, .string v] (.bool (hasB lo.data.toList hi.data.toList v.data.toList)) := fun w => by
  have S := Lib.hid (spanMay_any lo hi hlo hhi)
  have M := Lib.hid (fun w => may_any v w hv)
  have L := Lib.hid (lower_any v lo hv hlo)
  have H := Lib.hid (higher_any v hi hv hhi)
  have R := Lib.hid (Below.refl (boxW w lo hi).heap.size (boxW w lo hi))
  clear hlo hhi hv
  go_enter Try.func31, Try.ntmps31
  go_wp2_with (first
    | (go_at_call 29; (with_reducible refine (S.out _).mono ?_); rintro e w1 ⟨rfl, hb⟩; have R := Lib.hid (bstep R.out hb); clear hb; obtain ⟨c0, c1⟩ := box_cells R.out)
    | (go_at_call 16; (with_reducible refine (M.out _).mono ?_); rintro e w1 ⟨rfl, hb⟩; have R := Lib.hid (bstep R.out hb); clear hb; obtain ⟨c0, c1⟩ := box_cells R.out)
    | (go_at_call 55; (with_reducible refine (L.out _).mono ?_); rintro e w1 ⟨rfl, hb⟩; have R := Lib.hid (bstep R.out hb); clear hb; obtain ⟨c0, c1⟩ := box_cells R.out)
    | (go_at_call 56; (with_reducible refine (H.out _).mono ?_); rintro e w1 ⟨rfl, hb⟩; have R := Lib.hid (bstep R.out hb); clear hb; obtain ⟨c0, c1⟩ := box_cells R.out))
  all_goals (go_ret; refine ⟨ret_bool ?_, box_below R.out⟩)
  all_goals clear S M L H R
  all_goals try simp only [Lib.toList_data] at *
  all_goals simp_all [hasB]

set_option maxHeartbeats 1000000 in
theorem rhas_any (lo hi v : ByteArray) (hlo : lo.size ≤ maxLen) (hhi : hi.size ≤ maxLen) (hv : v.size ≤ maxLen) : Says 32 #[spv lo hi, .string v] (.bool (hasB lo.data.toList hi.data.toList v.data.toList)) := fun w => by
  have S := Lib.hid (rspanMay_any lo hi hlo hhi)
  have M := Lib.hid (fun w => rmay_any v w hv)
  have L := Lib.hid (fun w => less_any v lo w hv hlo)
  have H := Lib.hid (less_turn v hi hv hhi)
  have LV := @lower_v v.data.toList lo.data.toList
  have HV := @higher_v v.data.toList hi.data.toList
  have LV := Lib.hid LV
  have HV := Lib.hid HV
  have R := Lib.hid (Below.refl (boxW w lo hi).heap.size (boxW w lo hi))
  clear hlo hhi hv
  go_enter Try.func32, Try.ntmps32
  go_wp2_with (first
    | (go_at_call 30; (with_reducible refine (S.out _).mono ?_); rintro e w1 ⟨rfl, hb⟩; have R := Lib.hid (bstep R.out hb); clear hb; obtain ⟨c0, c1⟩ := box_cells R.out)
    | (go_at_call 17; (with_reducible refine (M.out _).mono ?_); rintro e w1 ⟨rfl, hb⟩; have R := Lib.hid (bstep R.out hb); clear hb; obtain ⟨c0, c1⟩ := box_cells R.out)
    | (go_at_call 24; (with_reducible refine (L.out _).mono ?_); clear L; rintro e w1 ⟨rfl, hb⟩; have R := Lib.hid (bstep R.out hb); clear hb; obtain ⟨c0, c1⟩ := box_cells R.out)
    | (go_at_call 24; (with_reducible refine (H.out _).mono ?_); rintro e w1 ⟨rfl, hb⟩; have R := Lib.hid (bstep R.out hb); clear hb; obtain ⟨c0, c1⟩ := box_cells R.out))
  all_goals (go_ret; refine ⟨ret_bool ?_, box_below R.out⟩)
  all_goals have LV1 := LV.out
  all_goals have HV1 := HV.out
  all_goals clear S M H R LV HV
  all_goals try simp only [Lib.toList_data] at *
  all_goals unfold hasB
  all_goals simp_all

end Go.Proofs.Ytdmobdiffobdkaa.Ver
