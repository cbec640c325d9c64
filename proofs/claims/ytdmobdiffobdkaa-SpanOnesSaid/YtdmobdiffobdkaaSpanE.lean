/- Spans: the chapter's example, and the law SpanHas. -/
import Derived.Test.YtdmobdiffobdkaaSpanD
import Derived.Deep.RegionHeld3
namespace Go.Proofs.Ytdmobdiffobdkaa.Ver
set_option linter.unusedVariables false
open Go.RowKit Go.Shelf

theorem sgreat_any (lo hi : ByteArray) (hlo : lo.size ≤ maxLen) (hhi : hi.size ≤ maxLen) : Says 27 #[spv lo hi] (.bool (decide (3000 < lo.size) || decide (3000 < hi.size))) := fun w => by
  have R := Lib.hid (Below.refl (boxW w lo hi).heap.size (boxW w lo hi))
  have h1 : (lo.size : Int) ≤ 9223372036854775807 := by unfold maxLen at hlo; omega
  have h2 : (hi.size : Int) ≤ 9223372036854775807 := by unfold maxLen at hhi; omega
  have e1 : Hid (decide (3000 < (lo.size : Int)) = decide (3000 < lo.size)) := Lib.hid (by congr 1; simp; omega)
  have e2 : Hid (decide (3000 < (hi.size : Int)) = decide (3000 < hi.size)) := Lib.hid (by congr 1; simp; omega)
  clear hlo hhi
  go_enter Try.func27, Try.ntmps27
  go_wp2_with fail
  all_goals (go_ret; refine ⟨ret_bool ?_, box_below R.out⟩)
  all_goals rw [← e1.out, ← e2.out]
  all_goals clear R e1 e2
  all_goals simp_all

theorem has_lit {lo hi v : ByteArray} {b : Bool} (h1 : lo.size ≤ maxLen) (h2 : hi.size ≤ maxLen) (h3 : v.size ≤ maxLen) (h : hasB lo.data.toList hi.data.toList v.data.toList = b) : Says 31 #[spv lo hi, .string v] (.bool b) := by
  have := has_any lo hi v h1 h2 h3
  rwa [h] at this
set_option maxHeartbeats 2000000 in
theorem sfixed_any : Says 28 #[] (.bool true) := fun w => by
  have RD : Hid (Says 34 #[.string ⟨#[49, 58, 50]⟩] (rd ⟨#[49]⟩ ⟨#[50]⟩ true)) := Lib.hid (read_yes ⟨#[49, 58, 50]⟩ (by decide) (p := [49]) (q := [50]) (by decide +kernel)).1
  have A1 : Hid (Says 31 #[spv ⟨#[49]⟩ ⟨#[50]⟩, .string ⟨#[49]⟩] (.bool true)) := Lib.hid (has_lit (by decide) (by decide) (by decide) (by decide +kernel))
  have A2 : Hid (Says 31 #[spv ⟨#[49]⟩ ⟨#[50]⟩, .string ⟨#[49, 46, 53]⟩] (.bool true)) := Lib.hid (has_lit (by decide) (by decide) (by decide) (by decide +kernel))
  have A3 : Hid (Says 31 #[spv ⟨#[49]⟩ ⟨#[50]⟩, .string ⟨#[50]⟩] (.bool true)) := Lib.hid (has_lit (by decide) (by decide) (by decide) (by decide +kernel))
  have A4 : Hid (Says 31 #[spv ⟨#[49]⟩ ⟨#[50]⟩, .string ⟨#[50, 46, 48]⟩] (.bool false)) := Lib.hid (has_lit (by decide) (by decide) (by decide) (by decide +kernel))
  go_enter Try.func28, Try.ntmps28
  go_wp2_with fail
  go_at_call 34; refine (RD.out _).mono ?_; rintro e w1 ⟨rfl, hb⟩
  have HB := Lib.hid hb; clear hb
  have R := Lib.hid (Below.refl (boxW w1 ⟨#[49]⟩ ⟨#[50]⟩).heap.size (boxW w1 ⟨#[49]⟩ ⟨#[50]⟩))
  go_wp2_with fail
  go_at_call 31; refine (A1.out _).mono ?_; rintro e w2 ⟨rfl, hb⟩; have R := Lib.hid (bstep R.out hb); clear hb; obtain ⟨c0, c1⟩ := box_cells R.out
  go_wp2_with fail
  go_at_call 31; refine (A2.out _).mono ?_; rintro e w3 ⟨rfl, hb⟩; have R := Lib.hid (bstep R.out hb); clear hb; obtain ⟨c0, c1⟩ := box_cells R.out
  go_wp2_with fail
  go_at_call 31; refine (A3.out _).mono ?_; rintro e w4 ⟨rfl, hb⟩; have R := Lib.hid (bstep R.out hb); clear hb; obtain ⟨c0, c1⟩ := box_cells R.out
  go_wp2_with fail
  go_at_call 31; refine (A4.out _).mono ?_; rintro e w5 ⟨rfl, hb⟩; have R := Lib.hid (bstep R.out hb); clear hb
  go_wp2_with fail
  go_ret
  exact ⟨rfl, bstep HB.out (box_below R.out)⟩

set_option maxHeartbeats 2000000 in
theorem spanhas_go (lo hi v : ByteArray) (w : World) (h1 : lo.size ≤ 3000) (h2 : hi.size ≤ 3000) (h3 : v.size ≤ 3000) :
    Calls Try.prog 8 #[spv lo hi, .string v] w fun e w' => e = .returned (.bool true) ∧ Below w.heap.size w w' := by
  have m1 : lo.size ≤ maxLen := by unfold maxLen; omega
  have m2 : hi.size ≤ maxLen := by unfold maxLen; omega
  have m3 : v.size ≤ maxLen := by unfold maxLen; omega
  have G : Hid (Says 27 #[spv lo hi] (.bool false)) := Lib.hid (by
    have h := sgreat_any lo hi m1 m2
    rwa [decide_eq_false (by omega), decide_eq_false (by omega)] at h)
  have FX := Lib.hid sfixed_any
  have M := Lib.hid (spanMay_any lo hi m1 m2)
  have RM := Lib.hid (rspanMay_any lo hi m1 m2)
  have H := Lib.hid (has_any lo hi v m1 m2 m3)
  have RH := Lib.hid (rhas_any lo hi v m1 m2 m3)
  have h3' : (v.size : Int) ≤ 3000 := by omega
  clear m1 m2 m3 h1 h2 h3
  have R := Lib.hid (Below.refl (boxW w lo hi).heap.size (boxW w lo hi))
  go_enter Try.func8, Try.ntmps8
  go_wp2_with fail
  go_at_call 27; refine (G.out _).mono ?_; rintro e w1 ⟨rfl, hb⟩; have R := Lib.hid (bstep R.out hb); clear hb; obtain ⟨c0, c1⟩ := box_cells R.out
  go_wp2_with fail
  have R := Lib.hid R.out.drew
  go_region_held3 (fun W' => W'.cell? ⟨w.heap.size, 0, none⟩ = some (.string lo) ∧ W'.cell? ⟨w.heap.size, 1, none⟩ = some (.string hi))
    (first | exact ⟨c0, c1⟩ | go_keep)
    (first
      | (go_at_call 28; (with_reducible refine (FX.out _).mono ?_); rintro e w1 ⟨rfl, hb⟩; have R := Lib.hid (bstep R.out hb); clear hb; obtain ⟨c0, c1⟩ := box_cells R.out)
      | (go_at_call 29; (with_reducible refine (M.out _).mono ?_); rintro e w1 ⟨rfl, hb⟩; have R := Lib.hid (bstep R.out hb); clear hb; obtain ⟨c0, c1⟩ := box_cells R.out)
      | (go_at_call 30; (with_reducible refine (RM.out _).mono ?_); rintro e w1 ⟨rfl, hb⟩; have R := Lib.hid (bstep R.out hb); clear hb; obtain ⟨c0, c1⟩ := box_cells R.out)
      | (go_at_call 31; (with_reducible refine (H.out _).mono ?_); rintro e w1 ⟨rfl, hb⟩; have R := Lib.hid (bstep R.out hb); clear hb; obtain ⟨c0, c1⟩ := box_cells R.out)
      | (go_at_call 32; (with_reducible refine (RH.out _).mono ?_); rintro e w1 ⟨rfl, hb⟩; have R := Lib.hid (bstep R.out hb); clear hb; obtain ⟨c0, c1⟩ := box_cells R.out))
  go_wp2_with fail
  go_ret
  exact ⟨rfl, box_below R.out⟩

/-- too great: the chapter's example alone. -/
theorem great_parts (lo hi : ByteArray) : (decide (3000 < lo.size) || decide (3000 < hi.size)) = false → lo.size ≤ 3000 ∧ hi.size ≤ 3000 := fun h => by
  simp at h; omega
set_option maxHeartbeats 1000000 in
theorem spanhas_great (lo hi v : ByteArray) (w : World) (h1 : lo.size ≤ maxLen) (h2 : hi.size ≤ maxLen) (h3 : v.size ≤ maxLen) (h : (decide (3000 < lo.size) || decide (3000 < hi.size)) = true ∨ 3000 < v.size) :
    Calls Try.prog 8 #[spv lo hi, .string v] w fun e w' => e = .returned (.bool true) ∧ Below w.heap.size w w' := by
  have G := Lib.hid (sgreat_any lo hi h1 h2)
  have FX := Lib.hid sfixed_any
  have h3' : (v.size : Int) ≤ 9223372036854775807 := by unfold maxLen at h3; omega
  have R := Lib.hid (Below.refl (boxW w lo hi).heap.size (boxW w lo hi))
  clear h1 h2 h3
  cases hg : (decide (3000 < lo.size) || decide (3000 < hi.size)) with
  | true =>
    rw [hg] at G
    clear h hg
    go_enter Try.func8, Try.ntmps8
    go_wp2_with fail
    go_at_call 27; refine (G.out _).mono ?_; rintro e w1 ⟨rfl, hb⟩; have R := Lib.hid (bstep R.out hb); clear hb
    go_wp2_with fail
    go_at_call 28; refine (FX.out _).mono ?_; rintro e w2 ⟨rfl, hb⟩; have R := Lib.hid (bstep R.out hb); clear hb
    go_wp2_with fail
    go_ret
    exact ⟨rfl, box_below R.out⟩
  | false =>
    have hv : 3000 < (v.size : Int) := by rw [hg] at h; simp at h; omega
    rw [hg] at G
    clear h hg
    go_enter Try.func8, Try.ntmps8
    go_wp2_with fail
    go_at_call 27; refine (G.out _).mono ?_; rintro e w1 ⟨rfl, hb⟩; have R := Lib.hid (bstep R.out hb); clear hb
    go_wp2_with fail
    go_at_call 28; refine (FX.out _).mono ?_; rintro e w2 ⟨rfl, hb⟩; have R := Lib.hid (bstep R.out hb); clear hb
    go_wp2_with fail
    go_ret
    exact ⟨rfl, box_below R.out⟩

theorem law_spanhas (lo hi v : ByteArray) (w : World) (h1 : lo.size ≤ maxLen) (h2 : hi.size ≤ maxLen) (h3 : v.size ≤ maxLen) :
    Calls Try.prog 8 #[spv lo hi, .string v] w fun e w' => e = .returned (.bool true) ∧ Below w.heap.size w w' := by
  by_cases h : (decide (3000 < lo.size) || decide (3000 < hi.size)) = true ∨ 3000 < v.size
  · exact spanhas_great lo hi v w h1 h2 h3 h
  · have hg : (decide (3000 < lo.size) || decide (3000 < hi.size)) = false := by
      cases e : (decide (3000 < lo.size) || decide (3000 < hi.size)) with
      | false => rfl
      | true => exact absurd (.inl e) h
    have := great_parts lo hi hg
    exact spanhas_go lo hi v w this.1 this.2 (by omega)

end Go.Proofs.Ytdmobdiffobdkaa.Ver
