/- Recipes as arguments: which wishes are more than is gone through. -/
import Derived.Test.YtccmgaibikiedaaDcD
namespace Go.Proofs.Ytccmgaibikiedaa.Dc
open Go.RowKit
set_option linter.unusedVariables false
set_option linter.unusedSimpArgs false
theorem gPr_left {s u : ByteArray} (h : 100 < (s.size : Int)) : gPr (s, u) = true := by unfold gPr gText; rw [decide_eq_true (by show 100 < s.size; omega)]; rfl
theorem gPr_right {s u : ByteArray} (h : 100 < (u.size : Int)) : gPr (s, u) = true := by unfold gPr gText; rw [decide_eq_true (p := 100 < u.size) (by omega)]; exact Bool.or_true _
theorem gPr_no {s u : ByteArray} (h : ¬ 100 < (s.size : Int)) (h2 : ¬ 100 < (u.size : Int)) : gPr (s, u) = false := by unfold gPr gText; rw [decide_eq_false (p := 100 < s.size) (by omega), decide_eq_false (p := 100 < u.size) (by omega)]; rfl
set_option maxHeartbeats 4000000 in
set_option maxRecDepth 100000 in
theorem greatSpec_any {w : World} {B : Nat} {x : Sp} {cs : List Value} (h : spD w B cs x) (hB : B ≤ w.heap.size) : Calls Try.prog 55 #[.agg cs.toArray] w fun e w' => e = .returned (.bool (gSp x)) ∧ Below w.heap.size w w' := by
  obtain ⟨A1, n1, c1, A2, n2, c2, rfl, z0, s1, s2⟩ := sp_cells h
  obtain ⟨nm, spans, sets⟩ := x
  simp only [] at z0 s1 s2 ⊢
  unfold maxLen at z0
  have bb : Below B w (w.alloc (.cells #[.string nm, .slice A1 n1 c1, .slice A2 n2 c2] 70)) := (Below.refl B w).alloc hB _
  have S1 := Lib.hid (s1.below pr2_stays (Nat.le_refl B) bb)
  have S2 := Lib.hid (s2.below pr2_stays (Nat.le_refl B) bb)
  have B0 : Hid (Below w.heap.size w (w.alloc (.cells #[.string nm, .slice A1 n1 c1, .slice A2 n2 c2] 70))) := Lib.hid ((Below.refl _ _).alloc (Nat.le_refl _) _)
  have k0 : (w.alloc (.cells #[.string nm, .slice A1 n1 c1, .slice A2 n2 c2] 70)).cell? ⟨w.heap.size, 0, none⟩ = some (.string nm) := blk_cell (heap_alloc_new w _) rfl
  have k1 : (w.alloc (.cells #[.string nm, .slice A1 n1 c1, .slice A2 n2 c2] 70)).cell? ⟨w.heap.size, 1, none⟩ = some (.slice A1 n1 c1) := blk_cell (heap_alloc_new w _) rfl
  have k2 : (w.alloc (.cells #[.string nm, .slice A1 n1 c1, .slice A2 n2 c2] 70)).cell? ⟨w.heap.size, 2, none⟩ = some (.slice A2 n2 c2) := blk_cell (heap_alloc_new w _) rfl
  have n5 := s2.le
  have HN := Lib.hid s2.len
  clear h s1 s2 bb hB
  show Calls Try.prog _ #[.agg #[.string nm, .slice A1 n1 c1, .slice A2 n2 c2]] w _
  by_cases hn : 100 < (nm.size : Int)
  · have R : Hid (gSp ⟨nm, spans, sets⟩ = true) := Lib.hid (by unfold gSp gText; rw [decide_eq_true (p := 100 < nm.size) (by omega)]; simp)
    go_enter Try.func55, Try.ntmps55
    go_wp2_with fail
    go_ret
    rw [R.out]
    exact ⟨rfl, B0.out⟩
  by_cases h20 : 20 < (n2 : Int)
  · have R : Hid (gSp ⟨nm, spans, sets⟩ = true) := Lib.hid (by unfold gSp; rw [decide_eq_true (p := 20 < sets.length) (by rw [← HN.out]; omega)]; simp)
    go_enter Try.func55, Try.ntmps55
    go_wp2_with fail
    go_ret
    rw [R.out]
    exact ⟨rfl, B0.out⟩
  obtain ⟨gs, hgs⟩ : ∃ gs, gs = gSpans spans := ⟨_, rfl⟩
  have GS := Lib.hid hgs
  have R1 : Hid (gSp ⟨nm, spans, sets⟩ = (gs || sets.any gPr)) := Lib.hid (by unfold gSp gText; rw [decide_eq_false (p := 100 < nm.size) (by omega), decide_eq_false (p := 20 < sets.length) (by rw [← HN.out]; omega), hgs]; rfl)
  have CG : Hid (Calls Try.prog 77 #[.slice A1 n1 c1] (w.alloc (.cells #[.string nm, .slice A1 n1 c1, .slice A2 n2 c2] 70)) fun e w' => e = .returned (.bool gs) ∧ (w.alloc (.cells #[.string nm, .slice A1 n1 c1, .slice A2 n2 c2] 70)) = w') := Lib.hid (by rw [hgs]; exact greatSpans_any S1.out)
  clear hgs
  cases gs
  · go_enter Try.func55, Try.ntmps55
    go_wp2_with (go_at_call 77; refine CG.out.mono ?_; rintro e w1 ⟨rfl, rfl⟩)
    go_loopw [3, 22] (fun _ v wq => ∃ i : Nat, v = .int .i64 i ∧ i ≤ n2 ∧ (sets.take i).any gPr = false ∧ wq = (w.alloc (.cells #[.string nm, .slice A1 n1 c1, .slice A2 n2 c2] 70))) (fun _ v _ => n2 - (intOf v).toNat)
    case atStart => exact ⟨0, rfl, Nat.zero_le _, rfl, by first | rfl | trivial⟩
    case round =>
      obtain ⟨i, rfl, hi, hp, rfl⟩ := hrel
      have HP := Lib.hid hp
      clear hp
      by_cases hlt : i < n2
      · have hlt' : (i : Int) < (n2 : Int) := by omega
        obtain ⟨⟨s, u⟩, b, o, t1, rfl, t3, x0, x1, s5, u5⟩ := pr2_at S2.out hlt
        simp only [] at x0 x1 s5 u5
        have T1 := Lib.hid t1
        clear t1
        unfold maxLen at s5 u5
        by_cases hs : 100 < (s.size : Int)
        · have R2 : Hid (gSp ⟨nm, spans, sets⟩ = true) := Lib.hid (by rw [R1.out, any_hit T1.out (gPr_left hs)]; rfl)
          go_wp2_with fail
          go_ret
          rw [R2.out]
          exact ⟨rfl, B0.out⟩
        · by_cases hu : 100 < (u.size : Int)
          · have R2 : Hid (gSp ⟨nm, spans, sets⟩ = true) := Lib.hid (by rw [R1.out, any_hit T1.out (gPr_right hu)]; rfl)
            go_wp2_with fail
            go_ret
            rw [R2.out]
            exact ⟨rfl, B0.out⟩
          · have HP2 : Hid ((sets.take (i + 1)).any gPr = false) := Lib.hid (any_next T1.out HP.out (gPr_no hs hu))
            go_wp2_with fail
            go_roundw
            case rel => exact ⟨i + 1, by go_num, by omega, HP2.out, by first | rfl | trivial⟩
            case measure => simp [intOf]; omega
      · obtain rfl : i = n2 := by omega
        have R2 : Hid (gSp ⟨nm, spans, sets⟩ = false) := Lib.hid (by have h := HP.out; rw [take_all HN.out] at h; rw [R1.out, h]; rfl)
        go_wp2_with fail
        go_ret
        rw [R2.out]
        exact ⟨rfl, B0.out⟩
  · have R2 : Hid (gSp ⟨nm, spans, sets⟩ = true) := Lib.hid (by rw [R1.out]; rfl)
    go_enter Try.func55, Try.ntmps55
    go_wp2_with (go_at_call 77; refine CG.out.mono ?_; rintro e w1 ⟨rfl, rfl⟩)
    go_ret
    rw [R2.out]
    exact ⟨rfl, B0.out⟩

end Go.Proofs.Ytccmgaibikiedaa.Dc
