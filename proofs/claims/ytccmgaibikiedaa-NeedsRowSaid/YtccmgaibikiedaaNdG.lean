/- What may be needed: the example walked; two rows of numbers are the same. -/
import Derived.Test.YtccmgaibikiedaaNdF
namespace Go.Proofs.Ytccmgaibikiedaa.Dc
open Go.RowKit
set_option linter.unusedVariables false
set_option linter.unusedSimpArgs false
abbrev ExW (w : World) : World := ((((w.alloc (.cells e0 75)).alloc (.cells (e1 w) 77)).alloc (.cells (e2 w) 45)).alloc (.cells (e3 w) 25)).alloc (.cells e4 72)
theorem ex_boxes (w : World) : Bxs w [(e0, 75), (e1 w, 77), (e2 w, 45), (e3 w, 25), (e4, 72)] (ExW w) :=
  (((((Bxs.nil w).push (by simp) e0 75).push (by simp) (e1 w) 77).push (by simp) (e2 w) 45).push (by simp) (e3 w) 25).push (by simp) e4 72
set_option maxHeartbeats 2000000 in
set_option maxRecDepth 100000 in
theorem fixed10_any (w : World) : Calls Try.prog 21 #[] w fun e w' => e = .returned (.bool true) ∧ Below w.heap.size w w' := by
  have HB := Lib.hid (ex_boxes w)
  have C1 : Hid (Calls Try.prog 46 #[.agg #[.slice (some ⟨w.heap.size + 1 + 1, 0, none⟩) 3 3, .slice none 0 0], .agg #[.slice (some ⟨w.heap.size + 1 + 1 + 1 + 1, 0, none⟩) 1 1]] (ExW w) (IntsEnd [1, 2] (ExW w))) := Lib.hid (by
    have h := closure_any (ex_rc HB.out) (ex_rq HB.out) (by decide)
    rw [ex_clos] at h
    exact h)
  go_enter Try.func21, Try.ntmps21
  go_wp2_with (go_at_call 46; refine C1.out.mono ?_; rintro e v1 ⟨A, n, c, rfl, hn, hown, hb⟩; obtain rfl : n = 2 := hn; obtain ⟨g, z, rfl, y0, hz⟩ := own_at hown rfl (show 0 < 2 by decide); obtain rfl : z = 1 := hz; obtain ⟨g', z', hg, y1, hz'⟩ := own_at hown rfl (show 1 < 2 by decide); obtain rfl : z' = 2 := hz'; injection hg with hg; injection hg with hg; subst hg; have BZ := Lib.hid (HB.out.below.trans (hb.mono HB.out.below.size)); clear hb hown)
  go_ret
  exact ⟨rfl, BZ.out⟩
set_option maxHeartbeats 2000000 in
set_option maxRecDepth 100000 in
theorem same_any {w : World} {b1 b2 n c d : Nat} {A B : Option Addr} {l : List Int} (h1 : w.ownsRow b1 3 1 (.slice A n c) n (intsV l)) (h2 : w.ownsRow b2 3 1 (.slice B n d) n (intsV l)) (hn : n = l.length) :
    Calls Try.prog 26 #[.slice A n c, .slice B n d] w fun e w' => e = .returned (.bool true) ∧ Below w.heap.size w w' := by
  have n5 : (n : Int) ≤ 9223372036854775807 := own_63 h1
  have H1 := Lib.hid h1
  have H2 := Lib.hid h2
  have HN := Lib.hid hn
  clear h1 h2 hn
  go_enter Try.func26, Try.ntmps26
  go_wp2_with fail
  go_loopw [5, 13] (fun _ v wq => ∃ i : Nat, v = .int .i64 i ∧ i ≤ n ∧ Below w.heap.size w wq) (fun _ v _ => n - (RowKit.intOf v).toNat)
  case atStart => exact ⟨0, rfl, Nat.zero_le _, Below.refl _ _⟩
  case round =>
    obtain ⟨i, rfl, hi, hbw⟩ := hrel
    have BV := Lib.hid hbw
    have O3 := Lib.hid (keep2 H1.out hbw)
    have O4 := Lib.hid (keep2 H2.out hbw)
    clear hbw
    by_cases hlt : i < n
    · have hlt' : (i : Int) < (n : Int) := by omega
      obtain ⟨g1, y, rfl, x0, hy⟩ := own_at O3.out HN.out hlt
      obtain ⟨g2, y', rfl, x1, hy'⟩ := own_at O4.out HN.out hlt
      obtain rfl : y' = y := hy'.trans hy.symm
      have BD := Lib.hid BV.out.drew
      clear hy hy'
      go_wp2_with fail
      go_region_held3 (fun W' => W'.cell? ⟨g1, i, none⟩ = some (.int .i64 y') ∧ W'.cell? ⟨g2, i, none⟩ = some (.int .i64 y')) (go_keep) (fail)
      go_wp2_with fail
      go_roundw
      case rel => exact ⟨i + 1, by go_num, by omega, BD.out⟩
      case measure => simp [RowKit.intOf]; omega
    · go_wp2_with fail
      go_ret
      exact ⟨rfl, BV.out⟩

end Go.Proofs.Ytccmgaibikiedaa.Dc
