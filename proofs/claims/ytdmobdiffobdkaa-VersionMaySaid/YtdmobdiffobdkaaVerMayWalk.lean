/- The law VersionMay, walked. -/
import Derived.Test.YtdmobdiffobdkaaVerLawA
namespace Go.Proofs.Ytdmobdiffobdkaa.Ver
set_option linter.unusedVariables false
open Go.RowKit Go.Shelf

set_option maxHeartbeats 2000000 in
theorem law_may (s : ByteArray) (w : World) (hm : s.size ≤ maxLen) :
    Calls Try.prog 3 #[.string s] w fun e w' => e = .returned (.bool true) ∧ Below w.heap.size w w' := by
  have FX := Lib.hid fixed_any
  by_cases hs : 3000 < s.size
  · have hs' : 3000 < (s.size : Int) := by omega
    have hm' : (s.size : Int) ≤ 9223372036854775807 := by unfold maxLen at hm; omega
    clear hm hs
    go_enter Try.func3, Try.ntmps3
    go_wp2_with fail
    go_at_call 14; refine (FX.out w).mono ?_; rintro e w1 ⟨rfl, hb1⟩; have HB1 := Lib.hid hb1; clear hb1
    go_wp2_with fail
    go_ret
    exact ⟨rfl, HB1.out⟩
  · have hs' : (s.size : Int) ≤ 3000 := by omega
    have MA := Lib.hid (fun w => may_any s w hm)
    have RA := Lib.hid (fun w => rmay_any s w hm)
    cases va : mayV s.data.toList with
    | false =>
      have P := Lib.hid (parts_no s w hm va)
      have VA := Lib.hid va
      clear hm hs va
      go_enter Try.func3, Try.ntmps3
      go_wp2_with fail
      go_at_call 15; refine P.out.mono ?_; rintro e w1 ⟨rfl, hb1⟩; have HB1 := Lib.hid hb1; clear hb1
      go_wp2_with fail
      go_at_call 16; refine (MA.out w1).mono ?_; rintro e w2 ⟨rfl, hb2⟩; rw [VA.out]; have HB2 := Lib.hid hb2; clear hb2
      go_wp2_with fail
      go_at_call 17; refine (RA.out w2).mono ?_; rintro e w3 ⟨rfl, hb3⟩; rw [VA.out]; have HB3 := Lib.hid hb3; clear hb3
      go_wp2_with fail
      go_at_call 17; refine (RA.out w3).mono ?_; rintro e w4 ⟨rfl, hb4⟩; rw [VA.out]; have HB4 := Lib.hid hb4; clear hb4
      go_wp2_with fail
      go_at_call 14; refine (FX.out w4).mono ?_; rintro e w5 ⟨rfl, hb5⟩; have HB5 := Lib.hid hb5; clear hb5
      go_wp2_with fail
      go_ret
      exact ⟨rfl, bstep (bstep (bstep (bstep HB1.out HB2.out) HB3.out) HB4.out) HB5.out⟩
    | true =>
      have P := Lib.hid (parts_yes s w va)
      have C := Lib.hid (fun w => cut_any s 46 w (by omega))
      have FA := Lib.hid (may_facts va)
      have VA := Lib.hid va
      obtain ⟨l, hl⟩ : ∃ l, l = cutAt 46 s.data.toList := ⟨_, rfl⟩
      rw [← hl] at P C FA
      clear hm hs va hl
      go_enter Try.func3, Try.ntmps3
      go_wp2_with fail
      go_at_call 15; refine P.out.mono ?_; rintro e w1 ⟨A1, c1, rfl, hr1, hb1⟩; have HB1 := Lib.hid hb1; have HR1 := Lib.hid hr1; clear hb1 hr1
      obtain ⟨n, hn⟩ : ∃ n, n = l.length := ⟨_, rfl⟩
      rw [← hn]
      have HN := Lib.hid hn
      have hn8 : (n : Int) ≤ 8 := by have := FA.out.2.1; omega
      clear hn
      go_wp2_with fail
      go_at_call 16; refine (MA.out w1).mono ?_; rintro e w2 ⟨rfl, hb2⟩; rw [VA.out]; have HB2 := Lib.hid hb2; clear hb2
      go_wp2_with fail
      go_at_call 17; refine (RA.out w2).mono ?_; rintro e w3 ⟨rfl, hb3⟩; rw [VA.out]; have HB3 := Lib.hid hb3; clear hb3
      go_wp2_with fail
      go_at_call 17; refine (RA.out w3).mono ?_; rintro e w4 ⟨rfl, hb4⟩; rw [VA.out]; have HB4 := Lib.hid hb4; clear hb4
      go_wp2_with fail
      go_at_call 14; refine (FX.out w4).mono ?_; rintro e w5 ⟨rfl, hb5⟩; have HB5 := Lib.hid hb5; clear hb5
      go_wp2_with fail
      go_at_call 19; refine (C.out w5).mono ?_; intro e w6 hcp
      obtain ⟨A6, c6, rfl, hr6, hb6⟩ := hcp.row
      have HR6 := Lib.hid hr6; have HB6 := Lib.hid hb6; clear hr6 hb6 hcp
      rw [← HN.out]
      have HBW : Hid (Below w1.heap.size w1 w6) := Lib.hid (bstep (bstep (bstep (bstep HB2.out HB3.out) HB4.out) HB5.out) HB6.out)
      have HRW := Lib.hid (HR1.out.below HBW.out.size HBW.out)
      go_wp2_with fail
      go_at_call 18; refine (same_any w6 HRW.out HR6.out n n c1 c6 HN.out HN.out (by unfold maxLen; omega) (by unfold maxLen; omega)).mono ?_; rintro e w7 ⟨rfl, j, rfl⟩; rw [decide_eq_true (rfl : l = l)]
      go_wp2_with fail
      go_ret
      exact ⟨rfl, drewN_below (bstep HB1.out HBW.out) j⟩

end Go.Proofs.Ytdmobdiffobdkaa.Ver
