/- The law VersionAround: every way. -/
import Derived.Test.YtdmobdiffobdkaaVerAroundWalk
namespace Go.Proofs.Ytdmobdiffobdkaa.Ver
set_option linter.unusedVariables false
set_option linter.unusedSimpArgs false
open Go.RowKit Go.Shelf

set_option maxHeartbeats 1000000 in
theorem around_great (a b c : ByteArray) (m : Nat) (w : World)
    (G : Hid (Calls Try.prog 20 #[.slice (some ⟨w.heap.size, 0, none⟩) 3 3] (w.alloc (.cells #[.string a, .string b, .string c] 9)) fun e w' => e = .returned (.bool true) ∧ w.alloc (.cells #[.string a, .string b, .string c] 9) = w')) :
    Calls Try.prog 6 #[.string a, .string b, .string c, .int .u32 m] w fun e w' => e = .returned (.bool true) ∧ Below w.heap.size w w' := by
  have H1 : Hid (Below w.heap.size w (w.alloc (.cells #[.string a, .string b, .string c] 9))) := Lib.hid ((Below.refl _ w).alloc (Nat.le_refl _) _)
  go_enter Try.func6, Try.ntmps6
  go_wp2_with fail
  go_at_call 20; refine G.out.mono ?_; rintro e w1 ⟨rfl, rfl⟩
  go_wp2_with fail
  go_at_call 14; refine (fixed_any _).mono ?_; rintro e w2 ⟨rfl, hb2⟩; have HB2 := Lib.hid hb2; clear hb2
  go_wp2_with fail
  go_ret
  exact ⟨rfl, bstep H1.out HB2.out⟩

theorem law_around0 (a b c : ByteArray) (m : Nat) (w : World) (wa : a.size ≤ maxLen) (wb : b.size ≤ maxLen) (wc : c.size ≤ maxLen) (hm : m ≤ 4294967295) :
    Calls Try.prog 6 #[.string a, .string b, .string c, .int .u32 m] w fun e w' => e = .returned (.bool true) ∧ Below w.heap.size w w' := by
  rcases great_cases w a b c wa wb wc with hg | ⟨hg, z1, z2, z3⟩
  · exact around_great a b c m w (Lib.hid hg)
  · have T : Base a b c m w := ⟨z1, z3, hg,
      fun w => by
        have h := decimal_any (m % 1000000000) w (Nat.mod_lt _ (by omega))
        have e : ((m % 1000000000 : Nat) : Int) = (m : Int) % 1000000000 := by omega
        rwa [e] at h,
      fun d hd w => rmay_any _ w (dot_size a d z1 (by omega)),
      fun d hd ha hdig hh w => by
        have h := compare_any (dot a d) a w (dot_size a d z1 (by omega)) wa
        rwa [high_one ha hdig hh] at h⟩
    have AB : pCmp a b (cmpV a.data.toList b.data.toList) := fun w => compare_any a b w wa wb
    have BA : pCmp b a (cmpV b.data.toList a.data.toList) := fun w => compare_any b a w wb wa
    have MB : rMay b (mayV b.data.toList) := fun w => rmay_any b w wb
    have MA : rMay a (mayV a.data.toList) := fun w => rmay_any a w wa
    have ML : rMay (dot a c) (mayV (dot a c).data.toList) := fun w => rmay_any _ w (dot_size a c z1 z3)
    have CL : pCmp (dot a c) a (cmpV (dot a c).data.toList a.data.toList) := fun w => compare_any _ _ w (dot_size a c z1 z3) wa
    have DG : rDig c (digitsP c.data.toList) := fun w => digits_any c w wc
    have rg := ord_v.rng a.data.toList b.data.toList
    have an := ord_v.anti a.data.toList b.data.toList
    have CU : ∀ w, Calls Try.prog 19 #[.string c, .int .u8 46] w (CutPost w (cutAt 46 c.data.toList)) := fun w => cut_any c 46 w (by omega)
    obtain ⟨p, ps, ec⟩ := cutAt_ne 46 c.data.toList
    have LN : 0 < (cutAt 46 c.data.toList).length := by rw [ec]; simp
    have hpl : p.length ≤ c.size := by
      have := part_le 46 c.data.toList p (by rw [ec]; simp)
      rwa [len_list] at this
    have D0 : rDig ⟨p.toArray⟩ (digitsP p) := fun w => digits_any ⟨p.toArray⟩ w (by rw [size_str]; omega)
    have G0 : str ((cutAt 46 c.data.toList).getD 0 []) = .string ⟨p.toArray⟩ := by rw [ec]; rfl
    cases va : mayV a.data.toList with
    | false =>
      rw [va] at MA
      by_cases hx : 0 ≤ cmpV a.data.toList b.data.toList
      · exact around_Fp a b c m w hm T MA _ hx AB
      · rw [show cmpV a.data.toList b.data.toList = -1 by omega] at AB
        exact around_Fn a b c m w hm T MA AB
    | true =>
      have VA := Lib.hid va
      have vbn : ¬ 0 ≤ cmpV a.data.toList b.data.toList → mayV b.data.toList = true := fun h => by
        cases vb : mayV b.data.toList with
        | true => rfl
        | false => exact absurd (show 0 ≤ cmpV a.data.toList b.data.toList by rw [cmpV, va, vb]; simp) h
      rw [va] at MA
      by_cases hx : 0 ≤ cmpV a.data.toList b.data.toList
      · cases vl : mayV (dot a c).data.toList with
        | false => rw [vl] at ML; exact around_lp a b c m w hm T MA VA ML _ hx AB
        | true =>
          rw [vl] at ML
          cases vd : digitsP c.data.toList with
          | true => rw [vd] at DG; exact around_dp a b c m w hm T MA VA ML DG _ hx AB
          | false =>
            rw [vd] at DG
            rcases low_one va vl with h | ⟨h, h'⟩
            · rw [h] at CL; exact around_np a b c m w hm T MA VA ML DG CL _ hx AB
            · rw [h] at CL
              rw [ec, List.headD_cons] at h'
              rw [h'] at D0
              exact around_pp a b c m w hm T MA VA ML DG CL _ CU (Lib.hid LN) (Lib.hid G0) D0 _ hx AB
      · have vb := vbn hx
        have e1 : cmpV a.data.toList b.data.toList = -1 := by omega
        rw [e1] at AB an
        rw [an] at BA
        rw [vb] at MB
        cases vl : mayV (dot a c).data.toList with
        | false => rw [vl] at ML; exact around_ln a b c m w hm T MA VA ML AB MB BA
        | true =>
          rw [vl] at ML
          cases vd : digitsP c.data.toList with
          | true => rw [vd] at DG; exact around_dn a b c m w hm T MA VA ML DG AB MB BA
          | false =>
            rw [vd] at DG
            rcases low_one va vl with h | ⟨h, h'⟩
            · rw [h] at CL; exact around_nn a b c m w hm T MA VA ML DG CL AB MB BA
            · rw [h] at CL
              rw [ec, List.headD_cons] at h'
              rw [h'] at D0
              exact around_pn a b c m w hm T MA VA ML DG CL _ CU (Lib.hid LN) (Lib.hid G0) D0 AB MB BA

theorem law_around (a b c : ByteArray) (n : Int) (w : World) (wa : a.size ≤ maxLen) (wb : b.size ≤ maxLen) (wc : c.size ≤ maxLen) (wn : (Lit.int .u32 n).wf = true) :
    Calls Try.prog 6 #[.string a, .string b, .string c, .int .u32 n] w fun e w' => e = .returned (.bool true) ∧ Below w.heap.size w w' := by
  have h := wn
  simp [Lit.wf, IntKind.min, IntKind.max, IntKind.signed, IntKind.bits] at h
  obtain ⟨m, rfl⟩ := Int.eq_ofNat_of_zero_le (a := n) (by omega)
  exact law_around0 a b c m w wa wb wc (by omega)

end Go.Proofs.Ytdmobdiffobdkaa.Ver
