/- Variants: the program's Wish; the document's Has, Meets and Same over rows of settings. -/
import Derived.Test.YtbffcehaednefaaVariantL
namespace Go.Proofs.Ytbffcehaednefaa.Variant
set_option linter.unusedVariables false
set_option linter.unusedSimpArgs false
open Go.RowKit

set_option maxHeartbeats 4000000 in
set_option maxRecDepth 100000 in
theorem wish_any (A : Option Addr) (T : List Tr) (n c : Nat) (w : World) (h : TRow w w.heap.size A T) (hn : n = T.length) (hm : n ≤ maxLen) :
    Calls Try.prog 21 #[.slice A n c] w fun e w' => e = .returned (.bool (wishB T)) ∧ Below w.heap.size w w' := by
  have h63 : (n : Int) ≤ 9223372036854775807 := by unfold maxLen at hm; omega
  have HN := Lib.hid hn
  have H := Lib.hid h
  have GOOD : Hid ((List.range n).all (wishAt T) = wishB T) := Lib.hid (by unfold wishB; rw [← HN.out])
  clear hn h hm
  go_enter Try.func21, Try.ntmps21
  go_wp2_with fail
  go_loopw [3, 4, 7] (fun _ _ v wr => ∃ k : Nat, v = .int .i64 k ∧ k ≤ n ∧ Below w.heap.size w wr ∧ (List.range k).all (wishAt T) = true) (fun _ _ v _ => n - (intOf v).toNat)
  case atStart => exact ⟨0, rfl, Nat.zero_le _, Below.refl _ _, rfl⟩
  case round =>
    obtain ⟨k, rfl, hk, hbel, hall⟩ := hrel
    have J := Lib.hid hbel
    have HALL := Lib.hid hall
    clear hbel hall
    by_cases hlt : k < n
    · have hlt' : (k : Int) < (n : Int) := by omega
      have KT : Hid (k < T.length) := Lib.hid (by have := HN.out; omega)
      rcases H.out with h' | ⟨b, bo, rfl, hb, hcell⟩
      · exfalso; have := KT.out; rw [h'] at this; simp at this
      have BADK := Lib.hid (fun h => GOOD.out.symm.trans (range_bad (wishAt T) k n hlt h))
      have NEXTK := Lib.hid (range_snoc (wishAt T) k HALL.out)
      obtain ⟨e5, e6⟩ := hcell k KT.out
      obtain ⟨x, hx⟩ : ∃ x, x = (T.getD k tr0).1 := ⟨_, rfl⟩
      obtain ⟨y, hy⟩ : ∃ x, x = (T.getD k tr0).2 := ⟨_, rfl⟩
      obtain ⟨p, hp⟩ : ∃ x, x = (T.getD (k - 1) tr0).1 := ⟨_, rfl⟩
      have OK : Hid (wishAt T k = (nameB x.data.toList && valueB y.data.toList && (decide (k = 0) || ltS p x))) := Lib.hid (by rw [hx, hy, hp]; rfl)
      have NQ : Hid (∀ w, Calls Try.prog 12 #[.string x] w fun e w' => e = .returned (.bool (nameB x.data.toList)) ∧ w' = w) := Lib.hid (fun w => (name_says x w).mono fun e w' h => ⟨h.1, h.2.symm⟩)
      have VQ : Hid (∀ w, Calls Try.prog 14 #[.string y] w fun e w' => e = .returned (.bool (valueB y.data.toList)) ∧ w' = w) := Lib.hid (fun w => (value_any y w).mono fun e w' h => ⟨h.1, h.2.symm⟩)
      rw [← hx] at e5
      rw [← hy] at e6
      replace e5 := (J.out.cell (p := ⟨b, bo + k * 2, none⟩) hb).trans e5
      replace e6 := (J.out.cell (p := ⟨b, bo + k * 2 + 1, none⟩) hb).trans e6
      obtain ⟨c0, c1⟩ := boxT_cells wr x y
      have BX := Lib.hid ((Below.refl wr.heap.size wr).alloc (Nat.le_refl _) (.cells #[.string x, .string y] 33))
      have BE := Lib.hid (J.out.trans (BX.out.mono J.out.size))
      have D := Lib.hid (fun m => drewN_below BE.out m)
      cases hnb : nameB x.data.toList with
      | false =>
        have F := Lib.hid (BADK.out (by rw [OK.out, hnb]; rfl))
        rw [hnb] at NQ
        clear hnb hcell hx hy hp
        go_wp2_with fail
        go_quiet ((first | (go_at_call 12; exact Calls.quiet_of_same (NQ.out _)) | (go_at_call 14; exact Calls.quiet_of_same (VQ.out _))))
        go_wp2_with fail
        go_ret
        exact ⟨ret_bool F.out.symm, D.out _⟩
      | true =>
        rw [hnb] at NQ
        cases hvb : valueB y.data.toList with
        | false =>
          have F := Lib.hid (BADK.out (by rw [OK.out, hnb, hvb]; rfl))
          rw [hvb] at VQ
          clear hnb hvb hcell hx hy hp
          go_wp2_with fail
          go_quiet ((first | (go_at_call 12; exact Calls.quiet_of_same (NQ.out _)) | (go_at_call 14; exact Calls.quiet_of_same (VQ.out _))))
          go_wp2_with fail
          go_ret
          exact ⟨ret_bool F.out.symm, D.out _⟩
        | true =>
          rw [hvb] at VQ
          by_cases h0 : k = 0
          · subst h0
            rw [Nat.zero_mul, Nat.add_zero] at e5 e6
            have F := Lib.hid (NEXTK.out (by rw [OK.out, hnb, hvb]; rfl))
            clear hnb hvb hcell hx hy hp
            go_wp2_with fail
            go_quiet ((first | (go_at_call 12; exact Calls.quiet_of_same (NQ.out _)) | (go_at_call 14; exact Calls.quiet_of_same (VQ.out _))))
            go_wp2_with fail
            go_roundw
            case rel => exact ⟨1, rfl, by omega, D.out _, F.out⟩
            case measure => simp [intOf]; omega
          · obtain ⟨i, rfl⟩ : ∃ i, k = i + 1 := ⟨k - 1, by omega⟩
            have ep := (hcell i (by have := KT.out; omega)).1
            rw [Nat.add_sub_cancel] at hp
            rw [← hp] at ep
            replace ep := (BE.out.cell (p := ⟨b, bo + i * 2, none⟩) hb).trans ep
            have hk0 : (0 : Int) < ((i + 1 : Nat) : Int) := by omega
            have hk1 : IntKind.i64.wrap (((i + 1 : Nat) : Int) - 1) = (i : Int) := by
              rw [show ((i + 1 : Nat) : Int) - 1 = (i : Int) by omega]; exact IntWalk.i64_in _ (by omega)
            cases hl : ltS p x with
            | true =>
              have F := Lib.hid (NEXTK.out (by rw [OK.out, hnb, hvb, hl]; simp))
              have hl' : Op.bytesLess p.toList x.toList = true := hl
              clear hnb hvb hcell hx hy hp hl h0
              go_wp2_with fail
              go_quiet ((first | (go_at_call 12; exact Calls.quiet_of_same (NQ.out _)) | (go_at_call 14; exact Calls.quiet_of_same (VQ.out _))))
              go_wp2_with fail
              go_roundw
              case rel => exact ⟨i + 1 + 1, by go_num, by omega, D.out _, F.out⟩
              case measure => simp [intOf]; omega
            | false =>
              have F := Lib.hid (BADK.out (by rw [OK.out, hnb, hvb, hl]; simp))
              have hl' : Op.bytesLess p.toList x.toList = false := hl
              clear hnb hvb hcell hx hy hp hl h0
              go_wp2_with fail
              go_quiet ((first | (go_at_call 12; exact Calls.quiet_of_same (NQ.out _)) | (go_at_call 14; exact Calls.quiet_of_same (VQ.out _))))
              go_wp2_with fail
              go_ret
              exact ⟨ret_bool F.out.symm, D.out _⟩
    · obtain rfl : k = n := by omega
      go_wp2_with fail
      go_ret
      exact ⟨ret_bool (by rw [← GOOD.out, HALL.out]), J.out⟩

set_option maxHeartbeats 2000000 in
set_option maxRecDepth 100000 in
theorem rhas_any (A : Option Addr) (T : List Tr) (n c : Nat) (x y : ByteArray) (w : World) (h : TRow w w.heap.size A T) (hn : n = T.length) (hm : n ≤ maxLen) :
    Calls Try.prog 51 #[.slice A n c, aggT x y] w fun e w' => e = .returned (.bool (T.any (sameT x y))) ∧ Below w.heap.size w w' := by
  have h63 : (n : Int) ≤ 9223372036854775807 := by unfold maxLen at hm; omega
  have HN := Lib.hid hn
  have H := Lib.hid h
  have BX := Lib.hid ((Below.refl w.heap.size w).alloc (Nat.le_refl _) (.cells #[.string x, .string y] 33))
  have CE := Lib.hid (boxT_cells w x y)
  have SZ : Hid (w.heap.size < (boxT w x y).heap.size) := Lib.hid (by simp)
  clear hn h hm
  go_enter Try.func51, Try.ntmps51
  go_wp2_with fail
  go_loopw [5, 8] (fun _ v wr => ∃ k : Nat, v = .int .i64 k ∧ k ≤ n ∧ Below (boxT w x y).heap.size (boxT w x y) wr ∧ (T.take k).any (sameT x y) = false) (fun _ v _ => n - (intOf v).toNat)
  case atStart => exact ⟨0, rfl, Nat.zero_le _, Below.refl _ _, rfl⟩
  case round =>
    obtain ⟨k, rfl, hk, hbel, hall⟩ := hrel
    have J := Lib.hid hbel
    have HALL := Lib.hid hall
    clear hbel hall
    by_cases hlt : k < n
    · have hlt' : (k : Int) < (n : Int) := by omega
      have KT : Hid (k < T.length) := Lib.hid (by have := HN.out; omega)
      rcases H.out with h' | ⟨b, bo, rfl, hb, hcell⟩
      · exfalso; have := KT.out; rw [h'] at this; simp at this
      obtain ⟨e5, e6⟩ := hcell k KT.out
      have NX := Lib.hid (anyT_next (sameT x y) T k KT.out HALL.out)
      have HT := Lib.hid (anyT_hit (sameT x y) T k KT.out)
      have GV : Hid (sameT x y (T.getD k tr0) = (eqB (T.getD k tr0).1 x && eqB (T.getD k tr0).2 y)) := Lib.hid rfl
      obtain ⟨s, hs⟩ : ∃ x, x = (T.getD k tr0).1 := ⟨_, rfl⟩
      obtain ⟨t, ht⟩ : ∃ x, x = (T.getD k tr0).2 := ⟨_, rfl⟩
      have BB := Lib.hid (BX.out.trans (J.out.mono (by have := SZ.out; omega)))
      replace e5 := (BB.out.cell (p := ⟨b, bo + k * 2, none⟩) hb).trans e5
      replace e6 := (BB.out.cell (p := ⟨b, bo + k * 2 + 1, none⟩) hb).trans e6
      rw [← hs] at e5
      rw [← ht] at e6
      rw [← hs, ← ht] at GV
      have c0 := (J.out.cell (p := ⟨w.heap.size, 0, none⟩) SZ.out).trans CE.out.1
      have c1 := (J.out.cell (p := ⟨w.heap.size, 1, none⟩) SZ.out).trans CE.out.2
      have D := Lib.hid (fun m => drewN_below J.out m)
      have DW := Lib.hid (fun m => drewN_below BB.out m)
      clear hcell hs ht
      cases h1 : (s.toList == x.toList) with
      | false =>
        have F := Lib.hid (NX.out (by rw [GV.out]; unfold eqB; rw [h1]; rfl))
        go_wp2_with fail
        go_quiet (fail)
        go_wp2_with fail
        go_roundw
        case rel => exact ⟨k + 1, by go_num, by omega, D.out _, F.out⟩
        case measure => simp [intOf]; omega
      | true =>
        cases h2 : (t.toList == y.toList) with
        | false =>
          have F := Lib.hid (NX.out (by rw [GV.out]; unfold eqB; rw [h1, h2]; rfl))
          go_wp2_with fail
          go_quiet (fail)
          go_wp2_with fail
          go_roundw
          case rel => exact ⟨k + 1, by go_num, by omega, D.out _, F.out⟩
          case measure => simp [intOf]; omega
        | true =>
          have F := Lib.hid (HT.out (by rw [GV.out]; unfold eqB; rw [h1, h2]; rfl))
          go_wp2_with fail
          go_quiet (fail)
          go_wp2_with fail
          go_ret
          exact ⟨ret_bool F.out.symm, DW.out _⟩
    · obtain rfl : k = n := by omega
      have F : Hid (T.any (sameT x y) = false) := Lib.hid (by
        have h := HALL.out
        rwa [HN.out, List.take_of_length_le (Nat.le_refl _)] at h)
      have BB := Lib.hid (BX.out.trans (J.out.mono (by have := SZ.out; omega)))
      go_wp2_with fail
      go_ret
      exact ⟨ret_bool F.out.symm, BB.out⟩

set_option maxHeartbeats 2000000 in
set_option maxRecDepth 100000 in
theorem rmeets_any (A : Option Addr) (S : List Tr) (n c : Nat) (A2 : Option Addr) (W : List Tr) (n2 c2 : Nat) (w : World) (h : TRow w w.heap.size A S) (hn : n = S.length) (hm : n ≤ maxLen) (h2 : TRow w w.heap.size A2 W) (hn2 : n2 = W.length) (hm2 : n2 ≤ maxLen) :
    Calls Try.prog 24 #[.slice A n c, .slice A2 n2 c2] w fun e w' => e = .returned (.bool (meetsB S W)) ∧ Below w.heap.size w w' := by
  have h63 : (n2 : Int) ≤ 9223372036854775807 := by unfold maxLen at hm2; omega
  have HS : Hid (∀ x y w1, Below w.heap.size w w1 → Calls Try.prog 51 #[.slice A n c, aggT x y] w1 fun e w' => e = .returned (.bool (S.any (sameT x y))) ∧ Below w1.heap.size w1 w') := Lib.hid (fun x y w1 hb =>
    rhas_any A S n c x y w1 (h.below hb.size hb) hn hm)
  have HN2 := Lib.hid hn2
  have H2 := Lib.hid h2
  clear h hn hm h2 hn2 hm2
  go_enter Try.func24, Try.ntmps24
  go_wp2_with fail
  go_loopw [5, 8] (fun _ v wr => ∃ k : Nat, v = .int .i64 k ∧ k ≤ n2 ∧ Below w.heap.size w wr ∧ (W.take k).all (hasT S) = true) (fun _ v _ => n2 - (intOf v).toNat)
  case atStart => exact ⟨0, rfl, Nat.zero_le _, Below.refl _ _, rfl⟩
  case round =>
    obtain ⟨k, rfl, hk, hbel, hall⟩ := hrel
    have J := Lib.hid hbel
    have HALL := Lib.hid hall
    clear hbel hall
    by_cases hlt : k < n2
    · have hlt' : (k : Int) < (n2 : Int) := by omega
      have KT : Hid (k < W.length) := Lib.hid (by have := HN2.out; omega)
      rcases H2.out with h' | ⟨b, bo, rfl, hb, hcell⟩
      · exfalso; have := KT.out; rw [h'] at this; simp at this
      obtain ⟨e5, e6⟩ := hcell k KT.out
      have NX := Lib.hid (allT_next (hasT S) W k KT.out HALL.out)
      have BD := Lib.hid (allT_bad (hasT S) W k KT.out)
      have GV : Hid (hasT S (W.getD k tr0) = S.any (sameT (W.getD k tr0).1 (W.getD k tr0).2)) := Lib.hid rfl
      obtain ⟨s, hs⟩ : ∃ x, x = (W.getD k tr0).1 := ⟨_, rfl⟩
      obtain ⟨t, ht⟩ : ∃ x, x = (W.getD k tr0).2 := ⟨_, rfl⟩
      replace e5 := (J.out.cell (p := ⟨b, bo + k * 2, none⟩) hb).trans e5
      replace e6 := (J.out.cell (p := ⟨b, bo + k * 2 + 1, none⟩) hb).trans e6
      rw [← hs] at e5
      rw [← ht] at e6
      rw [← hs, ← ht] at GV
      have CC := Lib.hid (HS.out s t _ J.out)
      clear hcell hs ht
      cases hq : S.any (sameT s t) with
      | true =>
        have F := Lib.hid (NX.out (by rw [GV.out, hq]))
        rw [hq] at CC
        clear hq
        go_wp2_with fail
        go_at_call 51; refine CC.out.mono ?_; rintro e w1 ⟨rfl, hb1⟩
        have BE := Lib.hid (bstep J.out hb1)
        clear hb1
        go_wp2_with fail
        go_roundw
        case rel => exact ⟨k + 1, by go_num, by omega, BE.out, F.out⟩
        case measure => simp [intOf]; omega
      | false =>
        have F := Lib.hid (BD.out (by rw [GV.out, hq]))
        rw [hq] at CC
        clear hq
        go_wp2_with fail
        go_at_call 51; refine CC.out.mono ?_; rintro e w1 ⟨rfl, hb1⟩
        have BE := Lib.hid (bstep J.out hb1)
        clear hb1
        go_wp2_with fail
        go_ret
        exact ⟨ret_bool F.out.symm, BE.out⟩
    · obtain rfl : k = n2 := by omega
      have F : Hid (meetsB S W = true) := Lib.hid (by
        have h := HALL.out
        rwa [HN2.out, List.take_of_length_le (Nat.le_refl _)] at h)
      go_wp2_with fail
      go_ret
      exact ⟨ret_bool F.out.symm, J.out⟩

set_option maxHeartbeats 2000000 in
set_option maxRecDepth 100000 in
/-- of the same settings Same tells so. -/
theorem rsame_yes (A A2 : Option Addr) (T : List Tr) (n c c2 : Nat) (w : World) (h : TRow w w.heap.size A T) (h2 : TRow w w.heap.size A2 T) (hn : n = T.length) (hm : n ≤ maxLen) :
    Calls Try.prog 26 #[.slice A n c, .slice A2 n c2] w fun e w' => e = .returned (.bool true) ∧ Below w.heap.size w w' := by
  have h63 : (n : Int) ≤ 9223372036854775807 := by unfold maxLen at hm; omega
  have hbe : ((n : Int) != (n : Int)) = false := by simp
  have HN := Lib.hid hn
  have H := Lib.hid h
  have H2 := Lib.hid h2
  clear h hn hm h2
  go_enter Try.func26, Try.ntmps26
  go_wp2_with fail
  go_loopw [5, 13] (fun _ v wr => ∃ k : Nat, v = .int .i64 k ∧ k ≤ n ∧ Below w.heap.size w wr) (fun _ v _ => n - (intOf v).toNat)
  case atStart => exact ⟨0, rfl, Nat.zero_le _, Below.refl _ _⟩
  case round =>
    obtain ⟨k, rfl, hk, hbel⟩ := hrel
    have J := Lib.hid hbel
    clear hbel
    by_cases hlt : k < n
    · have hlt' : (k : Int) < (n : Int) := by omega
      have KT : Hid (k < T.length) := Lib.hid (by have := HN.out; omega)
      rcases H.out with h' | ⟨b, bo, rfl, hb, hcell⟩
      · exfalso; have := KT.out; rw [h'] at this; simp at this
      rcases H2.out with h' | ⟨d, o, rfl, hd, hcell2⟩
      · exfalso; have := KT.out; rw [h'] at this; simp at this
      obtain ⟨e5, e6⟩ := hcell k KT.out
      obtain ⟨d5, d6⟩ := hcell2 k KT.out
      obtain ⟨s, hs⟩ : ∃ x, x = (T.getD k tr0).1 := ⟨_, rfl⟩
      obtain ⟨t, ht⟩ : ∃ x, x = (T.getD k tr0).2 := ⟨_, rfl⟩
      replace e5 := (J.out.cell (p := ⟨b, bo + k * 2, none⟩) hb).trans e5
      replace e6 := (J.out.cell (p := ⟨b, bo + k * 2 + 1, none⟩) hb).trans e6
      replace d5 := (J.out.cell (p := ⟨d, o + k * 2, none⟩) hd).trans d5
      replace d6 := (J.out.cell (p := ⟨d, o + k * 2 + 1, none⟩) hd).trans d6
      rw [← hs] at e5 d5
      rw [← ht] at e6 d6
      have y1 : (s.toList == s.toList) = true := beq_self_eq_true _
      have y2 : (t.toList == t.toList) = true := beq_self_eq_true _
      have D := Lib.hid (fun m => drewN_below J.out m)
      clear hcell hcell2 hs ht
      go_wp2_with fail
      go_quiet (fail)
      go_wp2_with fail
      go_roundw
      case rel => exact ⟨k + 1, by go_num, by omega, D.out _⟩
      case measure => simp [intOf]; omega
    · obtain rfl : k = n := by omega
      go_wp2_with fail
      go_ret
      exact ⟨rfl, J.out⟩

end Go.Proofs.Ytbffcehaednefaa.Variant
