/- Variants: is a setting among others, do settings meet a wish. -/
import Derived.Test.YtbffcehaednefaaVariantK
namespace Go.Proofs.Ytbffcehaednefaa.Variant
set_option linter.unusedVariables false
set_option linter.unusedSimpArgs false
open Go.RowKit

theorem eqB_comm (a b : ByteArray) : eqB a b = eqB b a := by
  rw [Bool.eq_iff_iff, eqB_iff, eqB_iff]; exact ⟨Eq.symm, Eq.symm⟩
abbrev aggT (x y : ByteArray) : Value := .agg #[.string x, .string y]
abbrev boxT (w : World) (x y : ByteArray) : World := w.alloc (.cells #[.string x, .string y] 33)
theorem boxT_cells (w : World) (x y : ByteArray) : (boxT w x y).cell? ⟨w.heap.size, 0, none⟩ = some (.string x) ∧ (boxT w x y).cell? ⟨w.heap.size, 1, none⟩ = some (.string y) := by
  have h : (boxT w x y).heap[w.heap.size]? = some (.cells #[.string x, .string y] 33 (0, 0)) := heap_alloc_new w _
  exact ⟨blk_cell (j := 0) h rfl, blk_cell (j := 1) h rfl⟩
def sameT (x y : ByteArray) (t : Tr) : Bool := eqB t.1 x && eqB t.2 y

set_option maxHeartbeats 2000000 in
set_option maxRecDepth 100000 in
theorem indexT_any (A : Option Addr) (T : List Tr) (n c : Nat) (x y : ByteArray) (w : World) (h : TRow w w.heap.size A T) (hn : n = T.length) (hm : n ≤ maxLen) :
    Calls Try.prog 70 #[.slice A n c, aggT x y] w fun e w' => ∃ z : Int, e = .returned (.int .i64 z) ∧ decide (0 ≤ z) = T.any (sameT x y) ∧ Below w.heap.size w w' := by
  have h63 : (n : Int) ≤ 9223372036854775807 := by unfold maxLen at hm; omega
  have HN := Lib.hid hn
  have H := Lib.hid h
  have BX := Lib.hid ((Below.refl w.heap.size w).alloc (Nat.le_refl _) (.cells #[.string x, .string y] 33))
  have CE := Lib.hid (boxT_cells w x y)
  have SZ : Hid (w.heap.size < (boxT w x y).heap.size) := Lib.hid (by simp)
  clear hn h hm
  go_enter Try.func70, Try.ntmps70
  go_wp2_with fail
  go_loopw [5, 8] (fun _ v wr => ∃ k : Nat, v = .int .i64 k ∧ k ≤ n ∧ Below (boxT w x y).heap.size (boxT w x y) wr ∧ (T.take k).any (sameT x y) = false) (fun _ v _ => n - (intOf v).toNat)
  case atStart => exact ⟨0, rfl, Nat.zero_le _, Below.refl _ _, rfl⟩
  case round =>
    obtain ⟨k, rfl, hk, hbel, hall⟩ := hrel
    have J := Lib.hid hbel
    have HALL := Lib.hid hall
    clear hbel hall
    by_cases hlt : k < n
    · have hlt' : (k : Int) < (n : Int) := by omega
      have KT : Hid (k < T.length) := Lib.hid (by have := HN.out; omega)
      rcases H.out with h' | ⟨b, bo, rfl, hb, hcell⟩
      · exfalso; have := KT.out; rw [h'] at this; simp at this
      obtain ⟨e5, e6⟩ := hcell k KT.out
      have NX := Lib.hid (anyT_next (sameT x y) T k KT.out HALL.out)
      have HT := Lib.hid (anyT_hit (sameT x y) T k KT.out)
      have GV : Hid (sameT x y (T.getD k tr0) = (eqB x (T.getD k tr0).1 && eqB y (T.getD k tr0).2)) := Lib.hid (by unfold sameT; rw [eqB_comm x, eqB_comm y])
      obtain ⟨s, hs⟩ : ∃ x, x = (T.getD k tr0).1 := ⟨_, rfl⟩
      obtain ⟨t, ht⟩ : ∃ x, x = (T.getD k tr0).2 := ⟨_, rfl⟩
      have BB := Lib.hid (BX.out.trans (J.out.mono (by have := SZ.out; omega)))
      replace e5 := (BB.out.cell (p := ⟨b, bo + k * 2, none⟩) hb).trans e5
      replace e6 := (BB.out.cell (p := ⟨b, bo + k * 2 + 1, none⟩) hb).trans e6
      rw [← hs] at e5
      rw [← ht] at e6
      rw [← hs, ← ht] at GV
      have c0 := (J.out.cell (p := ⟨w.heap.size, 0, none⟩) SZ.out).trans CE.out.1
      have c1 := (J.out.cell (p := ⟨w.heap.size, 1, none⟩) SZ.out).trans CE.out.2
      have D := Lib.hid (fun m => drewN_below J.out m)
      have DW := Lib.hid (fun m => drewN_below BB.out m)
      clear hcell hs ht
      cases h1 : (x.toList == s.toList) with
      | false =>
        have F := Lib.hid (NX.out (by rw [GV.out]; unfold eqB; rw [h1]; rfl))
        go_wp2_with fail
        go_quiet (fail)
        go_wp2_with fail
        go_roundw
        case rel => exact ⟨k + 1, by go_num, by omega, D.out _, F.out⟩
        case measure => simp [intOf]; omega
      | true =>
        cases h2 : (y.toList == t.toList) with
        | false =>
          have F := Lib.hid (NX.out (by rw [GV.out]; unfold eqB; rw [h1, h2]; rfl))
          go_wp2_with fail
          go_quiet (fail)
          go_wp2_with fail
          go_roundw
          case rel => exact ⟨k + 1, by go_num, by omega, D.out _, F.out⟩
          case measure => simp [intOf]; omega
        | true =>
          have F := Lib.hid (HT.out (by rw [GV.out]; unfold eqB; rw [h1, h2]; rfl))
          go_wp2_with fail
          go_quiet (fail)
          go_wp2_with fail
          go_ret
          exact ⟨_, rfl, by rw [F.out]; simp, DW.out _⟩
    · obtain rfl : k = n := by omega
      have F : Hid (T.any (sameT x y) = false) := Lib.hid (by
        have h := HALL.out
        rwa [HN.out, List.take_of_length_le (Nat.le_refl _)] at h)
      have BB := Lib.hid (BX.out.trans (J.out.mono (by have := SZ.out; omega)))
      go_wp2_with fail
      go_ret
      exact ⟨-1, rfl, by rw [F.out]; rfl, BB.out⟩

set_option maxHeartbeats 1000000 in
theorem containsT_any (A : Option Addr) (T : List Tr) (n c : Nat) (x y : ByteArray) (w : World) (h : TRow w w.heap.size A T) (hn : n = T.length) (hm : n ≤ maxLen) :
    Calls Try.prog 50 #[.slice A n c, aggT x y] w fun e w' => e = .returned (.bool (T.any (sameT x y))) ∧ Below w.heap.size w w' := by
  have BX := Lib.hid ((Below.refl w.heap.size w).alloc (Nat.le_refl _) (.cells #[.string x, .string y] 33))
  have I := Lib.hid (indexT_any A T n c x y (boxT w x y) (h.below BX.out.size BX.out) hn hm)
  obtain ⟨c0, c1⟩ := boxT_cells w x y
  clear h hn hm
  go_enter Try.func50, Try.ntmps50
  go_wp2_with fail
  go_at_call 70; refine I.out.mono ?_; rintro e w' ⟨z, rfl, hz, hb⟩
  have BE := Lib.hid (BX.out.trans (hb.mono (by simp)))
  clear hb
  go_wp2_with fail
  go_ret
  first | exact ⟨rfl, BE.out⟩ | exact ⟨ret_bool hz, BE.out⟩

/-- the closure that knows settings: is one among them. -/
abbrev fnM (p : Addr) : Value := .func (.func 49) #[] #[.pointer (some p)]
set_option maxHeartbeats 1000000 in
theorem closureM_any (A : Option Addr) (T : List Tr) (n c : Nat) (x y : ByteArray) (p : Addr) (w : World) (hp : p.block < w.heap.size) (hc : w.cell? p = some (.slice A n c)) (h : TRow w w.heap.size A T) (hn : n = T.length) (hm : n ≤ maxLen) :
    Calls Try.prog 49 #[aggT x y, .pointer (some p)] w fun e w' => e = .returned (.bool (T.any (sameT x y))) ∧ Below w.heap.size w w' := by
  have BX := Lib.hid ((Below.refl w.heap.size w).alloc (Nat.le_refl _) (.cells #[.string x, .string y] 33))
  have C := Lib.hid (containsT_any A T n c x y (boxT w x y) (h.below BX.out.size BX.out) hn hm)
  have hc' := (BX.out.cell hp).trans hc
  obtain ⟨c0, c1⟩ := boxT_cells w x y
  clear h hn hm hc
  go_enter Try.func49, Try.ntmps49
  go_wp2_with fail
  go_at_call 50; refine C.out.mono ?_; rintro e w' ⟨rfl, hb⟩
  have BE := Lib.hid (BX.out.trans (hb.mono (by simp)))
  clear hb
  go_wp2_with fail
  go_ret
  exact ⟨rfl, BE.out⟩

theorem hasT_eq (T : List Tr) (x : Tr) : hasT T x = T.any (sameT x.1 x.2) := rfl

set_option maxHeartbeats 2000000 in
set_option maxRecDepth 100000 in
theorem meets_any (A : Option Addr) (S : List Tr) (n c : Nat) (A2 : Option Addr) (W : List Tr) (n2 c2 : Nat) (w : World) (h : TRow w w.heap.size A S) (hn : n = S.length) (hm : n ≤ maxLen) (h2 : TRow w w.heap.size A2 W) (hn2 : n2 = W.length) (hm2 : n2 ≤ maxLen) :
    Calls Try.prog 23 #[.slice A n c, .slice A2 n2 c2] w fun e w' => e = .returned (.bool (meetsB S W)) ∧ Below w.heap.size w w' := by
  have h63 : (n2 : Int) ≤ 9223372036854775807 := by unfold maxLen at hm2; omega
  have hmf : ∀ (fn : Fn) (first cap : Array Value) (w : World), (Instr.makeFunc fn first cap).run Try.prog w = .ok (.func fn first cap) w := fun _ _ _ _ => rfl
  obtain ⟨W0, hW0⟩ : ∃ W0, W0 = w.alloc (.cells #[.slice A n c] 31) := ⟨_, rfl⟩
  have B0 : Hid (Below w.heap.size w W0) := Lib.hid (by rw [hW0]; exact (Below.refl w.heap.size w).alloc (Nat.le_refl _) _)
  have SZ : Hid (w.heap.size < W0.heap.size) := Lib.hid (by rw [hW0]; simp)
  have C0 : Hid (W0.cell? ⟨w.heap.size, 0, none⟩ = some (.slice A n c)) := Lib.hid (by rw [hW0]; exact blk_cell (j := 0) (heap_alloc_new w _) rfl)
  have HW0 := Lib.hid hW0
  have CM : Hid (∀ x y w1, Below W0.heap.size W0 w1 → Calls Try.prog 49 #[aggT x y, .pointer (some ⟨w.heap.size, 0, none⟩)] w1 fun e w' => e = .returned (.bool (S.any (sameT x y))) ∧ Below w1.heap.size w1 w') := Lib.hid (fun x y w1 hb =>
    closureM_any A S n c x y ⟨w.heap.size, 0, none⟩ w1 (by have := SZ.out; have := hb.size; show w.heap.size < _; omega) ((hb.cell (p := ⟨w.heap.size, 0, none⟩) SZ.out).trans C0.out) (h.below (by have := SZ.out; have := hb.size; omega) (B0.out.trans (hb.mono (by have := SZ.out; omega)))) hn hm)
  have HN2 := Lib.hid hn2
  have H2 := Lib.hid h2
  clear h hn hm h2 hn2 hm2 hW0
  go_enter Try.func23, Try.ntmps23
  go_wp2_with fail
  rw [← HW0.out]
  go_loopw [7, 11] (fun _ v wr => ∃ k : Nat, v = .int .i64 k ∧ k ≤ n2 ∧ Below W0.heap.size W0 wr ∧ (W.take k).all (hasT S) = true) (fun _ v _ => n2 - (intOf v).toNat)
  case atStart => exact ⟨0, rfl, Nat.zero_le _, Below.refl _ _, rfl⟩
  case round =>
    obtain ⟨k, rfl, hk, hbel, hall⟩ := hrel
    have J := Lib.hid hbel
    have HALL := Lib.hid hall
    clear hbel hall
    by_cases hlt : k < n2
    · have hlt' : (k : Int) < (n2 : Int) := by omega
      have KT : Hid (k < W.length) := Lib.hid (by have := HN2.out; omega)
      rcases H2.out with h' | ⟨b, bo, rfl, hb, hcell⟩
      · exfalso; have := KT.out; rw [h'] at this; simp at this
      obtain ⟨e5, e6⟩ := hcell k KT.out
      have NX := Lib.hid (allT_next (hasT S) W k KT.out HALL.out)
      have BD := Lib.hid (allT_bad (hasT S) W k KT.out)
      have GV : Hid (hasT S (W.getD k tr0) = S.any (sameT (W.getD k tr0).1 (W.getD k tr0).2)) := Lib.hid rfl
      obtain ⟨s, hs⟩ : ∃ x, x = (W.getD k tr0).1 := ⟨_, rfl⟩
      obtain ⟨t, ht⟩ : ∃ x, x = (W.getD k tr0).2 := ⟨_, rfl⟩
      have BB := Lib.hid (B0.out.trans (J.out.mono (by have := SZ.out; omega)))
      replace e5 := (BB.out.cell (p := ⟨b, bo + k * 2, none⟩) hb).trans e5
      replace e6 := (BB.out.cell (p := ⟨b, bo + k * 2 + 1, none⟩) hb).trans e6
      rw [← hs] at e5
      rw [← ht] at e6
      rw [← hs, ← ht] at GV
      have BT := Lib.hid (J.out.trans (((Below.refl wr.heap.size wr).alloc (Nat.le_refl _) (.cells #[.string s, .string t] 33)).mono J.out.size))
      have CC := Lib.hid (CM.out s t _ BT.out)
      obtain ⟨c0, c1⟩ := boxT_cells wr s t
      clear hcell hs ht
      cases hq : S.any (sameT s t) with
      | true =>
        have F := Lib.hid (NX.out (by rw [GV.out, hq]))
        rw [hq] at CC
        clear hq
        go_wp2_with fail
        go_at_call 49; refine CC.out.mono ?_; rintro e w1 ⟨rfl, hb1⟩
        have BE := Lib.hid (BT.out.trans (hb1.mono BT.out.size))
        clear hb1
        go_wp2_with fail
        go_roundw
        case rel => exact ⟨k + 1, by go_num, by omega, BE.out, F.out⟩
        case measure => simp [intOf]; omega
      | false =>
        have F := Lib.hid (BD.out (by rw [GV.out, hq]))
        rw [hq] at CC
        clear hq
        go_wp2_with fail
        go_at_call 49; refine CC.out.mono ?_; rintro e w1 ⟨rfl, hb1⟩
        have BE := Lib.hid (B0.out.trans ((BT.out.trans (hb1.mono BT.out.size)).mono (by have := SZ.out; omega)))
        clear hb1
        go_wp2_with fail
        go_ret
        exact ⟨ret_bool F.out.symm, BE.out⟩
    · obtain rfl : k = n2 := by omega
      have F : Hid (meetsB S W = true) := Lib.hid (by
        have h := HALL.out
        rwa [HN2.out, List.take_of_length_le (Nat.le_refl _)] at h)
      have BB := Lib.hid (B0.out.trans (J.out.mono (by have := SZ.out; omega)))
      go_wp2_with fail
      go_ret
      exact ⟨ret_bool F.out.symm, BB.out⟩

end Go.Proofs.Ytbffcehaednefaa.Variant
