/- Variants: rows of settings: are they great, a wish, is a setting among them, do they meet a wish. -/
import Derived.Test.YtbffcehaednefaaVariantMany
namespace Go.Proofs.Ytbffcehaednefaa.Variant
set_option linter.unusedVariables false
set_option linter.unusedSimpArgs false
open Go.RowKit

theorem anyT_next (p : Tr → Bool) (T : List Tr) (k : Nat) (hk : k < T.length) (h : (T.take k).any p = false) (he : p (T.getD k tr0) = false) : (T.take (k + 1)).any p = false := by
  rw [List.take_succ_eq_append_getElem hk, List.any_append, h]
  have : T[k] = T.getD k tr0 := by rw [List.getD_eq_getElem?_getD, List.getElem?_eq_getElem hk]; rfl
  rw [this]
  simp only [List.any_cons, List.any_nil, he]
  rfl
theorem anyT_hit (p : Tr → Bool) (T : List Tr) (k : Nat) (hk : k < T.length) (he : p (T.getD k tr0) = true) : T.any p = true := by
  rw [List.any_eq_true]
  have e : T[k] = T.getD k tr0 := by rw [List.getD_eq_getElem?_getD, List.getElem?_eq_getElem hk]; rfl
  exact ⟨T[k], List.getElem_mem _, by rw [e]; exact he⟩
theorem allT_next (p : Tr → Bool) (T : List Tr) (k : Nat) (hk : k < T.length) (h : (T.take k).all p = true) (he : p (T.getD k tr0) = true) : (T.take (k + 1)).all p = true := by
  rw [List.take_succ_eq_append_getElem hk, List.all_append, h]
  have : T[k] = T.getD k tr0 := by rw [List.getD_eq_getElem?_getD, List.getElem?_eq_getElem hk]; rfl
  rw [this]
  simp only [List.all_cons, List.all_nil, he]
  rfl
theorem allT_bad (p : Tr → Bool) (T : List Tr) (k : Nat) (hk : k < T.length) (he : p (T.getD k tr0) = false) : T.all p = false := by
  rw [List.all_eq_false]
  have e : T[k] = T.getD k tr0 := by rw [List.getD_eq_getElem?_getD, List.getElem?_eq_getElem hk]; rfl
  exact ⟨T[k], List.getElem_mem _, by rw [e, he]; simp⟩

def gt (t : Tr) : Bool := decide (100 < t.1.size) || decide (100 < t.2.size)
def greatT (T : List Tr) : Bool := decide (50 < T.length) || T.any gt

set_option maxHeartbeats 2000000 in
theorem rgreatT_any (A : Option Addr) (T : List Tr) (n c : Nat) (w : World) (h : TRow w w.heap.size A T) (hn : n = T.length) :
    Calls Try.prog 20 #[.slice A n c] w fun e w' => e = .returned (.bool (greatT T)) ∧ w = w' := by
  have HN := Lib.hid hn
  have H := Lib.hid h
  clear hn h
  by_cases h50 : n ≤ 50
  · have z50 : (n : Int) ≤ 50 := by omega
    have GOOD : Hid (T.any gt = greatT T) := Lib.hid (by unfold greatT; rw [← HN.out, decide_eq_false (by omega : ¬ 50 < n)]; rfl)
    go_enter Try.func20, Try.ntmps20
    go_wp2_with fail
    go_loopw [3, 9] (fun _ v wr => ∃ k : Nat, v = .int .i64 k ∧ k ≤ n ∧ wr = w ∧ (T.take k).any gt = false) (fun _ v _ => n - (intOf v).toNat)
    case atStart => exact ⟨0, rfl, Nat.zero_le _, rfl, rfl⟩
    case round =>
      obtain ⟨k, rfl, hk, rfl, hall⟩ := hrel
      have HALL := Lib.hid hall
      clear hall
      by_cases hlt : k < n
      · have hlt' : (k : Int) < (n : Int) := by omega
        have KT : Hid (k < T.length) := Lib.hid (by have := HN.out; omega)
        rcases H.out with h' | ⟨b, bo, rfl, hb, hcell⟩
        · exfalso; have := KT.out; rw [h'] at this; simp at this
        obtain ⟨e5, e6⟩ := hcell k KT.out
        have NX := Lib.hid (anyT_next gt T k KT.out HALL.out)
        have HT := Lib.hid (anyT_hit gt T k KT.out)
        have GV : Hid (gt (T.getD k tr0) = (decide (100 < (T.getD k tr0).1.size) || decide (100 < (T.getD k tr0).2.size))) := Lib.hid rfl
        obtain ⟨x, hx⟩ : ∃ x, x = (T.getD k tr0).1 := ⟨_, rfl⟩
        obtain ⟨y, hy⟩ : ∃ x, x = (T.getD k tr0).2 := ⟨_, rfl⟩
        rw [← hx] at e5
        rw [← hy] at e6
        rw [← hx, ← hy] at GV
        clear hcell hx hy
        by_cases h1 : 100 < x.size
        · have z1 : (100 : Int) < (x.size : Int) := by omega
          have F := Lib.hid (HT.out (by rw [GV.out, decide_eq_true h1]; rfl))
          clear h1
          go_wp2_with fail
          go_ret
          exact ⟨ret_bool (by rw [← GOOD.out, F.out]), rfl⟩
        · have z1 : (x.size : Int) ≤ 100 := by omega
          by_cases h2 : 100 < y.size
          · have z2 : (100 : Int) < (y.size : Int) := by omega
            have F := Lib.hid (HT.out (by rw [GV.out, decide_eq_true h2]; simp))
            clear h1 h2
            go_wp2_with fail
            go_ret
            exact ⟨ret_bool (by rw [← GOOD.out, F.out]), rfl⟩
          · have z2 : (y.size : Int) ≤ 100 := by omega
            have F := Lib.hid (NX.out (by rw [GV.out, decide_eq_false h1, decide_eq_false h2]; rfl))
            clear h1 h2
            go_wp2_with fail
            go_roundw
            case rel => exact ⟨k + 1, by go_num, by omega, trivial, F.out⟩
            case measure => simp [intOf]; omega
      · obtain rfl : k = n := by omega
        have F : Hid (greatT T = false) := Lib.hid (by
          rw [← GOOD.out]
          have h := HALL.out
          rwa [HN.out, List.take_of_length_le (Nat.le_refl _)] at h)
        go_wp2_with fail
        go_ret
        exact ⟨ret_bool F.out.symm, rfl⟩
  · have z50 : 50 < (n : Int) := by omega
    have F : Hid (greatT T = true) := Lib.hid (by unfold greatT; rw [← HN.out, decide_eq_true (by omega : 50 < n)]; rfl)
    go_enter Try.func20, Try.ntmps20
    go_wp2_with fail
    go_ret
    exact ⟨ret_bool F.out.symm, rfl⟩

/-! ### wishes -/
def ltS (a b : ByteArray) : Bool := Op.bytesLess a.toList b.toList
def wishAt (T : List Tr) (i : Nat) : Bool := nameB (T.getD i tr0).1.data.toList && valueB (T.getD i tr0).2.data.toList && (decide (i = 0) || ltS (T.getD (i - 1) tr0).1 (T.getD i tr0).1)
def wishB (T : List Tr) : Bool := (List.range T.length).all (wishAt T)
def FitT (T : List Tr) : Prop := ∀ i, (T.getD i tr0).1.size ≤ maxLen ∧ (T.getD i tr0).2.size ≤ maxLen

set_option maxHeartbeats 4000000 in
set_option maxRecDepth 100000 in
theorem rwish_any (A : Option Addr) (T : List Tr) (n c : Nat) (w : World) (h : TRow w w.heap.size A T) (hn : n = T.length) (hm : n ≤ maxLen) (hfit : FitT T) :
    Calls Try.prog 22 #[.slice A n c] w fun e w' => e = .returned (.bool (wishB T)) ∧ Below w.heap.size w w' := by
  have h63 : (n : Int) ≤ 9223372036854775807 := by unfold maxLen at hm; omega
  have HN := Lib.hid hn
  have H := Lib.hid h
  have FIT := Lib.hid hfit
  have GOOD : Hid ((List.range n).all (wishAt T) = wishB T) := Lib.hid (by unfold wishB; rw [← HN.out])
  clear hn h hm hfit
  go_enter Try.func22, Try.ntmps22
  go_wp2_with fail
  go_loopw [3, 6] (fun _ v wr => ∃ k : Nat, v = .int .i64 k ∧ k ≤ n ∧ Below w.heap.size w wr ∧ (List.range k).all (wishAt T) = true) (fun _ v _ => n - (intOf v).toNat)
  case atStart => exact ⟨0, rfl, Nat.zero_le _, Below.refl _ _, rfl⟩
  case round =>
    obtain ⟨k, rfl, hk, hbel, hall⟩ := hrel
    have J := Lib.hid hbel
    have HALL := Lib.hid hall
    clear hbel hall
    by_cases hlt : k < n
    · have hlt' : (k : Int) < (n : Int) := by omega
      have KT : Hid (k < T.length) := Lib.hid (by have := HN.out; omega)
      rcases H.out with h' | ⟨b, bo, rfl, hb, hcell⟩
      · exfalso; have := KT.out; rw [h'] at this; simp at this
      have BADK := Lib.hid (fun h => GOOD.out.symm.trans (range_bad (wishAt T) k n hlt h))
      have NEXTK := Lib.hid (range_snoc (wishAt T) k HALL.out)
      obtain ⟨e5, e6⟩ := hcell k KT.out
      obtain ⟨x, hx⟩ : ∃ x, x = (T.getD k tr0).1 := ⟨_, rfl⟩
      obtain ⟨y, hy⟩ : ∃ x, x = (T.getD k tr0).2 := ⟨_, rfl⟩
      obtain ⟨p, hp⟩ : ∃ x, x = (T.getD (k - 1) tr0).1 := ⟨_, rfl⟩
      have OK : Hid (wishAt T k = (nameB x.data.toList && valueB y.data.toList && (decide (k = 0) || ltS p x))) := Lib.hid (by rw [hx, hy, hp]; rfl)
      have NQ : Hid (∀ w, Calls Try.prog 13 #[.string x] w fun e w' => e = .returned (.bool (nameB x.data.toList)) ∧ w' = w) := Lib.hid (fun w => (rname_any x w).mono fun e w' h => ⟨h.1, h.2.symm⟩)
      have VQ : Hid (∀ w, Calls Try.prog 15 #[.string y] w fun e w' => e = .returned (.bool (valueB y.data.toList)) ∧ w' = w) := Lib.hid (fun w => (rvalue_any y w (by rw [hy]; exact (FIT.out k).2)).mono fun e w' h => ⟨h.1, h.2.symm⟩)
      rw [← hx] at e5
      rw [← hy] at e6
      replace e5 := (J.out.cell (p := ⟨b, bo + k * 2, none⟩) hb).trans e5
      replace e6 := (J.out.cell (p := ⟨b, bo + k * 2 + 1, none⟩) hb).trans e6
      have D := Lib.hid (fun m => drewN_below J.out m)
      cases hnb : nameB x.data.toList with
      | false =>
        have F := Lib.hid (BADK.out (by rw [OK.out, hnb]; rfl))
        rw [hnb] at NQ
        clear hnb hcell hx hy hp
        go_wp2_with fail
        go_quiet ((first | (go_at_call 13; exact Calls.quiet_of_same (NQ.out _)) | (go_at_call 15; exact Calls.quiet_of_same (VQ.out _))))
        go_wp2_with fail
        go_ret
        exact ⟨ret_bool F.out.symm, D.out _⟩
      | true =>
        rw [hnb] at NQ
        cases hvb : valueB y.data.toList with
        | false =>
          have F := Lib.hid (BADK.out (by rw [OK.out, hnb, hvb]; rfl))
          rw [hvb] at VQ
          clear hnb hvb hcell hx hy hp
          go_wp2_with fail
          go_quiet ((first | (go_at_call 13; exact Calls.quiet_of_same (NQ.out _)) | (go_at_call 15; exact Calls.quiet_of_same (VQ.out _))))
          go_wp2_with fail
          go_ret
          exact ⟨ret_bool F.out.symm, D.out _⟩
        | true =>
          rw [hvb] at VQ
          by_cases h0 : k = 0
          · subst h0
            rw [Nat.zero_mul, Nat.add_zero] at e5 e6
            have F := Lib.hid (NEXTK.out (by rw [OK.out, hnb, hvb]; rfl))
            clear hnb hvb hcell hx hy hp
            go_wp2_with fail
            go_quiet ((first | (go_at_call 13; exact Calls.quiet_of_same (NQ.out _)) | (go_at_call 15; exact Calls.quiet_of_same (VQ.out _))))
            go_wp2_with fail
            go_roundw
            case rel => exact ⟨1, rfl, by omega, D.out _, F.out⟩
            case measure => simp [intOf]; omega
          · obtain ⟨i, rfl⟩ : ∃ i, k = i + 1 := ⟨k - 1, by omega⟩
            have ep := (hcell i (by have := KT.out; omega)).1
            rw [Nat.add_sub_cancel] at hp
            rw [← hp] at ep
            replace ep := (J.out.cell (p := ⟨b, bo + i * 2, none⟩) hb).trans ep
            have hk0 : (0 : Int) < ((i + 1 : Nat) : Int) := by omega
            have hk1 : IntKind.i64.wrap (((i + 1 : Nat) : Int) - 1) = (i : Int) := by
              rw [show ((i + 1 : Nat) : Int) - 1 = (i : Int) by omega]; exact IntWalk.i64_in _ (by omega)
            cases hl : ltS p x with
            | true =>
              have F := Lib.hid (NEXTK.out (by rw [OK.out, hnb, hvb, hl]; simp))
              have hl' : Op.bytesLess p.toList x.toList = true := hl
              clear hnb hvb hcell hx hy hp hl h0
              go_wp2_with fail
              go_quiet ((first | (go_at_call 13; exact Calls.quiet_of_same (NQ.out _)) | (go_at_call 15; exact Calls.quiet_of_same (VQ.out _))))
              go_wp2_with fail
              go_roundw
              case rel => exact ⟨i + 1 + 1, by go_num, by omega, D.out _, F.out⟩
              case measure => simp [intOf]; omega
            | false =>
              have F := Lib.hid (BADK.out (by rw [OK.out, hnb, hvb, hl]; simp))
              have hl' : Op.bytesLess p.toList x.toList = false := hl
              clear hnb hvb hcell hx hy hp hl h0
              go_wp2_with fail
              go_quiet ((first | (go_at_call 13; exact Calls.quiet_of_same (NQ.out _)) | (go_at_call 15; exact Calls.quiet_of_same (VQ.out _))))
              go_wp2_with fail
              go_ret
              exact ⟨ret_bool F.out.symm, D.out _⟩
    · obtain rfl : k = n := by omega
      go_wp2_with fail
      go_ret
      exact ⟨ret_bool (by rw [← GOOD.out, HALL.out]), J.out⟩

end Go.Proofs.Ytbffcehaednefaa.Variant
