/- The law that too few atoms leave no count and a full table, walked. -/
import Derived.Test.YtcjcnhnpjcgcmaaTotK
namespace Go.Proofs.Ytcjcnhnpjcgcmaa.Tot
set_option linter.unusedVariables false
set_option linter.unusedSimpArgs false
open Go.RowKit Go.Maps
open Go.Proofs.Ytcjcnhnpjcgcmaa.Order (IRow ERow add_at GI make_ints)
open Go.Proofs.Ytcjcnhnpjcgcmaa.Cnf (Bd Rg RgL formOf rowV own_irow hasNone contains_any noneI noneR_any atomR_any atomW same_any)
open Go.Proofs.Ytcjcnhnpjcgcmaa.Tbl (Fr TS blkOf blkOf_eq hs HelpEnd help_gen hs_len)

set_option maxHeartbeats 1000000 in
theorem lim_great (A : Option Addr) (n c : Nat) (cap x : Int) (w : World) (h : 20 < n) :
    Calls Try.prog 7 #[.slice A n c, .int .i64 cap, .int .u8 x] w fun e w' => e = .returned (.bool true) ∧ Below w.heap.size w w' := by
  have FX := Lib.hid (fixed_any w)
  have z : (20 : Int) < (n : Int) := by omega
  clear h
  go_enter Try.func7, Try.ntmps7
  go_wp2_with fail
  refine FX.out.mono ?_
  rintro e w' ⟨rfl, hb⟩
  have B := Lib.hid hb
  clear hb
  go_wp2_with fail
  go_ret
  exact ⟨rfl, B.out⟩

theorem gi_irow {w : World} {q : Nat} {l : List Int} (h : GI w q l) : IRow w w.heap.size (some ⟨q, 0, none⟩) l := .inr ⟨q, 0, rfl, lt_of_block h, fun j hj => by simpa using h.cell j hj⟩
variable {Z tb g tb2 L : Nat} {w w' w1 w2 w3 : World}
theorem ts_stp {lim : Nat} (h : TS Z tb2 lim 0 false none 0 [] w) (hs : Stp Z tb g w w') (h1 : tb2 ≠ tb) (h2 : tb2 ≠ tb + 1) (h3 : tb2 ≠ g) (h4 : tb2 + 1 ≠ tb) (h5 : tb2 + 1 ≠ g) : TS Z tb2 lim 0 false none 0 [] w' := by
  have tT := TSisT (hp := 0) (k := 0) (f := false) (A := none) (cp := 0) (lim := lim) (tb := tb2) (w := w) h
  refine h.keep (S := fun i => ¬ (i ≠ tb ∧ i ≠ tb + 1 ∧ i ≠ g ∧ ¬ Rish w i)) ⟨hs.bel.os, hs.bel.tape, hs.bel.output, hs.bel.size, fun i hi hn => ?_⟩ (fun hn => hn ⟨h1, h2, h3, fun hr => ?_⟩) (fun hn => hn ⟨h4, by omega, h5, fun hr => ?_⟩) (fun i hi => by cases hi)
  · obtain ⟨a, b, c, d⟩ := Classical.not_not.1 hn
    exact hs.keep i hi a b c d
  · rcases hr with hr | hr
    · exact tT.2.1 _ hr
    · exact tT.2.1 _ hr
  · rcases hr with hr | hr
    · have := tT.1.ne hr
      revert this; decide
    · have := tT.1.ne hr
      revert this; decide
theorem tab_stp {t : Nat} {cs : Array Value} (h : w.heap[t + 1]? = some (.cells cs 58 (0, 0))) (hs : Stp Z tb g w w') (h1 : t + 1 ≠ tb) (h2 : t + 1 ≠ tb + 1) (h3 : t + 1 ≠ g) : w'.heap[t + 1]? = some (.cells cs 58 (0, 0)) := by
  refine (hs.keep _ (lt_of_block h) h1 h2 h3 (fun hr => ?_)).trans h
  have hT : IsT w (t + 1) 58 := ⟨_, _, h⟩
  rcases hr with hr | hr
  · have := hT.ne hr
    revert this; decide
  · have := hT.ne hr
    revert this; decide
theorem contains_step {l : List Int} {i : Nat} (h : i < l.length) : (l.take (i + 1)).contains 0 = ((l.take i).contains 0 || (l.getD i 0 == 0)) := by
  have e : l.take (i + 1) = l.take i ++ [l.getD i 0] := by
    rw [List.take_add_one, List.getD_eq_getElem?_getD, List.getElem?_eq_getElem h]
    rfl
  rw [e]
  rw [Bool.eq_iff_iff]
  simp only [List.contains_iff_mem, List.mem_append, List.mem_singleton, Bool.or_eq_true, beq_iff_eq]
  constructor
  · rintro (h | h)
    · exact .inl h
    · exact .inr h.symm
  · rintro (h | h)
    · exact .inl h
    · exact .inr h.symm
theorem small_step {l : List Int} {i : Nat} (h : i < l.length) (ha : ∀ x ∈ l.take i, -1000 ≤ x ∧ x ≤ 1000) (hx : -1000 ≤ l.getD i 0 ∧ l.getD i 0 ≤ 1000) : ∀ x ∈ l.take (i + 1), -1000 ≤ x ∧ x ≤ 1000 := by
  have e : l.take (i + 1) = l.take i ++ [l.getD i 0] := by
    rw [List.take_add_one, List.getD_eq_getElem?_getD, List.getElem?_eq_getElem h]
    rfl
  rw [e]
  intro x h
  rw [List.mem_append, List.mem_singleton] at h
  rcases h with h | rfl
  · exact ha x h
  · exact hx

set_option maxHeartbeats 8000000 in
set_option maxRecDepth 100000 in
theorem lim_main (A : Option Addr) (l : List Int) (n c L : Nat) (cap : Int) (w : World) (hr : IRow w w.heap.size A l) (hn : n = l.length) (hc : n ≤ c) (hcm : c ≤ maxLen) (hl : ∀ x ∈ l, Rg x) (hn1 : n ≤ 20) (hL : L ≤ 255) :
    Calls Try.prog 7 #[.slice A n c, .int .i64 cap, .int .u8 (L : Nat)] w fun e w' => e = .returned (.bool true) ∧ Below w.heap.size w w' := by
  have zn : (n : Int) ≤ 20 := by omega
  have zL : (L : Int) ≤ 255 := by omega
  have HR := Lib.hid hr
  have HN := Lib.hid hn
  have HC := Lib.hid hc
  have HCM := Lib.hid hcm
  have HL := Lib.hid hl
  have HN1 := Lib.hid hn1
  have HLL := Lib.hid hL
  clear hr hn hc hcm hl hn1 hL
  go_enter Try.func7, Try.ntmps7
  go_wp2_with fail
  go_loopw [7, 9, 20] (fun z _ v wr => ∃ i : Nat, v = .int .i64 i ∧ i ≤ n ∧ z = .bool ((l.take i).contains 0) ∧ (∀ x ∈ l.take i, -1000 ≤ x ∧ x ≤ 1000) ∧ wr = w) (fun _ _ v _ => n - (intOf v).toNat)
  case atStart => exact ⟨0, rfl, Nat.zero_le _, by rw [List.take_zero]; rfl, fun x hx => by simp at hx, rfl⟩
  case round =>
    obtain ⟨i, rfl, hi, rfl, hsm, h'⟩ := hrel
    obtain rfl := h'.symm
    have SM := Lib.hid hsm
    clear hsm
    by_cases hlt : i < n
    · have hlt' : (i : Int) < (n : Int) := by omega
      have K1 : Hid (i < l.length) := Lib.hid (by have := HN.out; omega)
      have CSTEP := Lib.hid (contains_step K1.out)
      rcases HR.out with h' | ⟨b1, o1, rfl, hb1, hc1⟩
      · exfalso; have := K1.out; rw [h'] at this; simp at this
      have f1 := hc1 i K1.out
      have XR : Hid (Rg (l.getD i 0)) := Lib.hid (Cnf.RgL.at HL.out K1.out)
      obtain ⟨x, hx⟩ : ∃ x, x = l.getD i 0 := ⟨_, rfl⟩
      have HX := Lib.hid hx
      rw [← hx] at f1 XR CSTEP
      obtain ⟨z, hz⟩ : ∃ z, z = (l.take i).contains 0 := ⟨_, rfl⟩
      rw [← hz] at CSTEP ⊢
      have NR := Lib.hid (noneR_any x XR.out w)
      have AT := Lib.hid (atomR_any x XR.out w)
      have FX := Lib.hid (fixed_any w)
      clear hx hz hc1
      by_cases hok : -1000 ≤ x ∧ x ≤ 1000
      · obtain ⟨a, ha⟩ : ∃ a, a = atomW x := ⟨_, rfl⟩
        have ha1 : a ≤ 1000 := by rw [ha]; unfold atomW; split <;> omega
        rw [← ha] at AT
        have SM2 : Hid (∀ y ∈ l.take (i + 1), -1000 ≤ y ∧ y ≤ 1000) := Lib.hid (small_step K1.out SM.out (by rw [← HX.out]; exact hok))
        by_cases hx0 : x = 0
        · subst hx0
          have NR2 : Hid (Calls Try.prog 18 #[.int .i64 0] w fun e w' => e = .returned (.bool true) ∧ w = w') := Lib.hid NR.out
          have CS2 : Hid ((l.take (i + 1)).contains 0 = true) := Lib.hid (by rw [CSTEP.out]; simp)
          clear NR CSTEP ha hok
          cases z
          · go_wp2_with fail
            refine NR2.out.mono ?_
            rintro e w' ⟨rfl, rfl⟩
            go_wp2_with fail
            refine AT.out.mono ?_
            rintro e w' ⟨rfl, rfl⟩
            go_wp2_with fail
            go_roundw
            case rel => exact ⟨i + 1, by go_num, by omega, by rw [CS2.out], SM2.out, trivial⟩
            case measure => simp [intOf]; omega
          · go_wp2_with fail
            refine NR2.out.mono ?_
            rintro e w' ⟨rfl, rfl⟩
            go_wp2_with fail
            refine AT.out.mono ?_
            rintro e w' ⟨rfl, rfl⟩
            go_wp2_with fail
            go_roundw
            case rel => exact ⟨i + 1, by go_num, by omega, by rw [CS2.out], SM2.out, trivial⟩
            case measure => simp [intOf]; omega
        · have NR2 : Hid (Calls Try.prog 18 #[.int .i64 x] w fun e w' => e = .returned (.bool false) ∧ w = w') := Lib.hid (by
            have t := NR.out
            have e : noneI x = false := by unfold noneI; simp [hx0]; omega
            rwa [e] at t)
          have CS2 : Hid ((l.take (i + 1)).contains 0 = z) := Lib.hid (by rw [CSTEP.out, beq_eq_false_iff_ne.2 hx0, Bool.or_false])
          have hx1 : (x == 0) = false := beq_eq_false_iff_ne.2 hx0
          have hx2 : decide (x = 0) = false := decide_eq_false hx0
          clear NR CSTEP ha hok
          cases z
          · go_wp2_with fail
            refine NR2.out.mono ?_
            rintro e w' ⟨rfl, rfl⟩
            go_wp2_with fail
            refine AT.out.mono ?_
            rintro e w' ⟨rfl, rfl⟩
            go_wp2_with fail
            go_roundw
            case rel => exact ⟨i + 1, by go_num, by omega, by rw [CS2.out], SM2.out, trivial⟩
            case measure => simp [intOf]; omega
          · go_wp2_with fail
            refine NR2.out.mono ?_
            rintro e w' ⟨rfl, rfl⟩
            go_wp2_with fail
            refine AT.out.mono ?_
            rintro e w' ⟨rfl, rfl⟩
            go_wp2_with fail
            go_roundw
            case rel => exact ⟨i + 1, by go_num, by omega, by rw [CS2.out], SM2.out, trivial⟩
            case measure => simp [intOf]; omega
      · have hx0 : ¬ x = 0 := by omega
        have hx1 : (x == 0) = false := beq_eq_false_iff_ne.2 hx0
        have hx3 : (x != 0) = true := by rw [bne_iff_ne]; exact hx0
        by_cases hmin : x = -9223372036854775808
        · have NR2 : Hid (Calls Try.prog 18 #[.int .i64 x] w fun e w' => e = .returned (.bool true) ∧ w = w') := Lib.hid (by
            have t := NR.out
            have e : noneI x = true := by unfold noneI; simp [hmin]
            rwa [e] at t)
          clear NR CSTEP hmin hok AT
          cases z
          · go_wp2_with fail
            refine NR2.out.mono ?_
            rintro e w' ⟨rfl, rfl⟩
            go_wp2_with fail
            refine FX.out.mono ?_
            rintro e w' ⟨rfl, hb⟩
            have B := Lib.hid hb
            clear hb
            go_wp2_with fail
            go_ret
            exact ⟨rfl, B.out⟩
          · go_wp2_with fail
            refine NR2.out.mono ?_
            rintro e w' ⟨rfl, rfl⟩
            go_wp2_with fail
            refine FX.out.mono ?_
            rintro e w' ⟨rfl, hb⟩
            have B := Lib.hid hb
            clear hb
            go_wp2_with fail
            go_ret
            exact ⟨rfl, B.out⟩
        · have NR2 : Hid (Calls Try.prog 18 #[.int .i64 x] w fun e w' => e = .returned (.bool false) ∧ w = w') := Lib.hid (by
            have t := NR.out
            have e : noneI x = false := by unfold noneI; simp [hmin, hx0]
            rwa [e] at t)
          obtain ⟨a, ha⟩ : ∃ a, a = atomW x := ⟨_, rfl⟩
          have ha1 : 1000 < a := by have := XR.out.1; have := XR.out.2; rw [ha]; unfold atomW; split <;> (try rw [IntWalk.i64_in _ (by omega)]) <;> omega
          rw [← ha] at AT
          clear NR CSTEP hmin hok ha
          cases z
          · go_wp2_with fail
            refine NR2.out.mono ?_
            rintro e w' ⟨rfl, rfl⟩
            go_wp2_with fail
            refine AT.out.mono ?_
            rintro e w' ⟨rfl, rfl⟩
            go_wp2_with fail
            refine FX.out.mono ?_
            rintro e w' ⟨rfl, hb⟩
            have B := Lib.hid hb
            clear hb
            go_wp2_with fail
            go_ret
            exact ⟨rfl, B.out⟩
          · go_wp2_with fail
            refine NR2.out.mono ?_
            rintro e w' ⟨rfl, rfl⟩
            go_wp2_with fail
            refine AT.out.mono ?_
            rintro e w' ⟨rfl, rfl⟩
            go_wp2_with fail
            refine FX.out.mono ?_
            rintro e w' ⟨rfl, hb⟩
            have B := Lib.hid hb
            clear hb
            go_wp2_with fail
            go_ret
            exact ⟨rfl, B.out⟩
    · have hin : i = n := by omega
      subst hin
      have TK : Hid (l.take i = l) := Lib.hid (List.take_of_length_le (by have := HN.out; omega))
      have SL : Hid (∀ x ∈ l, Okx x) := Lib.hid (fun x hx => by have := SM.out x (by rw [TK.out]; exact hx); exact ⟨by omega, by omega⟩)
      rw [TK.out]
      have N1 : Hid (Calls Try.prog 20 #[.int .i64 5000] w fun e w' => e = .returned (.pointer (some ⟨w.heap.size + 1, 0, none⟩)) ∧ TS w.heap.size w.heap.size 5000 0 false none 0 [] w' ∧ Below w.heap.size w w') := Lib.hid (Tbl.new_any 5000 (by omega) w w.heap.size (Nat.le_refl _))
      have IR0 : Hid (∀ tb g W, Below w.heap.size w W → Ir w.heap.size tb g W A l) := Lib.hid (fun tb g W hb => by
        rcases HR.out with h | ⟨b, o, h1, h2, h3⟩
        · exact .inl h
        · refine .inr ⟨b, o, h1, Nat.lt_of_lt_of_le h2 hb.size, .inl h2, fun j hj => (hb.cell (p := ⟨b, o + j, none⟩) h2).trans (h3 j hj)⟩)
      by_cases hz : l.contains 0 = true
      · rw [hz]
        go_wp2_with fail
        refine N1.out.mono ?_
        rintro e w1 ⟨rfl, t1, b1⟩
        have T1 := Lib.hid t1
        have B1 := Lib.hid b1
        have S1 : Hid (w.heap.size + 2 ≤ w1.heap.size) := Lib.hid (by have := lt_of_block t1.tab; omega)
        have N2 := Lib.hid (Tbl.new_any L (by have := HLL.out; omega) w1 w.heap.size (by have := S1.out; omega))
        clear t1 b1
        go_wp2_with fail
        refine N2.out.mono ?_
        rintro e w2 ⟨rfl, t2, b2⟩
        have T2 := Lib.hid t2
        have T1 := Lib.hid (T1.out.below b2)
        have S2 : Hid (w1.heap.size + 2 ≤ w2.heap.size) := Lib.hid (by have := lt_of_block t2.tab; omega)
        have B2 : Hid (Below w.heap.size w w2) := Lib.hid (B1.out.trans (b2.mono B1.out.size))
        clear t2 b2
        go_wp2_with fail
        refine (Cnf.new_any w2).mono ?_
        rintro e w3 ⟨rfl, hbd, b3⟩
        have T1 := Lib.hid (T1.out.below b3)
        have T2 := Lib.hid (T2.out.below b3)
        have B3 : Hid (Below w.heap.size w w3) := Lib.hid (B2.out.trans (b3.mono B2.out.size))
        have S3 : Hid (w2.heap.size + 1 ≤ w3.heap.size) := Lib.hid (by have := hbd.lt.1; omega)
        have BD3 : Hid (BS w.heap.size w2.heap.size 0 none 0 w3) := Lib.hid ⟨[], [], ⟨hbd.blk, B2.out.size, World.ownsRow_nil _ _ _ _, rfl, by simp [Value.ownBlock], fun i => by simp, fun i hi => absurd hi (Nat.not_lt_zero _)⟩⟩
        clear hbd b3
        have CN1 := Lib.hid (cnt_nil ⟨w.heap.size + 1, 0, none⟩ ⟨w2.heap.size, 0, none⟩ A i c l cap w3 (IR0.out 0 0 w3 B3.out).irow HN.out HN1.out (.inr (.inr hz)))
        go_wp2_with fail
        refine CN1.out.mono ?_
        rintro e w' ⟨rfl, rfl⟩
        go_wp2_with fail
        refine (Cnf.new_any w3).mono ?_
        rintro e w4 ⟨rfl, hbd, b4⟩
        have T1 := Lib.hid (T1.out.below b4)
        have B4 : Hid (Below w.heap.size w w4) := Lib.hid (B3.out.trans (b4.mono B3.out.size))
        have CN2 := Lib.hid (cnt_nil ⟨w1.heap.size + 1, 0, none⟩ ⟨w3.heap.size, 0, none⟩ A i c l cap w4 (IR0.out 0 0 w4 B4.out).irow HN.out HN1.out (.inr (.inr hz)))
        clear hbd b4
        go_wp2_with fail
        refine CN2.out.mono ?_
        rintro e w' ⟨rfl, rfl⟩
        have FX := Lib.hid (fixed_any w4)
        go_wp2_with fail
        refine FX.out.mono ?_
        rintro e w7 ⟨rfl, b7⟩
        have B7 : Hid (Below w.heap.size w w7) := Lib.hid (B4.out.trans (b7.mono B4.out.size))
        clear b7
        go_wp2_with fail
        go_ret
        exact ⟨rfl, B7.out⟩
      · have Z0 : Hid (l.contains 0 = false) := Lib.hid (by cases h : l.contains 0 with
          | true => exact (hz h).elim
          | false => rfl)
        rw [Z0.out]
        clear hz
        by_cases hcap : cap < 1
        · go_wp2_with fail
          refine N1.out.mono ?_
          rintro e w1 ⟨rfl, t1, b1⟩
          have T1 := Lib.hid t1
          have B1 := Lib.hid b1
          have S1 : Hid (w.heap.size + 2 ≤ w1.heap.size) := Lib.hid (by have := lt_of_block t1.tab; omega)
          have N2 := Lib.hid (Tbl.new_any L (by have := HLL.out; omega) w1 w.heap.size (by have := S1.out; omega))
          clear t1 b1
          go_wp2_with fail
          refine N2.out.mono ?_
          rintro e w2 ⟨rfl, t2, b2⟩
          have T2 := Lib.hid t2
          have T1 := Lib.hid (T1.out.below b2)
          have S2 : Hid (w1.heap.size + 2 ≤ w2.heap.size) := Lib.hid (by have := lt_of_block t2.tab; omega)
          have B2 : Hid (Below w.heap.size w w2) := Lib.hid (B1.out.trans (b2.mono B1.out.size))
          clear t2 b2
          go_wp2_with fail
          refine (Cnf.new_any w2).mono ?_
          rintro e w3 ⟨rfl, hbd, b3⟩
          have T1 := Lib.hid (T1.out.below b3)
          have T2 := Lib.hid (T2.out.below b3)
          have B3 : Hid (Below w.heap.size w w3) := Lib.hid (B2.out.trans (b3.mono B2.out.size))
          have S3 : Hid (w2.heap.size + 1 ≤ w3.heap.size) := Lib.hid (by have := hbd.lt.1; omega)
          have BD3 : Hid (BS w.heap.size w2.heap.size 0 none 0 w3) := Lib.hid ⟨[], [], ⟨hbd.blk, B2.out.size, World.ownsRow_nil _ _ _ _, rfl, by simp [Value.ownBlock], fun i => by simp, fun i hi => absurd hi (Nat.not_lt_zero _)⟩⟩
          clear hbd b3
          have CN1 := Lib.hid (cnt_nil ⟨w.heap.size + 1, 0, none⟩ ⟨w2.heap.size, 0, none⟩ A i c l cap w3 (IR0.out 0 0 w3 B3.out).irow HN.out HN1.out (.inl hcap))
          go_wp2_with fail
          refine CN1.out.mono ?_
          rintro e w' ⟨rfl, rfl⟩
          go_wp2_with fail
          refine (Cnf.new_any w3).mono ?_
          rintro e w4 ⟨rfl, hbd, b4⟩
          have T1 := Lib.hid (T1.out.below b4)
          have B4 : Hid (Below w.heap.size w w4) := Lib.hid (B3.out.trans (b4.mono B3.out.size))
          have CN2 := Lib.hid (cnt_nil ⟨w1.heap.size + 1, 0, none⟩ ⟨w3.heap.size, 0, none⟩ A i c l cap w4 (IR0.out 0 0 w4 B4.out).irow HN.out HN1.out (.inl hcap))
          clear hbd b4
          go_wp2_with fail
          refine CN2.out.mono ?_
          rintro e w' ⟨rfl, rfl⟩
          have FX := Lib.hid (fixed_any w4)
          go_wp2_with fail
          refine FX.out.mono ?_
          rintro e w7 ⟨rfl, b7⟩
          have B7 : Hid (Below w.heap.size w w7) := Lib.hid (B4.out.trans (b7.mono B4.out.size))
          clear b7
          go_wp2_with fail
          go_ret
          exact ⟨rfl, B7.out⟩
        · by_cases h0 : i = 0
          · have h0' : (i : Int) = 0 := by omega
            have H0 := Lib.hid h0
            clear h0 h0'
            go_wp2_with fail
            refine N1.out.mono ?_
            rintro e w1 ⟨rfl, t1, b1⟩
            have T1 := Lib.hid t1
            have B1 := Lib.hid b1
            have S1 : Hid (w.heap.size + 2 ≤ w1.heap.size) := Lib.hid (by have := lt_of_block t1.tab; omega)
            have N2 := Lib.hid (Tbl.new_any L (by have := HLL.out; omega) w1 w.heap.size (by have := S1.out; omega))
            clear t1 b1
            go_wp2_with fail
            refine N2.out.mono ?_
            rintro e w2 ⟨rfl, t2, b2⟩
            have T2 := Lib.hid t2
            have T1 := Lib.hid (T1.out.below b2)
            have S2 : Hid (w1.heap.size + 2 ≤ w2.heap.size) := Lib.hid (by have := lt_of_block t2.tab; omega)
            have B2 : Hid (Below w.heap.size w w2) := Lib.hid (B1.out.trans (b2.mono B1.out.size))
            clear t2 b2
            go_wp2_with fail
            refine (Cnf.new_any w2).mono ?_
            rintro e w3 ⟨rfl, hbd, b3⟩
            have T1 := Lib.hid (T1.out.below b3)
            have T2 := Lib.hid (T2.out.below b3)
            have B3 : Hid (Below w.heap.size w w3) := Lib.hid (B2.out.trans (b3.mono B2.out.size))
            have S3 : Hid (w2.heap.size + 1 ≤ w3.heap.size) := Lib.hid (by have := hbd.lt.1; omega)
            have BD3 : Hid (BS w.heap.size w2.heap.size 0 none 0 w3) := Lib.hid ⟨[], [], ⟨hbd.blk, B2.out.size, World.ownsRow_nil _ _ _ _, rfl, by simp [Value.ownBlock], fun i => by simp, fun i hi => absurd hi (Nat.not_lt_zero _)⟩⟩
            clear hbd b3
            have CN1 := Lib.hid (cnt_nil ⟨w.heap.size + 1, 0, none⟩ ⟨w2.heap.size, 0, none⟩ A i c l cap w3 (IR0.out 0 0 w3 B3.out).irow HN.out HN1.out (.inr (.inl H0.out)))
            go_wp2_with fail
            refine CN1.out.mono ?_
            rintro e w' ⟨rfl, rfl⟩
            go_wp2_with fail
            refine (Cnf.new_any w3).mono ?_
            rintro e w4 ⟨rfl, hbd, b4⟩
            have T1 := Lib.hid (T1.out.below b4)
            have B4 : Hid (Below w.heap.size w w4) := Lib.hid (B3.out.trans (b4.mono B3.out.size))
            have CN2 := Lib.hid (cnt_nil ⟨w1.heap.size + 1, 0, none⟩ ⟨w3.heap.size, 0, none⟩ A i c l cap w4 (IR0.out 0 0 w4 B4.out).irow HN.out HN1.out (.inr (.inl H0.out)))
            clear hbd b4
            go_wp2_with fail
            refine CN2.out.mono ?_
            rintro e w' ⟨rfl, rfl⟩
            have LN : Hid (Calls Try.prog 23 #[.pointer (some ⟨w.heap.size + 1, 0, none⟩)] w4 fun e w' => e = .returned (.int .i64 0) ∧ w4 = w') := Lib.hid (len_tab T1.out.tab)
            have zL0 : ¬ (L : Int) < 0 := by omega
            go_wp2_with fail
            refine LN.out.mono ?_
            rintro e w' ⟨rfl, rfl⟩
            have FX := Lib.hid (fixed_any w4)
            go_wp2_with fail
            refine FX.out.mono ?_
            rintro e w7 ⟨rfl, b7⟩
            have B7 : Hid (Below w.heap.size w w7) := Lib.hid (B4.out.trans (b7.mono B4.out.size))
            have SA : Hid (Calls Try.prog 11 #[.slice none 0 0, .slice none 0 0] w7 fun e w' => e = .returned (.bool true) ∧ ∃ q, w' = w7.drewN q) := Lib.hid (same_any none none [] [] 0 0 0 0 w7 (.inl rfl) (.inl rfl) rfl rfl (by unfold maxLen; omega))
            clear b7
            go_wp2_with fail
            refine SA.out.mono ?_
            rintro e w8 ⟨rfl, q8, h8⟩
            have B8 : Hid (Below w.heap.size w w8) := Lib.hid (by rw [h8]; exact drewN_below B7.out q8)
            clear h8
            go_wp2_with fail
            refine (Cnf.new_any w8).mono ?_
            rintro e w9 ⟨rfl, _, b9⟩
            have B9 : Hid (Below w.heap.size w w9) := Lib.hid (B8.out.trans (b9.mono B8.out.size))
            clear b9
            go_wp2_with fail
            refine (cnt_nilt _ _ _ _ _ _).mono ?_
            rintro e w' ⟨rfl, rfl⟩
            go_wp2_with fail
            refine (cnt_nilb _ _ _ _ _ _).mono ?_
            rintro e w' ⟨rfl, rfl⟩
            go_wp2_with fail
            go_ret
            exact ⟨rfl, B9.out⟩
          · have h0' : ¬ (i : Int) = 0 := by omega
            have HCAP : Hid (¬ cap < 1) := Lib.hid hcap
            go_wp2_with fail
            refine N1.out.mono ?_
            rintro e w1 ⟨rfl, t1, b1⟩
            have T1 := Lib.hid t1
            have B1 := Lib.hid b1
            have S1 : Hid (w.heap.size + 2 ≤ w1.heap.size) := Lib.hid (by have := lt_of_block t1.tab; omega)
            have N2 := Lib.hid (Tbl.new_any L (by have := HLL.out; omega) w1 w.heap.size (by have := S1.out; omega))
            clear t1 b1
            go_wp2_with fail
            refine N2.out.mono ?_
            rintro e w2 ⟨rfl, t2, b2⟩
            have T2 := Lib.hid t2
            have T1 := Lib.hid (T1.out.below b2)
            have S2 : Hid (w1.heap.size + 2 ≤ w2.heap.size) := Lib.hid (by have := lt_of_block t2.tab; omega)
            have B2 : Hid (Below w.heap.size w w2) := Lib.hid (B1.out.trans (b2.mono B1.out.size))
            clear t2 b2
            go_wp2_with fail
            refine (Cnf.new_any w2).mono ?_
            rintro e w3 ⟨rfl, hbd, b3⟩
            have T1 := Lib.hid (T1.out.below b3)
            have T2 := Lib.hid (T2.out.below b3)
            have B3 : Hid (Below w.heap.size w w3) := Lib.hid (B2.out.trans (b3.mono B2.out.size))
            have S3 : Hid (w2.heap.size + 1 ≤ w3.heap.size) := Lib.hid (by have := hbd.lt.1; omega)
            have BD3 : Hid (BS w.heap.size w2.heap.size 0 none 0 w3) := Lib.hid ⟨[], [], ⟨hbd.blk, B2.out.size, World.ownsRow_nil _ _ _ _, rfl, by simp [Value.ownBlock], fun i => by simp, fun i hi => absurd hi (Nat.not_lt_zero _)⟩⟩
            clear hbd b3
            have HAVEC : Hid (∃ c0 : Nat, 1 ≤ c0 ∧ ∀ m : Nat, m ≤ 20 → ((m : Int) ≤ cap ∧ m ≤ c0) ∨ (¬ (m : Int) ≤ cap ∧ c0 ≤ m ∧ cap = (c0 : Int))) := Lib.hid (by
              by_cases h20 : 20 ≤ cap
              · exact ⟨20, by omega, fun m hm => .inl (by omega)⟩
              · exact ⟨cap.toNat, by omega, fun m hm => by omega⟩)
            obtain ⟨c0, hc01, hc02⟩ := HAVEC.out
            have C01 := Lib.hid hc01
            have C02 := Lib.hid hc02
            have ND : Hid (need c0 i ≤ 400) := Lib.hid (by have h := need_le c0 i; have h2 := Nat.mul_le_mul HN1.out HN1.out; omega)
            have N0 : Hid (1 ≤ i) := Lib.hid (by omega)
            have CN1 := Lib.hid (Count_go (Z := w.heap.size) (tb := w.heap.size) (g := w2.heap.size) (lim := 5000) (f := false) (k := 0) (n := 0) c0 C01.out (cap := cap) (fun m hm => by have := C02.out m hm; omega) (by have := HCAP.out; omega) A l i c HN.out N0.out HN1.out HC.out HCM.out (Nat.le_refl _) (Nat.zero_le _) ⟨0, none, 0, Nat.le_refl _, T1.out⟩ ⟨none, 0, BD3.out⟩ (by have := ND.out; omega) (by have := HN1.out; omega) (IR0.out _ _ w3 B3.out) SL.out Z0.out)
            clear hc01 hc02
            go_wp2_with fail
            refine CN1.out.mono ?_
            rintro e w4 ⟨s4, _, cb, n4, h4⟩
            obtain ⟨_, q1, r1, d1, hr1, rfl, g4, c4⟩ := h4.resolve_right (fun h => by have h1 := h.1; rw [← HN.out] at h1; have := ND.out; omega)
            clear h4
            have B4 : Hid (Below w.heap.size w w4) := Lib.hid (B3.out.trans s4.bel)
            have S34 := Lib.hid s4.bel.size
            have T2 := Lib.hid (ts_stp T2.out s4 (by have := S1.out; omega) (by have := S1.out; omega) (by have := S2.out; omega) (by have := S1.out; omega) (by have := S2.out; omega))
            have TB1 : Hid (∃ (hp : Nat) (At : Option Addr) (cp : Nat), w4.heap[w.heap.size + 1]? = some (.cells #[.int .i64 (5000 : Nat), .map (some w.heap.size), .slice At (need c0 i) cp, .int .i64 (hp : Nat), .bool false] 58 (0, 0))) := Lib.hid (by
              obtain ⟨hp, At, cp, _, t⟩ := c4.tab
              have h := t.tab
              rw [hs_len, ← HN.out, Nat.zero_add] at h
              exact ⟨hp, At, cp, h⟩)
            have G4 := Lib.hid g4
            have R1 := Lib.hid hr1
            clear s4 g4 c4 hr1 CN1
            go_wp2_with fail
            refine (Cnf.new_any w4).mono ?_
            rintro e w5 ⟨rfl, hbd, b5⟩
            have T2 := Lib.hid (T2.out.below b5)
            have B5 : Hid (Below w.heap.size w w5) := Lib.hid (B4.out.trans (b5.mono B4.out.size))
            have G5 : Hid (GI w5 q1 (res c0 0 l)) := Lib.hid (G4.out.below b5 (lt_of_block G4.out))
            have TB2 : Hid (∃ (hp : Nat) (At : Option Addr) (cp : Nat), w5.heap[w.heap.size + 1]? = some (.cells #[.int .i64 (5000 : Nat), .map (some w.heap.size), .slice At (need c0 i) cp, .int .i64 (hp : Nat), .bool false] 58 (0, 0))) := Lib.hid (by
              obtain ⟨hp, At, cp, h⟩ := TB1.out
              exact ⟨hp, At, cp, (b5.block _ (lt_of_block h)).trans h⟩)
            have S5 : Hid (w3.heap.size ≤ w4.heap.size ∧ w4.heap.size < w5.heap.size) := Lib.hid ⟨by have := B3.out; exact S34.out, hbd.lt.1⟩
            have BD5 : Hid (BS w.heap.size w4.heap.size 0 none 0 w5) := Lib.hid ⟨[], [], ⟨hbd.blk, B4.out.size, World.ownsRow_nil _ _ _ _, rfl, by simp [Value.ownBlock], fun i => by simp, fun i hi => absurd hi (Nat.not_lt_zero _)⟩⟩
            have CN2 := Lib.hid (Count_go (Z := w.heap.size) (tb := w1.heap.size) (g := w4.heap.size) (lim := L) (f := false) (k := 0) (n := 0) c0 C01.out (cap := cap) (fun m hm => by have := C02.out m hm; omega) (by have := HCAP.out; omega) A l i c HN.out N0.out HN1.out HC.out HCM.out (by have := S1.out; omega) (Nat.zero_le _) ⟨0, none, 0, Nat.le_refl _, T2.out⟩ ⟨none, 0, BD5.out⟩ (by have := ND.out; omega) (by have := HN1.out; omega) (IR0.out _ _ w5 B5.out) SL.out Z0.out)
            clear hbd b5
            go_wp2_with fail
            refine CN2.out.mono ?_
            rintro e w6 ⟨s6, k6, cb2, n6, (⟨hfit, q2, r2, d2, hr2, rfl, g6, c6⟩ | ⟨hfull, rfl, c6⟩)⟩
            · have HF := hfit
              have B6 : Hid (Below w.heap.size w w6) := Lib.hid (B5.out.trans s6.bel)
              have TB3 : Hid (∃ (hp : Nat) (At : Option Addr) (cp : Nat), w6.heap[w.heap.size + 1]? = some (.cells #[.int .i64 (5000 : Nat), .map (some w.heap.size), .slice At (need c0 i) cp, .int .i64 (hp : Nat), .bool false] 58 (0, 0))) := Lib.hid (by
                obtain ⟨hp, At, cp, h⟩ := TB2.out
                exact ⟨hp, At, cp, tab_stp h s6 (by have := S1.out; omega) (by have := S1.out; omega) (by have := S5.out; have := S1.out; have := S2.out; have := S3.out; omega)⟩)
              have LN : Hid (Calls Try.prog 23 #[.pointer (some ⟨w.heap.size + 1, 0, none⟩)] w6 fun e w' => e = .returned (.int .i64 (need c0 i : Nat)) ∧ w6 = w') := Lib.hid (by
                obtain ⟨hp, At, cp, h⟩ := TB3.out
                exact len_tab h)
              obtain ⟨nd, hnd⟩ : ∃ nd, nd = need c0 i := ⟨_, rfl⟩
              have HND := Lib.hid hnd
              rw [← hnd] at LN
              rw [← HN.out, Nat.zero_add, ← hnd] at HF
              have hf' : ¬ (L : Int) < (nd : Int) := by omega
              clear hnd
              have G6a : Hid (GI w6 q1 (res c0 0 l)) := Lib.hid (k6 _ _ G5.out)
              have G6b := Lib.hid g6
              have R2 := Lib.hid hr2
              clear s6 k6 hr2 g6 c6 hfit HF
              go_wp2_with fail
              refine LN.out.mono ?_
              rintro e w' ⟨rfl, rfl⟩
              have FX := Lib.hid (fixed_any w6)
              go_wp2_with fail
              refine FX.out.mono ?_
              rintro e w7 ⟨rfl, b7⟩
              have B7 : Hid (Below w.heap.size w w7) := Lib.hid (B6.out.trans (b7.mono B6.out.size))
              have SA : Hid (Calls Try.prog 11 #[.slice (some ⟨q1, 0, none⟩) r1 d1, .slice (some ⟨q2, 0, none⟩) r2 d2] w7 fun e w' => e = .returned (.bool true) ∧ ∃ q, w' = w7.drewN q) := Lib.hid (by
                have ga := G6a.out.below b7 (lt_of_block G6a.out)
                have gb := G6b.out.below b7 (lt_of_block G6b.out)
                have h := same_any (some ⟨q1, 0, none⟩) (some ⟨q2, 0, none⟩) (res c0 0 l) (res c0 0 l) r1 r2 d1 d2 w7 (gi_irow ga) (gi_irow gb) R1.out R2.out (by have := res_len_le c0 0 l; have := R1.out; have := HN.out; have := HN1.out; unfold maxLen; omega)
                rw [decide_eq_true (rfl : res c0 0 l = res c0 0 l)] at h
                exact h)
              clear b7
              go_wp2_with fail
              refine SA.out.mono ?_
              rintro e w8 ⟨rfl, q8, h8⟩
              have B8 : Hid (Below w.heap.size w w8) := Lib.hid (by rw [h8]; exact drewN_below B7.out q8)
              clear h8
              go_wp2_with fail
              refine (Cnf.new_any w8).mono ?_
              rintro e w9 ⟨rfl, _, b9⟩
              have B9 : Hid (Below w.heap.size w w9) := Lib.hid (B8.out.trans (b9.mono B8.out.size))
              clear b9
              go_wp2_with fail
              refine (cnt_nilt _ _ _ _ _ _).mono ?_
              rintro e w' ⟨rfl, rfl⟩
              go_wp2_with fail
              refine (cnt_nilb _ _ _ _ _ _).mono ?_
              rintro e w' ⟨rfl, rfl⟩
              go_wp2_with fail
              go_ret
              exact ⟨rfl, B9.out⟩
            · have HF := hfull
              have B6 : Hid (Below w.heap.size w w6) := Lib.hid (B5.out.trans s6.bel)
              have TB3 : Hid (∃ (hp : Nat) (At : Option Addr) (cp : Nat), w6.heap[w.heap.size + 1]? = some (.cells #[.int .i64 (5000 : Nat), .map (some w.heap.size), .slice At (need c0 i) cp, .int .i64 (hp : Nat), .bool false] 58 (0, 0))) := Lib.hid (by
                obtain ⟨hp, At, cp, h⟩ := TB2.out
                exact ⟨hp, At, cp, tab_stp h s6 (by have := S1.out; omega) (by have := S1.out; omega) (by have := S5.out; have := S1.out; have := S2.out; have := S3.out; omega)⟩)
              have LN : Hid (Calls Try.prog 23 #[.pointer (some ⟨w.heap.size + 1, 0, none⟩)] w6 fun e w' => e = .returned (.int .i64 (need c0 i : Nat)) ∧ w6 = w') := Lib.hid (by
                obtain ⟨hp, At, cp, h⟩ := TB3.out
                exact len_tab h)
              obtain ⟨nd, hnd⟩ : ∃ nd, nd = need c0 i := ⟨_, rfl⟩
              have HND := Lib.hid hnd
              rw [← hnd] at LN
              rw [← HN.out, Nat.zero_add, ← hnd] at HF
              have hf' : (L : Int) < (nd : Int) := by omega
              clear hnd
              have TF : Hid (∃ (x0 x1 x2 x3 : Value), w6.heap[w1.heap.size + 1]? = some (.cells #[x0, x1, x2, x3, .bool true] 58 (0, 0))) := Lib.hid (by
                obtain ⟨_, _, _, _, t⟩ := c6.tab
                exact ⟨_, _, _, _, t.tab⟩)
              clear s6 k6 c6 hfull HF
              go_wp2_with fail
              refine LN.out.mono ?_
              rintro e w' ⟨rfl, rfl⟩
              have FX := Lib.hid (fixed_any w6)
              go_wp2_with fail
              refine FX.out.mono ?_
              rintro e w7 ⟨rfl, b7⟩
              have B7 : Hid (Below w.heap.size w w7) := Lib.hid (B6.out.trans (b7.mono B6.out.size))
              have FL : Hid (Calls Try.prog 24 #[.pointer (some ⟨w1.heap.size + 1, 0, none⟩)] w7 fun e w' => e = .returned (.bool true) ∧ w7 = w') := Lib.hid (by
                obtain ⟨_, _, _, _, h⟩ := TF.out
                exact full_tab ((b7.block _ (lt_of_block h)).trans h))
              clear b7
              go_wp2_with fail
              refine FL.out.mono ?_
              rintro e w' ⟨rfl, rfl⟩
              go_wp2_with fail
              go_ret
              exact ⟨rfl, B7.out⟩

theorem law_limitI (A : Option Addr) (l : List Int) (n c : Nat) (cap x : Int) (w : World) (hl : IRow w w.heap.size A l) (hn : n = l.length) (hc : n ≤ c) (hcm : c ≤ maxLen) (hr0 : ∀ t ∈ l, (Lit.int .i64 t).wf = true) (_ : (Lit.int .i64 cap).wf = true) (hx : (Lit.int .u8 x).wf = true) :
    Calls Try.prog 7 #[.slice A n c, .int .i64 cap, .int .u8 x] w fun e w' => e = .returned (.bool true) ∧ Below w.heap.size w w' := by
  have hr : RgL l := fun y hy => Cnf.rg_of (hr0 y hy)
  simp [Lit.wf, IntKind.min, IntKind.max, IntKind.signed, IntKind.bits] at hx
  by_cases h : 20 < n
  · exact lim_great A n c cap x w h
  · obtain ⟨L, rfl⟩ : ∃ L : Nat, x = (L : Int) := ⟨x.toNat, by omega⟩
    exact lim_main A l n c L cap w hl hn hc hcm hr (by omega) (by omega)

end Go.Proofs.Ytcjcnhnpjcgcmaa.Tot
