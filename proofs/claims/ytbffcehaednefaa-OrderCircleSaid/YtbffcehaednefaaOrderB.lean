/- The document's own answer whether there is a way round, walked. -/
import Derived.Test.YtbffcehaednefaaOrderA
namespace Go.Proofs.Ytbffcehaednefaa.Order
set_option linter.unusedVariables false
set_option linter.unusedSimpArgs false
open Go.RowKit

theorem anyI_next (p : Int → Bool) (l : List Int) (k : Nat) (hk : k < l.length) : (l.take (k + 1)).any p = ((l.take k).any p || p (l.getD k 0)) := by
  rw [List.take_succ_eq_append_getElem hk, List.any_append]
  have : l[k] = l.getD k 0 := by rw [List.getD_eq_getElem?_getD, List.getElem?_eq_getElem hk]; rfl
  rw [this]; simp

set_option maxHeartbeats 4000000 in
set_option maxRecDepth 100000 in
theorem round_any (A : Option Addr) (E : Es) (n c : Nat) (w : World) (h : ERow w w.heap.size A E) (hn : n = E.length) (hm : n ≤ 100) :
    Calls Try.prog 36 #[.slice A n c] w fun e w' => e = .returned (.bool (cycB E)) ∧ Below w.heap.size w w' := by
  have z : (n : Int) ≤ 100 := by omega
  have hmk := make_bools n (by omega)
  rw [made_bools] at hmk
  have HN := Lib.hid hn
  have H := Lib.hid h
  have HM := Lib.hid hm
  clear hn h hm
  obtain ⟨g, hg⟩ : ∃ g, g = w.heap.size := ⟨_, rfl⟩
  obtain ⟨W0, hW0⟩ : ∃ W0, W0 = w.alloc (.cells ((List.replicate n false).map Value.bool).toArray 4) := ⟨_, rfl⟩
  have G0 : Hid (GB W0 g (roundsG E 0)) := Lib.hid (by
    rw [hg, hW0]; unfold roundsG; rw [← HN.out]; exact heap_alloc_new w _)
  have B0 : Hid (Below w.heap.size w W0) := Lib.hid (by rw [hW0]; exact (Below.refl w.heap.size w).alloc (Nat.le_refl _) _)
  have hmk' := hmk w
  rw [← hg, ← hW0] at hmk'
  have HG : Hid (w.heap.size ≤ g) := Lib.hid (by omega)
  clear hmk hg hW0
  go_enter Try.func36, Try.ntmps36
  go_wp2_with fail
  clear hmk'
  go_loopw [4, 5, 6, 8, 16] (fun _ _ _ _ v wr => ∃ k : Nat, v = .int .i64 k ∧ k ≤ n ∧ Below w.heap.size w wr ∧ GB wr g (roundsG E k)) (fun _ _ _ _ v _ => n - (intOf v).toNat)
  case atStart => exact ⟨0, rfl, Nat.zero_le _, B0.out, G0.out⟩
  case round =>
    obtain ⟨k, rfl, hk, hbel, hgb⟩ := hrel
    obtain ⟨wo, rfl⟩ : ∃ wo : World, wo = wr := ⟨_, rfl⟩
    have J := Lib.hid hbel
    have GK := Lib.hid hgb
    clear hbel hgb B0 G0
    by_cases hlt : k < n
    · have hlt' : (k : Int) < (n : Int) := by omega
      go_wp2_with fail
      go_loopw [4, 5, 6, 8, 20] (fun _ _ _ _ v wq => ∃ p : Nat, v = .int .i64 p ∧ p ≤ n ∧ Below w.heap.size w wq ∧ GB wq g (sweepTo E (roundsG E k) p)) (fun _ _ _ _ v _ => n - (intOf v).toNat)
      case atStart => exact ⟨0, rfl, Nat.zero_le _, J.out, GK.out⟩
      case round =>
        obtain ⟨p, rfl, hp, hbel, hgb⟩ := hrel
        obtain ⟨wp, rfl⟩ : ∃ wo : World, wo = wr := ⟨_, rfl⟩
        have J2 := Lib.hid hbel
        have GP := Lib.hid hgb
        clear hbel hgb
        by_cases hpn : p < n
        · have hpn' : (p : Int) < (n : Int) := by omega
          have PE : Hid (p < E.length) := Lib.hid (by have := HN.out; omega)
          rcases H.out with h' | ⟨b, o, rfl, hb, hcell⟩
          · exfalso; have := PE.out; rw [h'] at this; simp at this
          obtain ⟨A', n', c', e1, e2, e3, e4, e5⟩ := hcell p PE.out
          replace e5 := (J2.out.cell (p := ⟨b, o + p, none⟩) hb).trans e5
          obtain ⟨gs, hgs⟩ : ∃ gs, gs = sweepTo E (roundsG E k) p := ⟨_, rfl⟩
          have LG : Hid (gs.length = n) := Lib.hid (by rw [hgs, sweep_len, rounds_len, HN.out])
          have NXT : Hid (sweepTo E (roundsG E k) (p + 1) = gs.set p (gs.getD p false || !held E gs p)) := Lib.hid (by rw [hgs]; rfl)
          rw [← hgs] at GP
          obtain ⟨l, hl⟩ : ∃ l, l = E.getD p [] := ⟨_, rfl⟩
          have HD : Hid (held E gs p = l.any (validIn E gs)) := Lib.hid (by rw [hl]; rfl)
          rw [← hl] at e1 e4
          have NL := Lib.hid e1
          have ROW := Lib.hid e4
          have h63 : (n' : Int) ≤ 9223372036854775807 := by unfold maxLen at e3; omega
          clear hcell hgs hl e1 e2 e3 e4
          go_wp2_with fail
          clear e5
          go_loopw [6, 8, 27] (fun u _ v wq => ∃ j : Nat, ∃ f : Bool, v = .int .i64 j ∧ u = .bool f ∧ j ≤ n' ∧ wq = wp ∧ (l.take j).any (validIn E gs) = f) (fun _ _ v _ => n' - (intOf v).toNat)
          case atStart => exact ⟨0, false, rfl, rfl, Nat.zero_le _, rfl, rfl⟩
          case round =>
            obtain ⟨j, f, rfl, rfl, hj, rfl, hf⟩ := hrel
            have HF := Lib.hid hf
            clear hf
            by_cases hjn : j < n'
            · have hjn' : (j : Int) < (n' : Int) := by omega
              have JL : Hid (j < l.length) := Lib.hid (by have := NL.out; omega)
              rcases ROW.out with h' | ⟨b', o', rfl, hb', hc'⟩
              · exfalso; have := JL.out; rw [h'] at this; simp at this
              have ft := (J2.out.cell (p := ⟨b', o' + j, none⟩) hb').trans (hc' j JL.out)
              have NX := Lib.hid (anyI_next (validIn E gs) l j JL.out)
              rw [HF.out] at NX
              obtain ⟨t, ht⟩ : ∃ t, t = l.getD j 0 := ⟨_, rfl⟩
              rw [← ht] at ft NX
              have VD : Hid (validIn E gs t = (decide (0 ≤ t) && decide (t < (n : Int)) && !gs.getD t.toNat false)) := Lib.hid (by unfold validIn; rw [← HN.out])
              clear ht hc'
              cases f with
              | true =>
                have F := Lib.hid (show (l.take (j + 1)).any (validIn E gs) = true from by rw [NX.out]; rfl)
                go_wp2_with fail
                go_roundw
                case rel => exact ⟨j + 1, true, by go_num, rfl, by omega, trivial, F.out⟩
                case measure => simp [intOf]; omega
              | false =>
                by_cases h0 : 0 ≤ t
                · by_cases h1 : t < (n : Int)
                  · obtain ⟨v, rfl⟩ : ∃ v : Nat, t = (v : Int) := ⟨t.toNat, by omega⟩
                    have gc := GP.out.cell v (by rw [LG.out]; omega)
                    cases hq : gs.getD v false with
                    | true =>
                      have F := Lib.hid (show (l.take (j + 1)).any (validIn E gs) = false from by rw [NX.out, VD.out, Int.toNat_natCast, hq]; simp)
                      rw [hq] at gc
                      clear hq
                      go_wp2_with fail
                      go_roundw
                      case rel => exact ⟨j + 1, false, by go_num, rfl, by omega, trivial, F.out⟩
                      case measure => simp [intOf]; omega
                    | false =>
                      have F := Lib.hid (show (l.take (j + 1)).any (validIn E gs) = true from by rw [NX.out, VD.out, Int.toNat_natCast, hq, decide_eq_true h0, decide_eq_true h1]; rfl)
                      rw [hq] at gc
                      clear hq
                      go_wp2_with fail
                      go_roundw
                      case rel => exact ⟨j + 1, true, by go_num, rfl, by omega, trivial, F.out⟩
                      case measure => simp [intOf]; omega
                  · have F := Lib.hid (show (l.take (j + 1)).any (validIn E gs) = false from by rw [NX.out, VD.out, decide_eq_false h1]; simp)
                    have h2 : (n : Int) ≤ t := by omega
                    go_wp2_with fail
                    go_roundw
                    case rel => exact ⟨j + 1, false, by go_num, rfl, by omega, trivial, F.out⟩
                    case measure => simp [intOf]; omega
                · have F := Lib.hid (show (l.take (j + 1)).any (validIn E gs) = false from by rw [NX.out, VD.out, decide_eq_false h0]; simp)
                  have h2 : t < 0 := by omega
                  go_wp2_with fail
                  go_roundw
                  case rel => exact ⟨j + 1, false, by go_num, rfl, by omega, trivial, F.out⟩
                  case measure => simp [intOf]; omega
            · obtain rfl : j = n' := by omega
              have HH : Hid (held E gs p = f) := Lib.hid (by
                rw [HD.out]
                have h := HF.out
                rwa [NL.out, List.take_of_length_le (Nat.le_refl _)] at h)
              rw [HH.out] at NXT
              have gc := GP.out.cell p (by rw [LG.out]; exact hpn)
              have gf := GP.out.free p
              have SET := Lib.hid (fun x => GP.out.set p x)
              have BS := Lib.hid (fun x : Bool => J2.out.setCell (p := ⟨g, p, none⟩) HG.out (.bool x))
              cases hq : gs.getD p false with
              | true =>
                rw [hq] at gc NXT
                have F := Lib.hid (SET.out true)
                have N2 : Hid (sweepTo E (roundsG E k) (p + 1) = gs.set p true) := Lib.hid (by rw [NXT.out]; rfl)
                rw [← N2.out] at F
                clear hq
                go_wp2_with fail
                go_roundw
                case rel => exact ⟨p + 1, by go_num, by omega, BS.out _, F.out⟩
                case measure => simp [intOf]; omega
              | false =>
                rw [hq] at gc NXT
                clear hq
                cases f with
                | true =>
                  have F := Lib.hid (SET.out false)
                  have N2 : Hid (sweepTo E (roundsG E k) (p + 1) = gs.set p false) := Lib.hid (by rw [NXT.out]; rfl)
                  rw [← N2.out] at F
                  go_wp2_with fail
                  go_roundw
                  case rel => exact ⟨p + 1, by go_num, by omega, BS.out _, F.out⟩
                  case measure => simp [intOf]; omega
                | false =>
                  have F := Lib.hid (SET.out true)
                  have N2 : Hid (sweepTo E (roundsG E k) (p + 1) = gs.set p true) := Lib.hid (by rw [NXT.out]; rfl)
                  rw [← N2.out] at F
                  go_wp2_with fail
                  go_roundw
                  case rel => exact ⟨p + 1, by go_num, by omega, BS.out _, F.out⟩
                  case measure => simp [intOf]; omega
        · obtain rfl : p = n := by omega
          have GE : Hid (GB wp g (roundsG E (k + 1))) := Lib.hid (by rw [roundsG, ← HN.out]; exact GP.out)
          go_wp2_with fail
          go_roundw
          case rel => exact ⟨k + 1, by go_num, by omega, J2.out, GE.out⟩
          case measure => simp [intOf]; omega
    · obtain rfl : k = n := by omega
      obtain ⟨gs, hgs⟩ : ∃ gs, gs = roundsG E k := ⟨_, rfl⟩
      have LG : Hid (gs.length = k) := Lib.hid (by rw [hgs, rounds_len, HN.out])
      have CY : Hid (cycB E = gs.any fun x => !x) := Lib.hid (by rw [hgs, HN.out]; rfl)
      rw [← hgs] at GK
      clear hgs
      go_wp2_with fail
      go_loopw [10, 65] (fun _ v wq => ∃ j : Nat, v = .int .i64 j ∧ j ≤ k ∧ wq = wo ∧ ∀ i, i < j → gs.getD i false = true) (fun _ v _ => k - (intOf v).toNat)
      case atStart => exact ⟨0, rfl, Nat.zero_le _, rfl, fun i hi => absurd hi (Nat.not_lt_zero _)⟩
      case round =>
        obtain ⟨j, rfl, hj, rfl, hall⟩ := hrel
        have HALL := Lib.hid hall
        clear hall
        by_cases hjk : j < k
        · have hjk' : (j : Int) < (k : Int) := by omega
          have gc := GK.out.cell j (by rw [LG.out]; exact hjk)
          cases hq : gs.getD j false with
          | true =>
            rw [hq] at gc
            have F : Hid (∀ i, i < j + 1 → gs.getD i false = true) := Lib.hid (fun i hi => by
              rcases Nat.lt_or_ge i j with h1 | h1
              · exact HALL.out i h1
              · rw [show i = j by omega]; exact hq)
            clear hq
            go_wp2_with fail
            go_roundw
            case rel => exact ⟨j + 1, by go_num, by omega, trivial, F.out⟩
            case measure => simp [intOf]; omega
          | false =>
            rw [hq] at gc
            have F : Hid (cycB E = true) := Lib.hid (by
              rw [CY.out, List.any_eq_true]
              have hl : j < gs.length := by rw [LG.out]; exact hjk
              rw [List.getD_eq_getElem?_getD, List.getElem?_eq_getElem hl] at hq
              exact ⟨gs[j], List.getElem_mem hl, by simpa using hq⟩)
            clear hq
            go_wp2_with fail
            go_ret
            exact ⟨ret_bool F.out.symm, J.out⟩
        · obtain rfl : j = k := by omega
          have F : Hid (cycB E = false) := Lib.hid (by
            rw [CY.out, List.any_eq_false]
            intro x hx
            obtain ⟨i, hi, e⟩ := List.getElem_of_mem hx
            have := HALL.out i (by rw [LG.out] at hi; exact hi)
            rw [List.getD_eq_getElem?_getD, List.getElem?_eq_getElem hi, e] at this
            simpa using this)
          go_wp2_with fail
          go_ret
          exact ⟨ret_bool F.out.symm, J.out⟩

end Go.Proofs.Ytbffcehaednefaa.Order
