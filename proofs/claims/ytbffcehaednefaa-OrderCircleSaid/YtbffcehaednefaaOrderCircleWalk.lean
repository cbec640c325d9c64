/- The law OrderCircle, walked. -/
import Derived.Test.YtbffcehaednefaaOrderB
import Derived.Test.YtbffcehaednefaaOrderF
import Derived.Test.YtbffcehaednefaaOrderOpen
namespace Go.Proofs.Ytbffcehaednefaa.Order
set_option linter.unusedVariables false
set_option linter.unusedSimpArgs false
open Go.RowKit

theorem nodup_at {Q : List Nat} (h : Q.Nodup) {i j : Nat} (hij : i < j) (hj : j < Q.length) : Q.getD i 0 ≠ Q.getD j 0 := fun e => by
  have := nodup_idx h (by omega) hj e
  omega
theorem cycle_len {E : Es} {Q : List Nat} (h : IsCycle E Q) : Q.length ≤ E.length := by
  have := nodup_sub Q (List.range E.length) h.nodup (fun x hx => by
    obtain ⟨i, hi, e⟩ := List.getElem_of_mem hx
    have := h.lt i hi
    rw [List.getD_eq_getElem?_getD, List.getElem?_eq_getElem hi, Option.getD_some, e] at this
    exact List.mem_range.2 this)
  simpa using this
theorem any_all {l : List Int} {x : Int} (h : x ∈ l) (n : Nat) (hn : n = l.length) : (l.take n).any (fun t => t == x) = true := by
  rw [hn, List.take_of_length_le (Nat.le_refl _), List.any_eq_true]
  exact ⟨x, h, by simp⟩

set_option maxHeartbeats 8000000 in
set_option maxRecDepth 100000 in
theorem law_circle (A : Option Addr) (E : Es) (n c : Nat) (w : World) (h : ERow w w.heap.size A E) (hn : n = E.length) (hc : n ≤ c) (hm : c ≤ maxLen) :
    Calls Try.prog 8 #[.slice A n c] w fun e w' => e = .returned (.bool true) ∧ Below w.heap.size w w' := by
  have n63 : (n : Int) ≤ 9223372036854775807 := by unfold maxLen at hm; omega
  have HN := Lib.hid hn
  have H := Lib.hid h
  clear hn h hc hm
  go_enter Try.func8, Try.ntmps8
  go_wp2_with fail
  go_loopw [3, 17] (fun tot v wr => ∃ (z : Int) (k : Nat), tot = .int .i64 z ∧ v = .int .i64 k ∧ k ≤ n ∧ wr = w) (fun _ v _ => n - (intOf v).toNat)
  case atStart => exact ⟨0, 0, rfl, rfl, Nat.zero_le _, rfl⟩
  case round =>
    obtain ⟨z, k, rfl, rfl, hk, rfl⟩ := hrel
    by_cases hlt : k < n
    · have hlt' : (k : Int) < (n : Int) := by omega
      have HK : Hid (k < E.length) := Lib.hid (by have := HN.out; omega)
      rcases H.out with h' | ⟨b, o, rfl, hb, hcE⟩
      · exfalso; have := HK.out; rw [h'] at this; simp at this
      obtain ⟨A', n', c', e1, e2, e3, e4, e5⟩ := hcE k HK.out
      have h63 : (n' : Int) ≤ 9223372036854775807 := by unfold maxLen at e3; omega
      clear hcE e1 e2 e3 e4
      go_wp2_with fail
      go_roundw
      case rel => exact ⟨_, k + 1, rfl, by go_num, by omega, by first | rfl | trivial⟩
      case measure => simp [intOf]; omega
    · obtain rfl : k = n := by omega
      clear hlt hk
      by_cases h60 : k ≤ 60
      · have h60' : (k : Int) ≤ 60 := by omega
        have h60'' : ¬ (60 : Int) < (k : Int) := by omega
        have K60 := Lib.hid h60
        by_cases h360 : z ≤ 360
        · have h360' : ¬ 360 < z := by omega
          have CR := Lib.hid (circle_any A E k c wr H.out HN.out (by omega))
          go_wp2_with fail
          go_at_call 35; refine CR.out.mono ?_; rintro e w2 ⟨A', c', Q, rfl, hb, hq⟩
          have B2 := Lib.hid hb
          have Q2 := Lib.hid hq
          clear hb hq CR
          rcases Nat.eq_zero_or_pos Q.length with h0 | h0
          · have CB : Hid (cycB E = false) := Lib.hid (by
              rcases Q2.out with ⟨_, h⟩ | ⟨h, _⟩
              · cases hx : cycB E with
                | false => rfl
                | true => exact absurd ((cycB_iff E).1 hx) h
              · exact absurd (List.eq_nil_of_length_eq_zero h0) h.ne)
            rw [h0]
            have FX := Lib.hid (fixed_any w2)
            go_wp2_with fail
            go_at_call 34; refine FX.out.mono ?_; rintro e w3 ⟨rfl, hb⟩
            have B3 := Lib.hid (B2.out.trans (hb.mono B2.out.size))
            clear hb FX
            have RD := Lib.hid (round_any A E k c w3 (H.out.below B3.out.size B3.out) HN.out (by have := K60.out; omega))
            rw [CB.out] at RD
            go_wp2_with fail
            go_at_call 36; refine RD.out.mono ?_; rintro e w4 ⟨rfl, hb⟩
            have B4 := Lib.hid (B3.out.trans (hb.mono B3.out.size))
            clear hb RD
            go_wp2_with fail
            go_ret
            exact ⟨rfl, B4.out⟩
          · obtain ⟨CY, b2, o2, rfl, hb2, hc2, QC⟩ : Hid (IsCycle E Q ∧ Cyclic E) ∧ ∃ b2 o2, A' = some ⟨b2, o2, none⟩ ∧ b2 < w2.heap.size ∧ (∀ j, j < Q.length → w2.cell? ⟨b2, o2 + j, none⟩ = some (.int .i64 (Q.getD j 0 : Nat))) ∧ (Q.length ≤ c' ∧ c' ≤ maxLen) := by
              rcases Q2.out with ⟨h1, _⟩ | ⟨h1, h2, _, h4, h5⟩
              · rw [h1] at h0; simp at h0
              · refine ⟨Lib.hid ⟨h1, ⟨_, h2⟩⟩, ?_⟩
                rcases h4 with h4 | ⟨b2, o2, e, hlt, hcc⟩
                · have := congrArg List.length h4; rw [ints_len] at this; simp at this; rw [this] at h0; simp at h0
                · refine ⟨b2, o2, e, hlt, fun j hj => ?_, h5⟩
                  have := hcc j (by rw [ints_len]; exact hj)
                  rwa [ints_at] at this
            have CB : Hid (cycB E = true) := Lib.hid ((cycB_iff E).2 CY.out.2)
            have HC := Lib.hid hc2
            have QL : Q.length ≤ 60 := by have := cycle_len CY.out.1; have := HN.out; omega
            have QL' : (Q.length : Int) ≤ 60 := by omega
            have Q0' : (0 : Int) < (Q.length : Int) := by omega
            have Q0'' : ((Q.length : Int) == 0) = false := by
              cases hx : ((Q.length : Int) == 0) with
              | false => rfl
              | true => have := eq_of_beq hx; omega
            have Q0n : ¬ Q.length = 0 := by omega
            have QC1 : (Q.length : Int) ≤ (c' : Int) := by omega
            have QC2 : (c' : Int) ≤ 9223372036854775807 := by have := QC.2; unfold maxLen at this; omega
            clear hc2 hb2 Q2 QC
            obtain ⟨m, hm⟩ : ∃ m, m = Q.length := ⟨_, rfl⟩
            have HM := Lib.hid hm
            rw [← hm] at h0 QL QL' Q0' Q0'' Q0n QC1 ⊢
            clear hm
            go_wp2_with fail
            go_loopw [48] (fun v wr => ∃ i : Nat, v = .int .i64 i ∧ i ≤ m ∧ wr = w2) (fun v _ => m - (intOf v).toNat)
            case atStart => exact ⟨0, rfl, Nat.zero_le _, rfl⟩
            case round =>
              obtain ⟨i, rfl, hi, hwx⟩ := hrel
              obtain rfl := hwx.symm
              by_cases him : i < m
              · have him' : (i : Int) < (m : Int) := by omega
                have IM : Hid (i < Q.length) := Lib.hid (by have := HM.out; omega)
                obtain ⟨p, hp⟩ : ∃ p, p = Q.getD i 0 := ⟨_, rfl⟩
                obtain ⟨r, hr⟩ : ∃ r, r = (i + 1) % m := ⟨_, rfl⟩
                obtain ⟨t0, ht0⟩ : ∃ t, t = Q.getD r 0 := ⟨_, rfl⟩
                have hrm : r < m := by rw [hr]; exact Nat.mod_lt _ h0
                have hr1 : (r : Int) < (m : Int) := by omega
                have pc := HC.out i IM.out
                have nc := HC.out r (by have := HM.out; omega)
                rw [← hp] at pc
                rw [← ht0] at nc
                have hmod : ((i : Int) + 1).tmod (m : Int) = (r : Int) := by
                  have : (((i + 1 : Nat) : Int)).tmod (m : Int) = (((i + 1) % m : Nat) : Int) := Int.ofNat_tmod _ _
                  rw [hr]; push_cast at this; exact this
                have ED : Hid (Edge E p t0) := Lib.hid (by
                  have := CY.out.1.next i IM.out
                  rw [← HM.out, ← hr, ← hp, ← ht0] at this; exact this)
                have hpn : (p : Int) < (k : Int) := by have := ED.out.1; have := HN.out; omega
                have NE : Hid (∀ j, j < i → ((Q.getD j 0 : Nat) : Int) ≠ (p : Int)) := Lib.hid (fun j hj e => nodup_at CY.out.1.nodup hj IM.out (by rw [← hp]; omega))
                rcases H.out with h' | ⟨b, o, rfl, hb, hcE⟩
                · exfalso; have := ED.out.1; rw [h'] at this; simp at this
                obtain ⟨A1, n', c1, e1, e2, e3, e4, e5⟩ := hcE p ED.out.1
                replace e5 := (B2.out.cell (p := ⟨b, o + p, none⟩) hb).trans e5
                obtain ⟨l, hl⟩ : ∃ l, l = E.getD p [] := ⟨_, rfl⟩
                rw [← hl] at e1 e4
                have MEM : Hid ((t0 : Int) ∈ l) := Lib.hid (by rw [hl]; exact ED.out.2.2)
                have NL := Lib.hid e1
                have ROW := Lib.hid e4
                have h63 : (n' : Int) ≤ 9223372036854775807 := by unfold maxLen at e3; omega
                clear hcE e1 e2 e3 e4 hp hr ht0 hl
                go_wp2_with fail
                clear pc nc e5
                go_loopw [10, 74] (fun f v wr => ∃ (j : Nat) (g : Bool), v = .int .i64 j ∧ f = .bool g ∧ j ≤ n' ∧ wr = w2 ∧ (l.take j).any (fun t => t == (t0 : Int)) = g) (fun _ v _ => n' - (intOf v).toNat)
                case atStart => exact ⟨0, false, rfl, rfl, Nat.zero_le _, rfl, rfl⟩
                case round =>
                  obtain ⟨j, g, rfl, rfl, hj, hwy, hg⟩ := hrel
                  obtain rfl := hwy.symm
                  have HF := Lib.hid hg
                  clear hg
                  by_cases hjn : j < n'
                  · have hjn' : (j : Int) < (n' : Int) := by omega
                    have JL : Hid (j < l.length) := Lib.hid (by have := NL.out; omega)
                    rcases ROW.out with h' | ⟨b', o', rfl, hb', hc'⟩
                    · exfalso; have := JL.out; rw [h'] at this; simp at this
                    have ft := (B2.out.cell (p := ⟨b', o' + j, none⟩) hb').trans (hc' j JL.out)
                    have NX := Lib.hid (anyI_next (fun t => t == (t0 : Int)) l j JL.out)
                    obtain ⟨t, ht⟩ : ∃ t, t = l.getD j 0 := ⟨_, rfl⟩
                    rw [← ht] at ft NX
                    rw [HF.out] at NX
                    clear ht hc'
                    cases g with
                    | true =>
                      go_wp2_with fail
                      go_roundw
                      case rel => exact ⟨j + 1, true, by go_num, rfl, by omega, by first | rfl | trivial, NX.out.trans (by simp)⟩
                      case measure => simp [intOf]; omega
                    | false =>
                      obtain ⟨f, hf⟩ : ∃ f, f = (t == (t0 : Int)) := ⟨_, rfl⟩
                      have FF := Lib.hid hf.symm
                      have hfe := hf.symm
                      clear hf
                      go_wp2_with fail
                      go_roundw
                      case rel => exact ⟨j + 1, f, by go_num, by first | rfl | (rw [FF.out]), by omega, by first | rfl | trivial, NX.out.trans (by rw [FF.out]; simp)⟩
                      case measure => simp [intOf]; omega
                  · obtain rfl : j = n' := by omega
                    obtain rfl : g = true := by rw [← HF.out]; exact any_all MEM.out _ NL.out
                    have hi1 : (i : Int) ≤ (c' : Int) := by omega
                    go_wp2_with fail
                    go_loopw [91] (fun v wr => ∃ q : Nat, v = .int .i64 q ∧ q ≤ i ∧ wr = w2) (fun v _ => i - (intOf v).toNat)
                    case atStart => exact ⟨0, rfl, Nat.zero_le _, rfl⟩
                    case round =>
                      obtain ⟨q, rfl, hq, hwz⟩ := hrel
                      obtain rfl := hwz.symm
                      by_cases hqi : q < i
                      · have hqi' : (q : Int) < (i : Int) := by omega
                        have qc := HC.out q (by have := IM.out; omega)
                        have nq := NE.out q hqi
                        obtain ⟨y, hy⟩ : ∃ y, y = Q.getD q 0 := ⟨_, rfl⟩
                        rw [← hy] at qc nq
                        have nq' : ((y : Int) == (p : Int)) = false := by simpa using nq
                        clear hy
                        go_wp2_with fail
                        go_roundw
                        case rel => exact ⟨q + 1, by go_num, by omega, by first | rfl | trivial⟩
                        case measure => simp [intOf]; omega
                      · obtain rfl : q = i := by omega
                        go_wp2_with fail
                        go_roundw
                        case rel => exact ⟨q + 1, by go_num, by omega, by first | rfl | trivial⟩
                        case measure => simp [intOf]; omega
              · obtain rfl : i = m := by omega
                have FX := Lib.hid (fixed_any w2)
                go_wp2_with fail
                go_at_call 34; refine FX.out.mono ?_; rintro e w3 ⟨rfl, hb⟩
                have B3 := Lib.hid (B2.out.trans (hb.mono B2.out.size))
                clear hb FX
                have RD := Lib.hid (round_any A E k c w3 (H.out.below B3.out.size B3.out) HN.out (by have := K60.out; omega))
                rw [CB.out] at RD
                go_wp2_with fail
                go_at_call 36; refine RD.out.mono ?_; rintro e w4 ⟨rfl, hb⟩
                have B4 := Lib.hid (B3.out.trans (hb.mono B3.out.size))
                clear hb RD
                go_wp2_with fail
                go_ret
                exact ⟨rfl, B4.out⟩
        · have h360' : 360 < z := by omega
          have FX := Lib.hid (fixed_any wr)
          go_wp2_with fail
          go_at_call 34; refine FX.out.mono ?_; rintro e w3 ⟨rfl, hb⟩
          go_wp2_with fail
          go_ret
          exact ⟨rfl, hb⟩
      · have h60' : (60 : Int) < (k : Int) := by omega
        have FX := Lib.hid (fixed_any wr)
        go_wp2_with fail
        go_at_call 34; refine FX.out.mono ?_; rintro e w3 ⟨rfl, hb⟩
        go_wp2_with fail
        go_ret
        exact ⟨rfl, hb⟩

theorem law_circleI (A : Option Addr) (E : Es) (n c : Nat) (w : World) (h : ERow w w.heap.size A E) (hn : n = E.length) (hc : n ≤ c) (hm : c ≤ maxLen) (_ : FitE E) :
    Calls Try.prog 8 #[.slice A n c] w fun e w' => e = .returned (.bool true) ∧ Below w.heap.size w w' := law_circle A E n c w h hn hc hm

end Go.Proofs.Ytbffcehaednefaa.Order
