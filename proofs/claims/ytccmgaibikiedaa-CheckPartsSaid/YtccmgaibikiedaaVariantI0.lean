/- Variants: the document's May over any row of variants. -/
import Derived.Test.YtccmgaibikiedaaVariantH0
namespace Go.Proofs.Ytccmgaibikiedaa.Variant
set_option linter.unusedVariables false
set_option linter.unusedSimpArgs false
open Go.RowKit

/-- no value is longer than a text may be. -/
def Fit (L : List Vr) : Prop := ∀ j i, ((L.getD j vr0).2.getD i ByteArray.empty).size ≤ maxLen

set_option maxHeartbeats 4000000 in
set_option maxRecDepth 100000 in
theorem rmay_any (A : Option Addr) (L : List Vr) (n c : Nat) (w : World) (h : VRow w w.heap.size A L) (hn : n = L.length) (hfit : Fit L) :
    Calls Try.prog 65 #[.slice A n c] w fun e w' => e = .returned (.bool (mayL L)) ∧ Below w.heap.size w w' := by
  have HN := Lib.hid hn
  have H := Lib.hid h
  have FIT := Lib.hid hfit
  clear hn h hfit
  by_cases h4 : n ≤ 4
  · have z4 : (n : Int) ≤ 4 := by omega
    have GOOD : Hid ((List.range n).all (okV L) = mayL L) := Lib.hid (by
      unfold mayL; rw [← HN.out, decide_eq_true h4]; rfl)
    go_enter Try.func65, Try.ntmps65
    go_wp2_with fail
    go_loopw [3, 4, 5, 6, 12] (fun _ _ _ _ v wr => ∃ k : Nat, v = .int .i64 k ∧ k ≤ n ∧ Below w.heap.size w wr ∧ (List.range k).all (okV L) = true) (fun _ _ _ _ v _ => n - (intOf v).toNat)
    case atStart => exact ⟨0, rfl, Nat.zero_le _, Below.refl _ _, rfl⟩
    case round =>
      obtain ⟨k, rfl, hk, hbel, hall⟩ := hrel
      have J := Lib.hid hbel
      have HALL := Lib.hid hall
      clear hbel hall
      by_cases hlt : k < n
      · have hlt' : (k : Int) < (n : Int) := by omega
        have KL : Hid (k < L.length) := Lib.hid (by have := HN.out; omega)
        rcases H.out with h' | ⟨b, bo, rfl, hb, hcell⟩
        · exfalso; have := KL.out; rw [h'] at this; simp at this
        · obtain ⟨A', n', c', e1, e2, e3, e4, e5, e6⟩ := hcell k KL.out
          obtain ⟨x, hx⟩ : ∃ x, x = (L.getD k vr0).1 := ⟨_, rfl⟩
          obtain ⟨l, hl⟩ : ∃ l, l = (L.getD k vr0).2 := ⟨_, rfl⟩
          have X := Lib.hid hx
          have OK : Hid (okV L k = (mayOneB x l && !named (L.take k) x)) := Lib.hid (by rw [hx, hl]; rfl)
          have BADK := Lib.hid (fun h => GOOD.out.symm.trans (range_bad (okV L) k n hlt h))
          have NEXTK := Lib.hid (range_snoc (okV L) k HALL.out)
          have NB := Lib.hid (fun w => rname_any x w)
          have ROW := Lib.hid (show SRow w w.heap.size A' l from by rw [hl]; exact e4)
          have NL : Hid (n' = l.length) := Lib.hid (by rw [hl]; exact e1)
          have FT : Hid (∀ i, (l.getD i ByteArray.empty).size ≤ maxLen) := Lib.hid (fun i => by rw [hl]; exact FIT.out k i)
          rw [← hx] at e5
          have HCELL := Lib.hid hcell
          have E5 := Lib.hid e5
          have E6 := Lib.hid e6
          replace e5 := (J.out.cell (p := ⟨b, bo + k * 2, none⟩) hb).trans e5
          replace e6 := (J.out.cell (p := ⟨b, bo + k * 2 + 1, none⟩) hb).trans e6
          clear hx hl e1 e2 e3 e4 hcell
          cases hnb : nameB x.data.toList with
          | false =>
            have F := Lib.hid (BADK.out (by rw [OK.out]; unfold mayOneB; rw [hnb]; rfl))
            rw [hnb] at NB
            clear hnb
            go_wp2_with (go_at_call 82; refine (NB.out _).mono ?_; rintro e w' ⟨rfl, rfl⟩)
            go_ret
            exact ⟨ret_bool F.out.symm, J.out⟩
          | true =>
            rw [hnb] at NB
            by_cases h0 : n' = 0
            · have z0 : ((n' : Int) == 0) = true := by rw [h0]; rfl
              have F := Lib.hid (BADK.out (by rw [OK.out]; unfold mayOneB; rw [← NL.out, h0]; simp))
              clear hnb
              subst h0
              go_wp2_with (go_at_call 82; refine (NB.out _).mono ?_; rintro e w' ⟨rfl, rfl⟩)
              go_ret
              exact ⟨ret_bool F.out.symm, J.out⟩
            · have z0 : ((n' : Int) == 0) = false := by
                cases hb : ((n' : Int) == 0) with
                | false => rfl
                | true => have := eq_of_beq hb; omega
              by_cases h5 : n' ≤ 4
              · have z5 : (n' : Int) ≤ 4 := by omega
                have MO : Hid (mayOneB x l = (List.range n').all (okAt l)) := Lib.hid (by
                  unfold mayOneB; rw [hnb, ← NL.out]
                  have e1 : decide (0 < n') = true := by simp; omega
                  have e2 : decide (n' ≤ 4) = true := by simp; omega
                  rw [e1, e2]; rfl)
                clear hnb h0
                go_wp2_with (go_at_call 82; refine (NB.out _).mono ?_; rintro e w' ⟨rfl, rfl⟩)
                have hk4 : (k : Int) ≤ 4 := by omega
                clear e5 e6
                go_loopw [4] (fun v wq => ∃ j : Nat, v = .int .i64 j ∧ j ≤ k ∧ Below w.heap.size w wq ∧ named (L.take j) x = false) (fun v _ => k - (intOf v).toNat)
                case atStart => exact ⟨0, rfl, Nat.zero_le _, J.out, rfl⟩
                case round =>
                  obtain ⟨j, rfl, hj, hbel2, hno⟩ := hrel
                  have J2 := Lib.hid hbel2
                  have NO := Lib.hid hno
                  clear hbel2 hno
                  by_cases hjk : j < k
                  · have hjk' : (j : Int) < (k : Int) := by omega
                    have f5 := (J2.out.cell (p := ⟨b, bo + k * 2, none⟩) hb).trans E5.out
                    obtain ⟨A3, n3, c3, g1, g2, g3, g4, g5, g6⟩ := HCELL.out j (by have := KL.out; omega)
                    have HIT := Lib.hid (named_hit L j k x (by have := KL.out; omega) hjk)
                    have NXT := Lib.hid (named_next L j x (by have := KL.out; omega) NO.out)
                    obtain ⟨y, hy⟩ : ∃ y, y = (L.getD j vr0).1 := ⟨_, rfl⟩
                    replace g5 := (J2.out.cell (p := ⟨b, bo + j * 2, none⟩) hb).trans g5
                    rw [← hy] at g5 HIT NXT
                    clear hy g1 g2 g3 g4 g6
                    cases hq : (y.toList == x.toList) with
                    | true =>
                      have F := Lib.hid (BADK.out (by rw [OK.out, HIT.out hq]; simp))
                      go_wp2_with fail
                      go_region
                      go_wp2_with fail
                      go_ret
                      exact ⟨ret_bool F.out.symm, J2.out.drew⟩
                    | false =>
                      have F := Lib.hid (NXT.out hq)
                      go_wp2_with fail
                      go_region
                      go_wp2_with fail
                      go_roundw
                      case rel => exact ⟨j + 1, by go_num, by omega, J2.out.drew, F.out⟩
                      case measure => simp [intOf]; omega
                  · obtain rfl : j = k := by omega
                    have OK2 : Hid (okV L j = (List.range n').all (okAt l)) := Lib.hid (by rw [OK.out, NO.out, MO.out]; simp)
                    have f6 := (J2.out.cell (p := ⟨b, bo + j * 2 + 1, none⟩) hb).trans E6.out
                    go_wp2_with fail
                    clear f6
                    go_loopw [5, 6, 62] (fun _ _ v wq => ∃ i : Nat, v = .int .i64 i ∧ i ≤ n' ∧ Below w.heap.size w wq ∧ (List.range i).all (okAt l) = true) (fun _ _ v _ => n' - (intOf v).toNat)
                    case atStart => exact ⟨0, rfl, Nat.zero_le _, J2.out, rfl⟩
                    case round =>
                      obtain ⟨i, rfl, hi, hbel3, hall3⟩ := hrel
                      have J3 := Lib.hid hbel3
                      have ALL3 := Lib.hid hall3
                      clear hbel3 hall3
                      by_cases hin : i < n'
                      · have hin' : (i : Int) < (n' : Int) := by omega
                        have IL : Hid (i < l.length) := Lib.hid (by have := NL.out; omega)
                        rcases ROW.out with h' | ⟨b', bo', rfl, hb', hc'⟩
                        · exfalso; have := IL.out; rw [h'] at this; simp at this
                        · have HC := Lib.hid hc'
                          obtain ⟨y, hy⟩ : ∃ y, y = l.getD i ByteArray.empty := ⟨_, rfl⟩
                          have V := Lib.hid (fun w => rvalue_any y w (by rw [hy]; exact FT.out i))
                          have OKA : Hid (okAt l i = (valueB y.data.toList && !Lib.containsS (l.take i) y)) := Lib.hid (by rw [hy]; rfl)
                          have BADA := Lib.hid (fun h => BADK.out (OK2.out.trans (range_bad (okAt l) i n' hin h)))
                          have NEXTA := Lib.hid (range_snoc (okAt l) i ALL3.out)
                          have YC : Hid (w.cell? ⟨b', bo' + i, none⟩ = some (.string y)) := Lib.hid (by rw [hy]; exact hc' i IL.out)
                          have f6 := (J3.out.cell (p := ⟨b, bo + j * 2 + 1, none⟩) hb).trans E6.out
                          have fy := (J3.out.cell (p := ⟨b', bo' + i, none⟩) hb').trans YC.out
                          clear hy hc'
                          cases hv : valueB y.data.toList with
                          | false =>
                            have F := Lib.hid (BADA.out (by rw [OKA.out, hv]; rfl))
                            rw [hv] at V
                            clear hv
                            go_wp2_with (go_at_call 83; refine (V.out _).mono ?_; rintro e w' ⟨rfl, rfl⟩)
                            go_ret
                            exact ⟨ret_bool F.out.symm, J3.out⟩
                          | true =>
                            have OKB : Hid (okAt l i = !Lib.containsS (l.take i) y) := Lib.hid (by rw [OKA.out, hv]; rfl)
                            rw [hv] at V
                            clear hv
                            go_wp2_with (go_at_call 83; refine (V.out _).mono ?_; rintro e w' ⟨rfl, rfl⟩)
                            clear f6 fy
                            have hi4 : (i : Int) ≤ 4 := by omega
                            go_loopw [6] (fun v wq => ∃ m : Nat, v = .int .i64 m ∧ m ≤ i ∧ Below w.heap.size w wq ∧ Lib.containsS (l.take m) y = false) (fun v _ => i - (intOf v).toNat)
                            case atStart => exact ⟨0, rfl, Nat.zero_le _, J3.out, rfl⟩
                            case round =>
                              obtain ⟨m, rfl, hm, hbel4, hno4⟩ := hrel
                              have J4 := Lib.hid hbel4
                              have NO4 := Lib.hid hno4
                              clear hbel4 hno4
                              by_cases hmi : m < i
                              · have hmi' : (m : Int) < (i : Int) := by omega
                                have hmn' : (m : Int) < (n' : Int) := by omega
                                have f6 := (J4.out.cell (p := ⟨b, bo + j * 2 + 1, none⟩) hb).trans E6.out
                                have fy := (J4.out.cell (p := ⟨b', bo' + i, none⟩) hb').trans YC.out
                                have fz := (J4.out.cell (p := ⟨b', bo' + m, none⟩) hb').trans (HC.out m (by have := IL.out; omega))
                                have HIT := Lib.hid (contains_hit l m i y (by have := IL.out; omega) hmi)
                                have NXT := Lib.hid (contains_next l m y (by have := IL.out; omega) NO4.out)
                                obtain ⟨z, hz⟩ : ∃ z, z = l.getD m ByteArray.empty := ⟨_, rfl⟩
                                rw [← hz] at fz HIT NXT
                                clear hz
                                cases hq : (z.toList == y.toList) with
                                | true =>
                                  have F := Lib.hid (BADA.out (by rw [OKB.out, HIT.out hq]; rfl))
                                  go_wp2_with fail
                                  go_region
                                  go_wp2_with fail
                                  go_ret
                                  exact ⟨ret_bool F.out.symm, J4.out.drew⟩
                                | false =>
                                  have F := Lib.hid (NXT.out hq)
                                  go_wp2_with fail
                                  go_region
                                  go_wp2_with fail
                                  go_roundw
                                  case rel => exact ⟨m + 1, by go_num, by omega, J4.out.drew, F.out⟩
                                  case measure => simp [intOf]; omega
                              · obtain rfl : m = i := by omega
                                have F := Lib.hid (NEXTA.out (by rw [OKB.out, NO4.out]; rfl))
                                go_wp2_with fail
                                go_roundw
                                case rel => exact ⟨m + 1, by go_num, by omega, J4.out, F.out⟩
                                case measure => simp [intOf]; omega
                      · obtain rfl : i = n' := by omega
                        have F := Lib.hid (NEXTK.out (by rw [OK2.out, ALL3.out]))
                        go_wp2_with fail
                        go_roundw
                        case rel => exact ⟨j + 1, by go_num, by omega, J3.out, F.out⟩
                        case measure => simp [intOf]; omega
              · have z5 : 4 < (n' : Int) := by omega
                have F := Lib.hid (BADK.out (by rw [OK.out]; unfold mayOneB; rw [← NL.out, decide_eq_false h5]; simp))
                clear hnb h0
                go_wp2_with (go_at_call 82; refine (NB.out _).mono ?_; rintro e w' ⟨rfl, rfl⟩)
                go_ret
                exact ⟨ret_bool F.out.symm, J.out⟩
      · have e : k = n := by omega
        subst e
        go_wp2_with fail
        go_ret
        exact ⟨ret_bool (by rw [← GOOD.out, HALL.out]), J.out⟩
  · have z4 : 4 < (n : Int) := by omega
    have F : Hid (mayL L = false) := Lib.hid (by unfold mayL; rw [← HN.out, decide_eq_false h4]; rfl)
    go_enter Try.func65, Try.ntmps65
    go_wp2_with fail
    go_ret
    exact ⟨ret_bool F.out.symm, Below.refl _ _⟩

end Go.Proofs.Ytccmgaibikiedaa.Variant
