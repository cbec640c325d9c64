/- The law VariantAll, walked. -/
import Derived.Test.YtbffcehaednefaaVariantJ
import Derived.Test.YtbffcehaednefaaVariantNamesWalk
namespace Go.Proofs.Ytbffcehaednefaa.Variant
set_option linter.unusedVariables false
set_option linter.unusedSimpArgs false
open Go.RowKit

theorem getD_mem (l : List ByteArray) (r : Nat) (h : r < l.length) : l.getD r ByteArray.empty ∈ l := by
  rw [List.getD_eq_getElem?_getD, List.getElem?_eq_getElem h]; exact List.getElem_mem _
theorem among_pick (L : List Vr) (q j : Nat) (h : 0 < (L.getD j vr0).2.length) : among (L.getD j vr0).2 (pick L q j) = true := by
  unfold among pick
  rw [List.any_eq_true]
  exact ⟨_, getD_mem _ _ (Nat.mod_lt _ h), eqB_refl _⟩
theorem legal_chosen (L : List Vr) (q : Nat) (hv : ∀ j, j < L.length → 0 < (L.getD j vr0).2.length) : legalB L (chosenT L q) = true := by
  unfold legalB
  rw [chosenT_len, decide_eq_true rfl, Bool.true_and, List.all_eq_true]
  intro j hj
  rw [List.mem_range] at hj
  unfold legalAt
  rw [chosenT_at L q j hj, eqB_refl, among_pick L q j (hv j hj)]; rfl
theorem len_max (L : List Vr) (hv : ∀ j, j < L.length → (L.getD j vr0).2.length ≤ 4) : ∀ j, (L.getD j vr0).2.length ≤ maxLen := by
  intro j
  rcases Nat.lt_or_ge j L.length with h | h
  · have := hv j h; unfold maxLen; omega
  · have e : L.getD j vr0 = vr0 := by rw [List.getD_eq_getElem?_getD, List.getElem?_eq_none h]; rfl
    rw [e]; unfold maxLen; simp [vr0]
theorem bne_self (x : ByteArray) : (x.toList != x.toList) = false := by simp

set_option maxHeartbeats 4000000 in
set_option maxRecDepth 100000 in
theorem law_all (A : Option Addr) (L : List Vr) (m c : Nat) (w : World) (h : VRow w w.heap.size A L) (hn : m = L.length) (hc : m ≤ c) (hm : c ≤ maxLen) (hfit : Fit L) :
    Calls Try.prog 4 #[.slice A m c] w fun e w' => e = .returned (.bool true) ∧ Below w.heap.size w w' := by
  have FX := Lib.hid fixed_any
  have G := Lib.hid (rgreatV_any A L m c w h hn)
  cases hg : greatV L with
  | true =>
    rw [hg] at G
    clear h hn hc hm hfit hg
    go_enter Try.func4, Try.ntmps4
    go_wp2_with fail
    go_at_call 16; refine G.out.mono ?_; rintro e w1 ⟨rfl, rfl⟩
    go_wp2_with fail
    go_at_call 11; refine (FX.out _).mono ?_; rintro e w1 ⟨rfl, hb⟩
    go_wp2_with fail
    go_ret
    exact ⟨rfl, hb⟩
  | false =>
    rw [hg] at G
    clear hg
    have H := Lib.hid h
    have HN := Lib.hid hn
    have RM : Hid (∀ w1, Below w.heap.size w w1 → Calls Try.prog 18 #[.slice A m c] w1 fun e w' => e = .returned (.bool (mayL L)) ∧ Below w1.heap.size w1 w') :=
      Lib.hid (fun w1 hb => rmay_any A L m c w1 (h.below hb.size hb) hn hfit)
    cases hy : mayL L with
    | false =>
      rw [hy] at RM
      have AL := Lib.hid (all_no A L m c w h hn hc hm hy)
      clear h hn hc hm hfit hy
      go_enter Try.func4, Try.ntmps4
      go_wp2_with fail
      go_at_call 16; refine G.out.mono ?_; rintro e w1 ⟨rfl, rfl⟩
      go_wp2_with fail
      go_at_call 17; refine AL.out.mono ?_; rintro e w2 ⟨rfl, hb⟩
      have B2 := Lib.hid hb
      clear hb
      go_wp2_with fail
      go_at_call 18; refine (RM.out _ B2.out).mono ?_; rintro e w3 ⟨rfl, hb⟩
      have B3 := Lib.hid (bstep B2.out hb)
      clear hb
      go_wp2_with fail
      go_at_call 11; refine (FX.out _).mono ?_; rintro e w4 ⟨rfl, hb⟩
      have B4 := Lib.hid (bstep B3.out hb)
      clear hb
      go_wp2_with fail
      go_ret
      exact ⟨rfl, B4.out⟩
    | true =>
      rw [hy] at RM
      have AL := Lib.hid (all_yes A L m c w h hn hc hm hy)
      obtain ⟨hl4, hvs⟩ := may_parts hy
      have hm4 : m ≤ 4 := by omega
      have z4 : (m : Int) ≤ 4 := by omega
      have PL : Hid (∀ k, k ≤ m → prodTo L k ≤ 256) := Lib.hid (fun k hk => prodTo_le L k (by omega) (fun j hj => (hvs j (by omega)).2))
      have VS := Lib.hid hvs
      have LM := Lib.hid (len_max L fun j hj => (hvs j hj).2)
      clear h hn hc hm hfit hy hl4 hvs hm4
      go_enter Try.func4, Try.ntmps4
      go_wp2_with fail
      go_at_call 16; refine G.out.mono ?_; rintro e w1 ⟨rfl, rfl⟩
      go_wp2_with fail
      go_at_call 17; refine AL.out.mono ?_; rintro e w2 ⟨o, rfl, ho, har, hb⟩
      have B2 := Lib.hid hb
      have AR := Lib.hid har
      clear hb ho har
      go_wp2_with fail
      go_at_call 18; refine (RM.out _ B2.out).mono ?_; rintro e w3 ⟨rfl, hb⟩
      have B3 := Lib.hid hb
      clear hb RM G AL
      go_wp2_with fail
      go_loopw [4, 6, 28] (fun n _ v wr => ∃ k : Nat, v = .int .i64 k ∧ n = .int .i64 (prodTo L k) ∧ k ≤ m ∧ Below w2.heap.size w2 wr) (fun _ _ v _ => m - (intOf v).toNat)
      case atStart => exact ⟨0, rfl, rfl, Nat.zero_le _, B3.out⟩
      case round =>
        obtain ⟨k, rfl, rfl, hk, hbel⟩ := hrel
        have J := Lib.hid hbel
        clear hbel B3
        by_cases hlt : k < m
        · have hlt' : (k : Int) < (m : Int) := by omega
          have h' := H.out.below (Nat.le_refl _) (bstep B2.out J.out)
          rcases h' with h' | ⟨b, bo, rfl, hb, hcell⟩
          · exfalso; have := HN.out; rw [h'] at this; simp at this; omega
          · obtain ⟨A', n', c', e1, e2, e3, e4, e5, e6⟩ := hcell k (by have := HN.out; omega)
            have hp := PL.out (k + 1) (by omega)
            have hp0 := PL.out k (by omega)
            have NEXT : Hid (∀ v : Int, v = (prodTo L k : Int) * (n' : Int) → Value.int .i64 (wrap64 v) = .int .i64 (prodTo L (k + 1))) := Lib.hid (fun v hv => by
              have e : prodTo L (k + 1) = prodTo L k * n' := by rw [e1]; rfl
              rw [hv, e, ← Int.natCast_mul]
              rw [e] at hp
              generalize prodTo L k * n' = z at hp ⊢
              congr 1
              unfold wrap64
              omega)
            have R := Lib.hid (boxV_cells wr (L.getD k vr0).1 A' n' c')
            obtain ⟨c0, c1⟩ := R.out
            obtain ⟨P, hP⟩ : ∃ P, P = prodTo L k := ⟨_, rfl⟩
            obtain ⟨x, hx⟩ : ∃ x, x = (L.getD k vr0).1 := ⟨_, rfl⟩
            rw [← hP] at NEXT hp0 ⊢
            rw [← hx] at e5 c0 c1
            clear hcell e1 e2 e3 e4 hp hP hx
            have BA := Lib.hid (Below.alloc J.out J.out.size (.cells #[.string x, .slice A' n' c'] 30))
            go_wp2_with fail
            go_roundw
            case rel => exact ⟨k + 1, by go_num, NEXT.out _ rfl, by omega, BA.out⟩
            case measure => simp [intOf]; omega
        · obtain rfl : k = m := by omega
          have hN := PL.out k (Nat.le_refl _)
          obtain ⟨N, hNN⟩ : ∃ N, N = prodTo L k := ⟨_, rfl⟩
          rw [← hNN] at hN AR ⊢
          have hne : ((N : Int) != (N : Int)) = false := by simp
          clear hNN
          go_wp2_with fail
          go_loopw [7, 8, 9, 10, 11, 44] (fun _ _ _ _ _ v wq => ∃ i : Nat, v = .int .i64 i ∧ i ≤ N ∧ Below w2.heap.size w2 wq) (fun _ _ _ _ _ v _ => N - (intOf v).toNat)
          case atStart => exact ⟨0, rfl, Nat.zero_le _, J.out⟩
          case round =>
            obtain ⟨i, rfl, hi, hbel⟩ := hrel
            have J2 := Lib.hid hbel
            clear hbel J
            by_cases hin : i < N
            · have hin' : (i : Int) < (N : Int) := by omega
              obtain ⟨wo, rfl⟩ : ∃ wo : World, wo = wr := ⟨_, rfl⟩
              have AI := Lib.hid (AR.out.below J2.out)
              obtain ⟨cs, a1, a2, a3⟩ := AI.out
              obtain ⟨g, g1, g2, g3⟩ := a3 i hin
              have hg1 := blk_cell a1 g1
              have CH := Lib.hid g3
              have GW : Hid (g < wo.heap.size) := Lib.hid (by obtain ⟨ds, d1, _⟩ := g3; exact lt_of_block d1)
              have N2 : Hid (N ≤ 256) := Lib.hid hN
              clear a1 a2 a3 g1 g2 g3
              go_wp2_with fail
              clear hg1
              go_loopw [9, 10, 11, 52] (fun q _ _ v wq => ∃ j : Nat, v = .int .i64 j ∧ q = .int .i64 (quo L i j) ∧ j ≤ k ∧ Below wo.heap.size wo wq) (fun _ _ _ v _ => k - (intOf v).toNat)
              case atStart => exact ⟨0, rfl, rfl, Nat.zero_le _, Below.refl _ _⟩
              case round =>
                obtain ⟨j, rfl, rfl, hj, hbel⟩ := hrel
                have J3 := Lib.hid hbel
                clear hbel
                by_cases hjk : j < k
                · have hjk' : (j : Int) < (k : Int) := by omega
                  have BB := Lib.hid (bstep B2.out (bstep J2.out J3.out))
                  rcases H.out with h' | ⟨b, bo, rfl, hb, hcell⟩
                  · exfalso; have := HN.out; rw [h'] at this; simp at this; omega
                  obtain ⟨A', n', c', e1, e2, e3, e4, e5, e6⟩ := hcell j (by have := HN.out; omega)
                  have hv := VS.out j (by have := HN.out; omega)
                  rw [← e1] at hv
                  rcases e4 with e4 | ⟨b', bo', rfl, hb', hc'⟩
                  · exfalso; rw [e4] at e1; simp at e1; omega
                  obtain ⟨Q, hQ⟩ : ∃ Q, Q = quo L i j := ⟨_, rfl⟩
                  have hr : Q % n' < n' := Nat.mod_lt _ (by omega)
                  have hval := hc' (Q % n') (by rw [← e1]; exact hr)
                  have hpick : pick L i j = (L.getD j vr0).2.getD (Q % n') ByteArray.empty := by rw [hQ, e1]; rfl
                  rw [← hpick] at hval
                  have hnext : quo L i (j + 1) = Q / n' := by rw [hQ, e1]; rfl
                  obtain ⟨ds, d1, d2, d3⟩ := CH.out.below J3.out
                  obtain ⟨s1, s2⟩ := d3 j hjk
                  obtain ⟨x, hx⟩ : ∃ x, x = (L.getD j vr0).1 := ⟨_, rfl⟩
                  obtain ⟨val, hp⟩ : ∃ val, val = pick L i j := ⟨_, rfl⟩
                  rw [← hx] at e5 s1
                  rw [← hp] at hval s2
                  rw [← hQ]
                  obtain ⟨r, hrr⟩ : ∃ r, r = Q % n' := ⟨_, rfl⟩
                  rw [← hrr] at hr hval
                  have hmod : (Q : Int).tmod (n' : Int) = (r : Int) := by rw [hrr]; exact Int.ofNat_tmod Q n'
                  have hdiv : (Q : Int).tdiv (n' : Int) = ((Q / n' : Nat) : Int) := Int.ofNat_tdiv Q n'
                  have hn0 : ((n' : Int) == 0) = false := by
                    cases hb : ((n' : Int) == 0) with
                    | false => rfl
                    | true => have := eq_of_beq hb; omega
                  have hr1 : (r : Int) < (n' : Int) := by omega
                  have hnz : ¬ n' = 0 := by omega
                  have hQ1 : Q ≤ 1000 := by rw [hQ]; exact Nat.le_trans (quo_le L i j) (by have := N2.out; omega)
                  have NEXT : Hid (∀ v : Int, v = (Q : Int) / (n' : Int) → Value.int .i64 (wrap64 v) = .int .i64 (quo L i (j + 1))) := Lib.hid (fun v hv => by
                    rw [hv, hnext, show (Q : Int) / (n' : Int) = ((Q / n' : Nat) : Int) from (Int.natCast_ediv Q n').symm]
                    have : Q / n' ≤ 1000 := Nat.le_trans (Nat.div_le_self _ _) hQ1
                    generalize Q / n' = z at this ⊢
                    congr 1
                    unfold wrap64
                    omega)
                  have R := Lib.hid (boxV_cells wr x (some ⟨b', bo', none⟩) n' c')
                  obtain ⟨c0, c1⟩ := R.out
                  have BX := Lib.hid ((Below.refl wr.heap.size wr).alloc (Nat.le_refl _) (.cells #[.string x, .slice (some ⟨b', bo', none⟩) n' c'] 30))
                  have q5 := (BB.out.cell (p := ⟨b, bo + j * 2, none⟩) hb).trans e5
                  have q6 := (BB.out.cell (p := ⟨b, bo + j * 2 + 1, none⟩) hb).trans e6
                  have hgw : g < wr.heap.size := lt_of_block d1
                  have qs1 := (BX.out.cell (p := ⟨g, j * 2, none⟩) hgw).trans (blk_cell d1 s1)
                  have qs2 := (BX.out.cell (p := ⟨g, j * 2 + 1, none⟩) hgw).trans (blk_cell d1 s2)
                  have qv := (BX.out.cell (p := ⟨b', bo' + r, none⟩) (by have := BB.out.size; show b' < _; omega)).trans ((BB.out.cell (p := ⟨b', bo' + r, none⟩) hb').trans hval)
                  have y1 := bne_self x
                  have y2 := bne_self val
                  have y3 : ((k : Int) != (k : Int)) = false := by simp
                  have BN := Lib.hid (fun n => drewN_below (bstep J3.out BX.out) n)
                  clear hcell hc' hpick hnext hx hp hrr e1 e2 e3 hv hr hQ d1 d2 d3 s1 s2 e5 e6 hval hgw
                  go_wp2_with fail
                  go_quiet (fail)
                  go_wp2_with fail
                  go_roundw
                  case rel => exact ⟨j + 1, by go_num, NEXT.out _ rfl, by omega, BN.out _⟩
                  case measure => simp [intOf]; omega
                · obtain rfl : j = k := by omega
                  have LG : Hid (Calls Try.prog 19 #[.slice A j c, .slice (some ⟨g, 0, none⟩) j j] wr fun e w' => e = .returned (.bool true) ∧ Below wr.heap.size wr w') := Lib.hid (by
                    have hb2 := bstep J2.out J3.out
                    have t := rlegal_any A L j c (some ⟨g, 0, none⟩) (chosenT L i) j j wr (H.out.below (by have := (bstep B2.out hb2).size; omega) (bstep B2.out hb2)) HN.out (by unfold maxLen; omega) LM.out ((CH.out.below J3.out).row HN.out (by have := GW.out; have := J3.out.size; omega)) (by rw [chosenT_len]; exact HN.out) (by unfold maxLen; omega)
                    rwa [legal_chosen L i fun j hj => (VS.out j hj).1] at t)
                  go_wp2_with fail
                  go_at_call 19; refine LG.out.mono ?_; rintro e w4 ⟨rfl, hb⟩
                  have B4 := Lib.hid (bstep J2.out (bstep J3.out hb))
                  clear hb
                  go_wp2_with fail
                  go_roundw
                  case rel => exact ⟨i + 1, by go_num, by omega, B4.out⟩
                  case measure => simp [intOf]; omega
            · obtain rfl : i = N := by omega
              go_wp2_with fail
              go_at_call 11; refine (FX.out _).mono ?_; rintro e w4 ⟨rfl, hb⟩
              have B4 := Lib.hid (bstep (bstep B2.out J2.out) hb)
              clear hb
              go_wp2_with fail
              go_ret
              exact ⟨rfl, B4.out⟩

end Go.Proofs.Ytbffcehaednefaa.Variant
