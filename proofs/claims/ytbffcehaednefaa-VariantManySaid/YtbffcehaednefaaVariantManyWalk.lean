/- The law VariantMany, walked. -/
import Derived.Test.YtbffcehaednefaaVariantL
import Derived.Test.YtbffcehaednefaaVariantAllWalk
namespace Go.Proofs.Ytbffcehaednefaa.Variant
set_option linter.unusedVariables false
set_option linter.unusedSimpArgs false
open Go.RowKit

theorem wantTo_le (W : List Tr) (L : List Vr) : ∀ k, wantTo W L k ≤ prodTo L k
  | 0 => Nat.le_refl _
  | k + 1 => Nat.mul_le_mul (wantTo_le W L k) (by unfold cntW; exact List.countP_le_length)
theorem got_next (W : List Tr) (L : List Vr) (k : Nat) : gotTo W L (k + 1) = gotTo W L k + if meetsB (chosenT L k) W then 1 else 0 := by
  unfold gotTo
  rw [List.range_succ, List.countP_append]
  simp [List.countP_cons]
theorem got_le (W : List Tr) (L : List Vr) (k : Nat) : gotTo W L k ≤ k := by
  have := List.countP_le_length (p := fun q => meetsB (chosenT L q) W) (l := List.range k)
  simpa [gotTo] using this
theorem countS_next (p : ByteArray → Bool) (l : List ByteArray) (k : Nat) (hk : k < l.length) : (l.take (k + 1)).countP p = (l.take k).countP p + if p (l.getD k ByteArray.empty) then 1 else 0 := by
  rw [List.take_succ_eq_append_getElem hk, List.countP_append]
  have : l[k] = l.getD k ByteArray.empty := by rw [List.getD_eq_getElem?_getD, List.getElem?_eq_getElem hk]; rfl
  rw [this]; simp [List.countP_cons]
theorem countT_next (p : Tr → Bool) (l : List Tr) (k : Nat) (hk : k < l.length) : (l.take (k + 1)).countP p = (l.take k).countP p + if p (l.getD k tr0) then 1 else 0 := by
  rw [List.take_succ_eq_append_getElem hk, List.countP_append]
  have : l[k] = l.getD k tr0 := by rw [List.getD_eq_getElem?_getD, List.getElem?_eq_getElem hk]; rfl
  rw [this]; simp [List.countP_cons]
theorem countT_take (p : Tr → Bool) (l : List Tr) (k : Nat) : (l.take k).countP p ≤ l.countP p := by
  have h : l.countP p = (l.take k).countP p + (l.drop k).countP p := by rw [← List.countP_append, List.take_append_drop]
  omega
theorem allT_snoc (p : Tr → Bool) (l : List Tr) (k : Nat) (hk : k < l.length) : (l.take (k + 1)).all p = ((l.take k).all p && p (l.getD k tr0)) := by
  rw [List.take_succ_eq_append_getElem hk, List.all_append]
  have : l[k] = l.getD k tr0 := by rw [List.getD_eq_getElem?_getD, List.getElem?_eq_getElem hk]; rfl
  rw [this]; simp
def okX (x y : ByteArray) (t : Tr) : Bool := !eqB t.1 x || eqB t.2 y
theorem okW_eq (W : List Tr) (x y : ByteArray) : okW W x y = W.all (okX x y) := rfl
theorem bneB (a b : ByteArray) (q : Bool) (h : (a.toList == b.toList) = q) : (a.toList != b.toList) = !q := by rw [← h]; rfl

set_option maxHeartbeats 8000000 in
set_option maxRecDepth 100000 in
theorem law_many (A : Option Addr) (L : List Vr) (m c : Nat) (A2 : Option Addr) (W : List Tr) (m2 c2 : Nat) (w : World) (h : VRow w w.heap.size A L) (hn : m = L.length) (hc : m ≤ c) (hm : c ≤ maxLen) (hfit : Fit L)
    (h2 : TRow w w.heap.size A2 W) (hn2 : m2 = W.length) (hc2 : m2 ≤ c2) (hm2 : c2 ≤ maxLen) (hfit2 : FitT W) :
    Calls Try.prog 6 #[.slice A m c, .slice A2 m2 c2] w fun e w' => e = .returned (.bool true) ∧ Below w.heap.size w w' := by
  have FX := Lib.hid fixed_any
  have G := Lib.hid (rgreatV_any A L m c w h hn)
  have GT := Lib.hid (rgreatT_any A2 W m2 c2 w h2 hn2)
  have M := Lib.hid (rmay_any A L m c w h hn hfit)
  have WI : Hid (∀ w1, Below w.heap.size w w1 → Calls Try.prog 22 #[.slice A2 m2 c2] w1 fun e w' => e = .returned (.bool (wishB W)) ∧ Below w1.heap.size w1 w') := Lib.hid (fun w1 hb => rwish_any A2 W m2 c2 w1 (h2.below hb.size hb) hn2 (by omega) hfit2)
  cases hg : greatV L with
  | true =>
    rw [hg] at G
    clear h hn hc hm hfit h2 hn2 hc2 hm2 hfit2 hg
    go_enter Try.func6, Try.ntmps6
    go_wp2_with fail
    go_at_call 16; refine (G.out).mono ?_; rintro e w1 ⟨rfl, rfl⟩
    go_wp2_with fail
    go_at_call 11; refine (FX.out _).mono ?_; rintro e w9 ⟨rfl, hb⟩
    go_wp2_with fail
    go_ret
    exact ⟨rfl, hb⟩
  | false =>
    rw [hg] at G
    cases hgt : greatT W with
    | true =>
      rw [hgt] at GT
      clear h hn hc hm hfit h2 hn2 hc2 hm2 hfit2 hg hgt
      go_enter Try.func6, Try.ntmps6
      go_wp2_with fail
      go_at_call 16; refine (G.out).mono ?_; rintro e w1 ⟨rfl, rfl⟩
      go_wp2_with fail
      go_at_call 20; refine (GT.out).mono ?_; rintro e w1 ⟨rfl, rfl⟩
      go_wp2_with fail
      go_at_call 11; refine (FX.out _).mono ?_; rintro e w9 ⟨rfl, hb⟩
      go_wp2_with fail
      go_ret
      exact ⟨rfl, hb⟩
    | false =>
      rw [hgt] at GT
      cases hy : mayL L with
      | false =>
        rw [hy] at M
        clear h hn hc hm hfit h2 hn2 hc2 hm2 hfit2 hg hgt hy
        go_enter Try.func6, Try.ntmps6
        go_wp2_with fail
        go_at_call 16; refine (G.out).mono ?_; rintro e w1 ⟨rfl, rfl⟩
        go_wp2_with fail
        go_at_call 20; refine (GT.out).mono ?_; rintro e w1 ⟨rfl, rfl⟩
        go_wp2_with fail
        go_at_call 18; refine (M.out).mono ?_; rintro e w2 ⟨rfl, hb⟩
        have B2 := Lib.hid hb
        clear hb
        go_wp2_with fail
        go_at_call 11; refine (FX.out _).mono ?_; rintro e w9 ⟨rfl, hb⟩
        go_wp2_with fail
        go_ret
        exact ⟨rfl, bstep B2.out hb⟩
      | true =>
        rw [hy] at M
        cases hw : wishB W with
        | false =>
          rw [hw] at WI
          clear h hn hc hm hfit h2 hn2 hc2 hm2 hfit2 hg hgt hy hw
          go_enter Try.func6, Try.ntmps6
          go_wp2_with fail
          go_at_call 16; refine (G.out).mono ?_; rintro e w1 ⟨rfl, rfl⟩
          go_wp2_with fail
          go_at_call 20; refine (GT.out).mono ?_; rintro e w1 ⟨rfl, rfl⟩
          go_wp2_with fail
          go_at_call 18; refine (M.out).mono ?_; rintro e w2 ⟨rfl, hb⟩
          have B2 := Lib.hid hb
          clear hb
          go_wp2_with fail
          go_at_call 22; refine (WI.out _ B2.out).mono ?_; rintro e w3 ⟨rfl, hb⟩
          have B3 := Lib.hid (bstep B2.out hb)
          clear hb
          go_wp2_with fail
          go_at_call 11; refine (FX.out _).mono ?_; rintro e w9 ⟨rfl, hb⟩
          go_wp2_with fail
          go_ret
          exact ⟨rfl, bstep B3.out hb⟩
        | true =>
          rw [hw] at WI
          have hm50 : m2 ≤ 50 := by
            unfold greatT at hgt
            simp only [Bool.or_eq_false_iff, decide_eq_false_iff_not] at hgt
            omega
          have z50 : (m2 : Int) ≤ 50 := by omega
          obtain ⟨hl4, hvs⟩ := may_parts hy
          have z4 : (m : Int) ≤ 4 := by omega
          have AL : Hid (∀ w1, Below w.heap.size w w1 → _) := Lib.hid (fun w1 (hb : Below w.heap.size w w1) => all_yes A L m c w1 (h.below hb.size hb) hn hc hm hy)
          have ME : Hid (∀ w1 g q, Below w.heap.size w w1 → g < w1.heap.size → Chosen w1 g L q m m → Calls Try.prog 23 #[.slice (some ⟨g, 0, none⟩) m m, .slice A2 m2 c2] w1 fun e w' => e = .returned (.bool (meetsB (chosenT L q) W)) ∧ Below w1.heap.size w1 w') := Lib.hid (fun w1 g q hb hg hch =>
            meets_any (some ⟨g, 0, none⟩) (chosenT L q) m m A2 W m2 c2 w1 (hch.row hn hg) (by rw [chosenT_len]; exact hn) (by omega) (h2.below hb.size hb) hn2 (by omega))
          have PL : Hid (∀ k, k ≤ m → prodTo L k ≤ 256) := Lib.hid (fun k hk => prodTo_le L k (by omega) (fun j hj => (hvs j (by omega)).2))
          have NLE : Hid (∀ k, k ≤ m → namedTo W L k ≤ 50) := Lib.hid (fun k hk => Nat.le_trans (named_le W L hy k (by omega)) (by omega))
          have MANY := Lib.hid (many W L hy)
          rw [← hn, ← hn2] at MANY
          have VS := Lib.hid hvs
          have H := Lib.hid h
          have HN := Lib.hid hn
          have H2 := Lib.hid h2
          have HN2 := Lib.hid hn2
          clear h hn hc hm hfit h2 hn2 hc2 hm2 hfit2 hg hgt hy hw hl4 hvs hm50
          go_enter Try.func6, Try.ntmps6
          go_wp2_with fail
          go_at_call 16; refine (G.out).mono ?_; rintro e w1 ⟨rfl, rfl⟩
          go_wp2_with fail
          go_at_call 20; refine (GT.out).mono ?_; rintro e w1 ⟨rfl, rfl⟩
          go_wp2_with fail
          go_at_call 18; refine (M.out).mono ?_; rintro e w2 ⟨rfl, hb⟩
          have B2 := Lib.hid hb
          clear hb
          go_wp2_with fail
          go_at_call 22; refine (WI.out _ B2.out).mono ?_; rintro e w3 ⟨rfl, hb⟩
          have B3 := Lib.hid (bstep B2.out hb)
          clear hb
          go_wp2_with fail
          clear G GT M WI B2
          go_loopw [5, 6, 8, 9, 11, 12, 14, 16, 39] (fun a b _ _ _ _ _ _ v wr => ∃ k : Nat, v = .int .i64 k ∧ k ≤ m ∧ a = .int .i64 (wantTo W L k) ∧ b = .int .i64 (namedTo W L k) ∧ Below w.heap.size w wr) (fun _ _ _ _ _ _ _ _ v _ => m - (intOf v).toNat)
          case atStart => exact ⟨0, rfl, Nat.zero_le _, rfl, rfl, B3.out⟩
          case round =>
            obtain ⟨k, rfl, hk, rfl, rfl, hbel⟩ := hrel
            obtain ⟨wo, rfl⟩ : ∃ wo : World, wo = wr := ⟨_, rfl⟩
            have J := Lib.hid hbel
            clear hbel B3
            by_cases hlt : k < m
            · have hlt' : (k : Int) < (m : Int) := by omega
              have KL : Hid (k < L.length) := Lib.hid (by have := HN.out; omega)
              rcases H.out with h' | ⟨b, bo, rfl, hb, hcell⟩
              · exfalso; have := KL.out; rw [h'] at this; simp at this
              obtain ⟨A', n', c', e1, e2, e3, e4, e5, e6⟩ := hcell k KL.out
              have hv := VS.out k KL.out
              rw [← e1] at hv
              obtain ⟨x, hx⟩ : ∃ x, x = (L.getD k vr0).1 := ⟨_, rfl⟩
              obtain ⟨l, hl⟩ : ∃ l, l = (L.getD k vr0).2 := ⟨_, rfl⟩
              have NL : Hid (n' = l.length) := Lib.hid (by rw [hl]; exact e1)
              have ROW : Hid (SRow w w.heap.size A' l) := Lib.hid (by rw [hl]; exact e4)
              have WN : Hid (wantTo W L (k + 1) = wantTo W L k * l.countP (okW W x)) := Lib.hid (by rw [hl, hx]; rfl)
              have DN : Hid (namedTo W L (k + 1) = namedTo W L k + W.countP (fun t => eqB t.1 x)) := Lib.hid (by rw [hx]; rfl)
              have hp := PL.out (k + 1) (by omega)
              have hpw := wantTo_le W L (k + 1)
              have WB : Hid (wantTo W L (k + 1) ≤ 256) := Lib.hid (by omega)
              have DB := Lib.hid (NLE.out (k + 1) (by omega))
              rw [← hx] at e5
              replace e5 := (J.out.cell (p := ⟨b, bo + k * 2, none⟩) hb).trans e5
              replace e6 := (J.out.cell (p := ⟨b, bo + k * 2 + 1, none⟩) hb).trans e6
              obtain ⟨a, ha⟩ : ∃ a, a = wantTo W L k := ⟨_, rfl⟩
              obtain ⟨d, hd⟩ : ∃ a, a = namedTo W L k := ⟨_, rfl⟩
              rw [← ha] at WN ⊢
              rw [← hd] at DN ⊢
              have hn4 : (n' : Int) ≤ 4 := by omega
              have R := Lib.hid (boxV_cells wo x A' n' c')
              obtain ⟨WV, hWV⟩ : ∃ WV, WV = boxV wo x A' n' c' := ⟨_, rfl⟩
              have BV : Hid (Below wo.heap.size wo WV) := Lib.hid (by rw [hWV]; exact (Below.refl wo.heap.size wo).alloc (Nat.le_refl _) _)
              have SZ : Hid (wo.heap.size < WV.heap.size) := Lib.hid (by rw [hWV]; simp)
              have X0 : Hid (WV.cell? ⟨wo.heap.size, 0, none⟩ = some (.string x)) := Lib.hid (by rw [hWV]; exact R.out.1)
              have X1 : Hid (WV.cell? ⟨wo.heap.size, 1, none⟩ = some (.slice A' n' c')) := Lib.hid (by rw [hWV]; exact R.out.2)
              have BWV := Lib.hid (J.out.trans (BV.out.mono J.out.size))
              have HWV := Lib.hid hWV
              obtain ⟨c0, c1⟩ := R.out
              clear hcell e1 e2 e3 e4 hx hl hp hpw ha hd hWV hv
              go_wp2_with fail
              clear c0 c1 e5 e6 R
              rw [show wo.alloc (.cells #[.string x, .slice A' n' c'] 30) = WV from HWV.out.symm]
              go_loopw [9, 11, 12, 14, 46] (fun cn _ _ _ v wq => ∃ i : Nat, v = .int .i64 i ∧ cn = .int .i64 ((l.take i).countP (okW W x) : Nat) ∧ i ≤ n' ∧ Below WV.heap.size WV wq) (fun _ _ _ _ v _ => n' - (intOf v).toNat)
              case atStart => exact ⟨0, rfl, rfl, Nat.zero_le _, Below.refl _ _⟩
              case round =>
                obtain ⟨i, rfl, rfl, hi, hbel2⟩ := hrel
                obtain ⟨wp, rfl⟩ : ∃ wo : World, wo = wr := ⟨_, rfl⟩
                have J2 := Lib.hid hbel2
                clear hbel2
                by_cases hin : i < n'
                · have hin' : (i : Int) < (n' : Int) := by omega
                  have IL : Hid (i < l.length) := Lib.hid (by have := NL.out; omega)
                  rcases ROW.out with h' | ⟨b', bo', rfl, hb', hc'⟩
                  · exfalso; have := IL.out; rw [h'] at this; simp at this
                  have BP := Lib.hid (BWV.out.trans (J2.out.mono BWV.out.size))
                  have fy := (BP.out.cell (p := ⟨b', bo' + i, none⟩) hb').trans (hc' i IL.out)
                  have CN := Lib.hid (countS_next (okW W x) l i IL.out)
                  have CL : Hid ((l.take i).countP (okW W x) ≤ i) := Lib.hid (by
                    have := List.countP_le_length (p := okW W x) (l := l.take i); rw [List.length_take] at this; omega)
                  obtain ⟨y, hy⟩ : ∃ y, y = l.getD i ByteArray.empty := ⟨_, rfl⟩
                  rw [← hy] at fy CN
                  obtain ⟨cn, hcn⟩ : ∃ a, a = (l.take i).countP (okW W x) := ⟨_, rfl⟩
                  rw [← hcn] at CN CL ⊢
                  clear hc' hy hcn
                  go_wp2_with fail
                  clear fy
                  go_loopw [12, 14, 52] (fun ok _ v wq => ∃ j : Nat, ∃ f : Bool, v = .int .i64 j ∧ ok = .bool f ∧ j ≤ m2 ∧ Below wp.heap.size wp wq ∧ (W.take j).all (okX x y) = f) (fun _ _ v _ => m2 - (intOf v).toNat)
                  case atStart => exact ⟨0, true, rfl, rfl, Nat.zero_le _, Below.refl _ _, rfl⟩
                  case round =>
                    obtain ⟨j, f, rfl, rfl, hj, hbel3, hf⟩ := hrel
                    have J3 := Lib.hid hbel3
                    have HF := Lib.hid hf
                    clear hbel3 hf
                    by_cases hjm : j < m2
                    · have hjm' : (j : Int) < (m2 : Int) := by omega
                      have JW : Hid (j < W.length) := Lib.hid (by have := HN2.out; omega)
                      rcases H2.out with h' | ⟨g, o, rfl, hg, hcellg⟩
                      · exfalso; have := JW.out; rw [h'] at this; simp at this
                      obtain ⟨t5, t6⟩ := hcellg j JW.out
                      have BQ := Lib.hid (BP.out.trans (J3.out.mono BP.out.size))
                      have NX := Lib.hid (allT_snoc (okX x y) W j JW.out)
                      rw [HF.out] at NX
                      have GV : Hid (okX x y (W.getD j tr0) = (!eqB (W.getD j tr0).1 x || eqB (W.getD j tr0).2 y)) := Lib.hid rfl
                      obtain ⟨s, hs⟩ : ∃ x, x = (W.getD j tr0).1 := ⟨_, rfl⟩
                      obtain ⟨t, ht⟩ : ∃ x, x = (W.getD j tr0).2 := ⟨_, rfl⟩
                      replace t5 := (BQ.out.cell (p := ⟨g, o + j * 2, none⟩) hg).trans t5
                      replace t6 := (BQ.out.cell (p := ⟨g, o + j * 2 + 1, none⟩) hg).trans t6
                      rw [← hs] at t5
                      rw [← ht] at t6
                      rw [← hs, ← ht] at GV
                      obtain ⟨c0, c1⟩ := boxT_cells wr s t
                      have BX := Lib.hid ((Below.refl wr.heap.size wr).alloc (Nat.le_refl _) (.cells #[.string s, .string t] 33))
                      have BE := Lib.hid (J3.out.trans (BX.out.mono J3.out.size))
                      have cx := (((J2.out.trans (BE.out.mono J2.out.size)).cell (p := ⟨wo.heap.size, 0, none⟩) SZ.out)).trans X0.out
                      clear hcellg hs ht
                      cases f with
                      | false =>
                        have F := Lib.hid (show (W.take (j + 1)).all (okX x y) = false from by rw [NX.out]; rfl)
                        go_wp2_with fail
                        go_roundw
                        case rel => exact ⟨j + 1, false, by go_num, rfl, by omega, BE.out, F.out⟩
                        case measure => simp [intOf]; omega
                      | true =>
                        cases hq : (s.toList == x.toList) with
                        | false =>
                          have hq' := bneB s x _ hq
                          have F := Lib.hid (show (W.take (j + 1)).all (okX x y) = true from by rw [NX.out, GV.out]; unfold eqB; rw [hq]; rfl)
                          simp only [Bool.not_false] at hq'
                          go_wp2_with fail
                          go_roundw
                          case rel => exact ⟨j + 1, true, by go_num, rfl, by omega, BE.out, F.out⟩
                          case measure => simp [intOf]; omega
                        | true =>
                          have hq' := bneB s x _ hq
                          simp only [Bool.not_true] at hq'
                          cases hr : (t.toList == y.toList) with
                          | false =>
                            have F := Lib.hid (show (W.take (j + 1)).all (okX x y) = false from by rw [NX.out, GV.out]; unfold eqB; rw [hq, hr]; rfl)
                            go_wp2_with fail
                            go_roundw
                            case rel => exact ⟨j + 1, false, by go_num, rfl, by omega, BE.out, F.out⟩
                            case measure => simp [intOf]; omega
                          | true =>
                            have F := Lib.hid (show (W.take (j + 1)).all (okX x y) = true from by rw [NX.out, GV.out]; unfold eqB; rw [hq, hr]; rfl)
                            go_wp2_with fail
                            go_roundw
                            case rel => exact ⟨j + 1, true, by go_num, rfl, by omega, BE.out, F.out⟩
                            case measure => simp [intOf]; omega
                    · obtain rfl : j = m2 := by omega
                      have OKF : Hid (okW W x y = f) := Lib.hid (by
                        rw [okW_eq]
                        have h := HF.out
                        rwa [HN2.out, List.take_of_length_le (Nat.le_refl _)] at h)
                      have BE := Lib.hid (J2.out.trans (J3.out.mono J2.out.size))
                      rw [OKF.out] at CN
                      have hcb : (cn : Int) ≤ 4 := by have := CL.out; omega
                      cases f with
                      | true =>
                        have F : Hid (((l.take (i + 1)).countP (okW W x) : Int) = (cn : Int) + 1) := Lib.hid (by rw [CN.out]; simp)
                        go_wp2_with fail
                        go_roundw
                        case rel => exact ⟨i + 1, by go_num, by rw [F.out], by omega, BE.out⟩
                        case measure => simp [intOf]; omega
                      | false =>
                        have F : Hid (((l.take (i + 1)).countP (okW W x) : Int) = (cn : Int)) := Lib.hid (by rw [CN.out]; simp)
                        go_wp2_with fail
                        go_roundw
                        case rel => exact ⟨i + 1, by go_num, by rw [F.out], by omega, BE.out⟩
                        case measure => simp [intOf]; omega
                · obtain rfl : i = n' := by omega
                  have CE : Hid ((l.take i).countP (okW W x) = l.countP (okW W x)) := Lib.hid (by rw [NL.out, List.take_of_length_le (Nat.le_refl _)])
                  rw [CE.out]
                  have CC : Hid (l.countP (okW W x) ≤ i) := Lib.hid (by have := List.countP_le_length (p := okW W x) (l := l); have := NL.out; omega)
                  obtain ⟨q, hq⟩ : ∃ a, a = l.countP (okW W x) := ⟨_, rfl⟩
                  rw [← hq] at WN CC ⊢
                  have NEXT : Hid (∀ v : Int, v = (a : Int) * (q : Int) → Value.int .i64 (wrap64 v) = .int .i64 (wantTo W L (k + 1))) := Lib.hid (fun v hv => by
                    have hp := WB.out
                    rw [hv, WN.out, ← Int.natCast_mul]
                    rw [WN.out] at hp
                    generalize a * q = z at hp ⊢
                    congr 1
                    unfold wrap64
                    omega)
                  clear hq CE
                  go_wp2_with fail
                  go_loopw [6, 16, 80] (fun nm _ v wq => ∃ j e : Nat, v = .int .i64 j ∧ nm = .int .i64 (d + e : Nat) ∧ j ≤ m2 ∧ Below wp.heap.size wp wq ∧ (W.take j).countP (fun t => eqB t.1 x) = e) (fun _ _ v _ => m2 - (intOf v).toNat)
                  case atStart => exact ⟨0, 0, rfl, rfl, Nat.zero_le _, Below.refl _ _, rfl⟩
                  case round =>
                    obtain ⟨j, e, rfl, rfl, hj, hbel3, he⟩ := hrel
                    have J3 := Lib.hid hbel3
                    have HE := Lib.hid he
                    clear hbel3 he
                    by_cases hjm : j < m2
                    · have hjm' : (j : Int) < (m2 : Int) := by omega
                      have JW : Hid (j < W.length) := Lib.hid (by have := HN2.out; omega)
                      rcases H2.out with h' | ⟨g, o, rfl, hg, hcellg⟩
                      · exfalso; have := JW.out; rw [h'] at this; simp at this
                      obtain ⟨t5, t6⟩ := hcellg j JW.out
                      have BP := Lib.hid (BWV.out.trans (J2.out.mono BWV.out.size))
                      have BQ := Lib.hid (BP.out.trans (J3.out.mono BP.out.size))
                      have NX := Lib.hid (countT_next (fun t => eqB t.1 x) W j JW.out)
                      have TK := Lib.hid (countT_take (fun t => eqB t.1 x) W (j + 1))
                      rw [HE.out] at NX
                      obtain ⟨s, hs⟩ : ∃ x, x = (W.getD j tr0).1 := ⟨_, rfl⟩
                      obtain ⟨t, ht⟩ : ∃ x, x = (W.getD j tr0).2 := ⟨_, rfl⟩
                      replace t5 := (BQ.out.cell (p := ⟨g, o + j * 2, none⟩) hg).trans t5
                      replace t6 := (BQ.out.cell (p := ⟨g, o + j * 2 + 1, none⟩) hg).trans t6
                      rw [← hs] at t5 NX
                      rw [← ht] at t6
                      obtain ⟨c0, c1⟩ := boxT_cells wr s t
                      have BX := Lib.hid ((Below.refl wr.heap.size wr).alloc (Nat.le_refl _) (.cells #[.string s, .string t] 33))
                      have BE := Lib.hid (J3.out.trans (BX.out.mono J3.out.size))
                      have cx := (((J2.out.trans (BE.out.mono J2.out.size)).cell (p := ⟨wo.heap.size, 0, none⟩) SZ.out)).trans X0.out
                      have hde : ((d + e : Nat) : Int) ≤ 50 := by
                        have h1 := DB.out; have h2 := DN.out; have h3 := TK.out; have h4 := NX.out; omega
                      obtain ⟨z, hz⟩ : ∃ z : Nat, z = d + e := ⟨_, rfl⟩
                      rw [← hz] at hde ⊢
                      have ZZ := Lib.hid hz
                      clear hcellg hs ht hz
                      cases hq : (s.toList == x.toList) with
                      | true =>
                        have F : Hid ((W.take (j + 1)).countP (fun t => eqB t.1 x) = e + 1) := Lib.hid (by rw [NX.out]; unfold eqB; rw [hq]; rfl)
                        go_wp2_with fail
                        go_roundw
                        case rel => exact ⟨j + 1, e + 1, by go_num, by have := ZZ.out; rw [show d + (e + 1) = z + 1 by omega]; go_num, by omega, BE.out, F.out⟩
                        case measure => simp [intOf]; omega
                      | false =>
                        have F : Hid ((W.take (j + 1)).countP (fun t => eqB t.1 x) = e) := Lib.hid (by rw [NX.out]; unfold eqB; rw [hq]; rfl)
                        go_wp2_with fail
                        go_roundw
                        case rel => exact ⟨j + 1, e, by go_num, by rw [← ZZ.out], by omega, BE.out, F.out⟩
                        case measure => simp [intOf]; omega
                    · obtain rfl : j = m2 := by omega
                      have F : Hid (d + e = namedTo W L (k + 1)) := Lib.hid (by
                        have h := HE.out
                        rw [HN2.out, List.take_of_length_le (Nat.le_refl _)] at h
                        rw [DN.out, h])
                      rw [F.out]
                      have BE := Lib.hid ((BWV.out.trans (J2.out.mono BWV.out.size)).trans (J3.out.mono (by have := (BWV.out.trans (J2.out.mono BWV.out.size)).size; omega)))
                      go_wp2_with fail
                      go_roundw
                      case rel => exact ⟨k + 1, by go_num, by omega, NEXT.out _ rfl, rfl, BE.out⟩
                      case measure => simp [intOf]; omega
            · obtain rfl : k = m := by omega
              have hN := PL.out k (Nat.le_refl _)
              have hnm := NLE.out k (Nat.le_refl _)
              obtain ⟨N, hNN⟩ : ∃ N, N = prodTo L k := ⟨_, rfl⟩
              obtain ⟨nm, hnn⟩ : ∃ N, N = namedTo W L k := ⟨_, rfl⟩
              obtain ⟨wt, hwt⟩ : ∃ N, N = wantTo W L k := ⟨_, rfl⟩
              rw [← hNN, ← hnn, ← hwt] at MANY
              rw [← hNN] at hN
              rw [← hnn] at hnm
              rw [← hnn, ← hwt]
              have NN := Lib.hid hNN
              clear hNN hnn hwt
              by_cases hless : nm < m2
              · have hl1 : (nm : Int) < (m2 : Int) := by omega
                rw [if_pos hless] at MANY
                clear hless
                go_wp2_with fail
                go_at_call 17; refine (AL.out _ J.out).mono ?_; rintro e w5 ⟨o, rfl, ho, har, hb⟩
                have B5 := Lib.hid (bstep J.out hb)
                have AR := Lib.hid har
                rw [← NN.out] at AR
                clear hb ho har
                have NN2 := NN.out
                rw [← NN2]
                clear NN2
                go_wp2_with fail
                go_loopw [17, 19, 100] (fun g _ v wq => ∃ i : Nat, v = .int .i64 i ∧ g = .int .i64 (gotTo W L i) ∧ i ≤ N ∧ Below w5.heap.size w5 wq) (fun _ _ v _ => N - (intOf v).toNat)
                case atStart => exact ⟨0, rfl, rfl, Nat.zero_le _, Below.refl _ _⟩
                case round =>
                  obtain ⟨i, rfl, rfl, hi, hbel⟩ := hrel
                  have J2 := Lib.hid hbel
                  clear hbel
                  have GL := got_le W L i
                  by_cases hin : i < N
                  · have hin' : (i : Int) < (N : Int) := by omega
                    have AI := Lib.hid (AR.out.below J2.out)
                    obtain ⟨cs, a1, a2, a3⟩ := AI.out
                    obtain ⟨g, g1, g2, g3⟩ := a3 i hin
                    have hg1 := blk_cell a1 g1
                    have B6 := Lib.hid (bstep B5.out J2.out)
                    have MC := Lib.hid (ME.out _ g i B6.out (by obtain ⟨ds, d1, _⟩ := g3; exact lt_of_block d1) g3)
                    have GN := Lib.hid (got_next W L i)
                    obtain ⟨gt, hgt⟩ : ∃ a, a = gotTo W L i := ⟨_, rfl⟩
                    rw [← hgt] at GL GN ⊢
                    have hgb : (gt : Int) ≤ 256 := by omega
                    clear a1 a2 a3 g1 g2 g3 hgt GL
                    cases hq : meetsB (chosenT L i) W with
                    | true =>
                      rw [hq] at MC GN
                      have F : Hid ((gotTo W L (i + 1) : Int) = (gt : Int) + 1) := Lib.hid (by rw [GN.out]; simp)
                      clear hq
                      go_wp2_with fail
                      go_at_call 23; refine MC.out.mono ?_; rintro e w6 ⟨rfl, hb⟩
                      have BE := Lib.hid (bstep J2.out hb)
                      clear hb
                      go_wp2_with fail
                      go_roundw
                      case rel => exact ⟨i + 1, by go_num, by rw [F.out], by omega, BE.out⟩
                      case measure => simp [intOf]; omega
                    | false =>
                      rw [hq] at MC GN
                      have F : Hid ((gotTo W L (i + 1) : Int) = (gt : Int)) := Lib.hid (by rw [GN.out]; simp)
                      clear hq
                      go_wp2_with fail
                      go_at_call 23; refine MC.out.mono ?_; rintro e w6 ⟨rfl, hb⟩
                      have BE := Lib.hid (bstep J2.out hb)
                      clear hb
                      go_wp2_with fail
                      go_roundw
                      case rel => exact ⟨i + 1, by go_num, by rw [F.out], by omega, BE.out⟩
                      case measure => simp [intOf]; omega
                  · obtain rfl : i = N := by omega
                    rw [MANY.out]
                    have B6 := Lib.hid (bstep B5.out J2.out)
                    clear GL
                    go_wp2_with fail
                    go_at_call 11; refine (FX.out _).mono ?_; rintro e w9 ⟨rfl, hb⟩
                    have B9 := Lib.hid (bstep B6.out hb)
                    clear hb
                    go_wp2_with fail
                    go_ret
                    first | exact ⟨rfl, B9.out⟩ | exact ⟨ret_bool (by simp), B9.out⟩
              · have hl1 : (m2 : Int) ≤ (nm : Int) := by omega
                rw [if_neg hless] at MANY
                clear hless
                go_wp2_with fail
                go_at_call 17; refine (AL.out _ J.out).mono ?_; rintro e w5 ⟨o, rfl, ho, har, hb⟩
                have B5 := Lib.hid (bstep J.out hb)
                have AR := Lib.hid har
                rw [← NN.out] at AR
                clear hb ho har
                have NN2 := NN.out
                rw [← NN2]
                clear NN2
                go_wp2_with fail
                go_loopw [17, 19, 100] (fun g _ v wq => ∃ i : Nat, v = .int .i64 i ∧ g = .int .i64 (gotTo W L i) ∧ i ≤ N ∧ Below w5.heap.size w5 wq) (fun _ _ v _ => N - (intOf v).toNat)
                case atStart => exact ⟨0, rfl, rfl, Nat.zero_le _, Below.refl _ _⟩
                case round =>
                  obtain ⟨i, rfl, rfl, hi, hbel⟩ := hrel
                  have J2 := Lib.hid hbel
                  clear hbel
                  have GL := got_le W L i
                  by_cases hin : i < N
                  · have hin' : (i : Int) < (N : Int) := by omega
                    have AI := Lib.hid (AR.out.below J2.out)
                    obtain ⟨cs, a1, a2, a3⟩ := AI.out
                    obtain ⟨g, g1, g2, g3⟩ := a3 i hin
                    have hg1 := blk_cell a1 g1
                    have B6 := Lib.hid (bstep B5.out J2.out)
                    have MC := Lib.hid (ME.out _ g i B6.out (by obtain ⟨ds, d1, _⟩ := g3; exact lt_of_block d1) g3)
                    have GN := Lib.hid (got_next W L i)
                    obtain ⟨gt, hgt⟩ : ∃ a, a = gotTo W L i := ⟨_, rfl⟩
                    rw [← hgt] at GL GN ⊢
                    have hgb : (gt : Int) ≤ 256 := by omega
                    clear a1 a2 a3 g1 g2 g3 hgt GL
                    cases hq : meetsB (chosenT L i) W with
                    | true =>
                      rw [hq] at MC GN
                      have F : Hid ((gotTo W L (i + 1) : Int) = (gt : Int) + 1) := Lib.hid (by rw [GN.out]; simp)
                      clear hq
                      go_wp2_with fail
                      go_at_call 23; refine MC.out.mono ?_; rintro e w6 ⟨rfl, hb⟩
                      have BE := Lib.hid (bstep J2.out hb)
                      clear hb
                      go_wp2_with fail
                      go_roundw
                      case rel => exact ⟨i + 1, by go_num, by rw [F.out], by omega, BE.out⟩
                      case measure => simp [intOf]; omega
                    | false =>
                      rw [hq] at MC GN
                      have F : Hid ((gotTo W L (i + 1) : Int) = (gt : Int)) := Lib.hid (by rw [GN.out]; simp)
                      clear hq
                      go_wp2_with fail
                      go_at_call 23; refine MC.out.mono ?_; rintro e w6 ⟨rfl, hb⟩
                      have BE := Lib.hid (bstep J2.out hb)
                      clear hb
                      go_wp2_with fail
                      go_roundw
                      case rel => exact ⟨i + 1, by go_num, by rw [F.out], by omega, BE.out⟩
                      case measure => simp [intOf]; omega
                  · obtain rfl : i = N := by omega
                    rw [MANY.out]
                    have B6 := Lib.hid (bstep B5.out J2.out)
                    clear GL
                    go_wp2_with fail
                    go_at_call 11; refine (FX.out _).mono ?_; rintro e w9 ⟨rfl, hb⟩
                    have B9 := Lib.hid (bstep B6.out hb)
                    clear hb
                    go_wp2_with fail
                    go_ret
                    first | exact ⟨rfl, B9.out⟩ | exact ⟨ret_bool (by simp), B9.out⟩

end Go.Proofs.Ytbffcehaednefaa.Variant
