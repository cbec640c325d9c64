/- Recipes: the document's own first problem. -/
import Derived.Test.YtccmgaibikiedaaDeG
namespace Go.Proofs.Ytccmgaibikiedaa.Dc
open Go.RowKit
set_option linter.unusedVariables false
set_option linter.unusedSimpArgs false
set_option maxHeartbeats 8000000 in
set_option maxRecDepth 100000 in
theorem rrecipe_any {w : World} {B : Nat} {x : Rc} {cs : List Value} (h : rcD w B cs x) (hB : B ≤ w.heap.size) (hl : x.packs.length ≤ 1000) :
    Calls Try.prog 11 #[.agg cs.toArray] w fun e w' => e = .returned (probV (recF x).1 (recF x).2) ∧ Below w.heap.size w w' := by
  obtain ⟨A1, n1, c1, A2, n2, c2, hcs, s1, s2⟩ := rc_cells h
  have n5 := s1.le
  have n6 := s2.le
  have R := Lib.hid (Two.start w #[.slice A1 n1 c1, .slice A2 n2 c2] #[.int .u8 0, .int .i64 0] 25 29)
  have KC : Hid (∀ W, Two w #[.slice A1 n1 c1, .slice A2 n2 c2] #[.int .u8 0, .int .i64 0] 25 29 W → W.cell? ⟨w.heap.size, 0, none⟩ = some (.slice A1 n1 c1) ∧ W.cell? ⟨w.heap.size, 1, none⟩ = some (.slice A2 n2 c2) ∧ W.cell? ⟨w.heap.size + 1, 0, none⟩ = some (.int .u8 0) ∧ W.cell? ⟨w.heap.size + 1, 1, none⟩ = some (.int .i64 0) ∧ W.frozen? ⟨w.heap.size + 1, 0, none⟩ = false ∧ W.frozen? ⟨w.heap.size + 1, 1, none⟩ = false) := Lib.hid (fun W hR => ⟨blk_cell (j := 0) hR.b0 rfl, blk_cell (j := 1) hR.b0 rfl, blk_cell (j := 0) hR.b1 rfl, blk_cell (j := 1) hR.b1 rfl, blk_free 0 hR.b1, blk_free 1 hR.b1⟩)
  have DR : Hid (∀ W, Two w #[.slice A1 n1 c1, .slice A2 n2 c2] #[.int .u8 0, .int .i64 0] 25 29 W → rcD W B [.slice A1 n1 c1, .slice A2 n2 c2] x ∧ B ≤ W.heap.size) := Lib.hid (fun W hR => by
    have h3 := rc_stays _ _ _ _ _ _ h (Nat.le_refl B) (hR.below.mono hB)
    rw [hcs] at h3
    exact ⟨h3, Nat.le_trans hB hR.below.size⟩)
  have SP : Hid (∀ W, Two w #[.slice A1 n1 c1, .slice A2 n2 c2] #[.int .u8 0, .int .i64 0] 25 29 W → Sl Pk 8 pkD W B A1 n1 c1 x.packs ∧ Sl Pf 3 pfD W B A2 n2 c2 x.prefs) := Lib.hid (fun W hR => ⟨s1.below pk_stays (Nat.le_refl B) (hR.below.mono hB), s2.below pf_stays (Nat.le_refl B) (hR.below.mono hB)⟩)
  have HN := Lib.hid (And.intro s1.len s2.len)
  have W0 : Hid (recF x = if (countsF x).1 ≠ 0 then countsF x else if (firstN (packF x) n1).1 ≠ 0 then firstN (packF x) n1
    else if (firstN (relsF x) n1).1 ≠ 0 then firstN (relsF x) n1 else firstN (prefF x) n2) := Lib.hid (by rw [HN.out.1, HN.out.2]; rfl)
  have CP : Hid (∀ (i : Nat) (p : Pk), x.packs[i]? = some p → ∀ W, Two w #[.slice A1 n1 c1, .slice A2 n2 c2] #[.int .u8 0, .int .i64 0] 25 29 W → Calls Try.prog 37 #[.agg #[.slice A1 n1 c1, .slice A2 n2 c2], .int .i64 i] W fun e w' => e = .returned (.int .u8 (aloneF x i p)) ∧ Below W.heap.size W w') := Lib.hid (fun i p hp W hR => alone_any (DR.out W hR).1 (DR.out W hR).2 hl hp)
  have CR : Hid (∀ (p : Pk) (ps : List Value) (W : World), Two w #[.slice A1 n1 c1, .slice A2 n2 c2] #[.int .u8 0, .int .i64 0] 25 29 W → pkD W B ps p → Calls Try.prog 38 #[.agg #[.slice A1 n1 c1, .slice A2 n2 c2], .agg ps.toArray] W fun e w' => e = .returned (probV (relF x p).1 (relF x p).2) ∧ Below W.heap.size W w') := Lib.hid (fun p ps W hR hp => rules_any (DR.out W hR).1 hp (DR.out W hR).2 hl)
  have CQ : Hid (∀ (i : Nat) (f : Pf), x.prefs[i]? = some f → ∀ W, Two w #[.slice A1 n1 c1, .slice A2 n2 c2] #[.int .u8 0, .int .i64 0] 25 29 W → Calls Try.prog 39 #[.agg #[.slice A1 n1 c1, .slice A2 n2 c2], .int .i64 i] W fun e w' => e = .returned (.bool (preferB x i f)) ∧ Below W.heap.size W w') := Lib.hid (fun i f hp W hR => prefer_any (DR.out W hR).1 (DR.out W hR).2 hl hp)
  rw [hcs]
  clear h s1 s2 hcs hB hl
  obtain ⟨k0, k1, g0, g1, g2, g3⟩ := KC.out _ R.out
  by_cases h24 : 24 < n1
  · have hz : (24 : Int) < (n1 : Int) := by omega
    obtain ⟨p, b, o, Ar, nr, cr, Av, nv, cv, Ap, np, cp, Ad, nd, cd, Ac, nc, cc, Af, nf, cf, t1, hA, t3, x0, x1, x2, x3, x4, x5, x6, x7, pc, d1⟩ := pk_at (SP.out _ R.out).1 h24
    obtain ⟨ln, hln⟩ : ∃ y, y = p.line := ⟨_, rfl⟩
    rw [← hln] at x1
    simp only [Nat.reduceMul, Nat.add_assoc, Nat.reduceAdd] at x1
    have Z0 : Hid (recF x = (1, ln)) := Lib.hid (by
      have e : countsF x = (1, ln) := by unfold countsF; rw [← HN.out.1, if_pos h24, hln]; unfold lineP; rw [t1]; rfl
      rw [W0.out, e, if_pos (by simp)])
    subst hA
    clear t1 t3 pc d1 hln x0 x2 x3 x4 x5 x6 x7 h24
    show Calls Try.prog _ #[.agg #[.slice _ n1 c1, .slice _ n2 c2]] w _
    go_enter Try.func11, Try.ntmps11
    go_wp2_with fail
    rw [Z0.out]
    exact bodyPost_ret (results_cell_row rfl _ _ (w.heap.size + 1) 29 _ (0, 0) _ rfl (two_new w _ _) Try.underlying29 rfl (by kernel_rfl)) rfl ⟨rfl, two_below w _ _⟩
  have hz24 : (n1 : Int) ≤ 24 := by omega
  by_cases h8 : 8 < n2
  · have hz : (8 : Int) < (n2 : Int) := by omega
    obtain ⟨f, b, o, An, nn, cn, t1, hA, t3, x0, x1, x2, -, -⟩ := pf_at (SP.out _ R.out).2 h8
    obtain ⟨ln, hln⟩ : ∃ y, y = f.line := ⟨_, rfl⟩
    rw [← hln] at x2
    simp only [Nat.reduceMul, Nat.add_assoc, Nat.reduceAdd] at x2
    have Z0 : Hid (recF x = (1, ln)) := Lib.hid (by
      have e : countsF x = (1, ln) := by unfold countsF; rw [← HN.out.1, ← HN.out.2, if_neg h24, if_pos h8, hln]; unfold lineF; rw [t1]; rfl
      rw [W0.out, e, if_pos (by simp)])
    subst hA
    clear t1 t3 hln x0 x1 h8 h24
    show Calls Try.prog _ #[.agg #[.slice _ n1 c1, .slice _ n2 c2]] w _
    go_enter Try.func11, Try.ntmps11
    go_wp2_with fail
    rw [Z0.out]
    exact bodyPost_ret (results_cell_row rfl _ _ (w.heap.size + 1) 29 _ (0, 0) _ rfl (two_new w _ _) Try.underlying29 rfl (by kernel_rfl)) rfl ⟨rfl, two_below w _ _⟩
  have hz8 : (n2 : Int) ≤ 8 := by omega
  have FC : Hid ((countsF x).1 = 0) := Lib.hid (by unfold countsF; rw [← HN.out.1, ← HN.out.2, if_neg h24, if_neg h8])
  clear h24 h8
  show Calls Try.prog _ #[.agg #[.slice _ n1 c1, .slice _ n2 c2]] w _
  go_enter Try.func11, Try.ntmps11
  go_wp2_with fail
  clear k0 k1 g0 g1 g2 g3
  go_loopw [3, 4, 31] (fun _ _ v wq => ∃ i : Nat, v = .int .i64 i ∧ i ≤ n1 ∧ Two w #[.slice A1 n1 c1, .slice A2 n2 c2] #[.int .u8 0, .int .i64 0] 25 29 wq ∧ ∀ j, j < i → (packF x j).1 = 0) (fun _ _ v _ => n1 - (intOf v).toNat)
  case atStart => exact ⟨0, rfl, Nat.zero_le _, R.out, fun j hj => absurd hj (Nat.not_lt_zero _)⟩
  case round =>
    obtain ⟨i, rfl, hi, hr, hall⟩ := hrel
    have R := Lib.hid hr
    have HALL := Lib.hid hall
    clear hr hall
    by_cases hlt : i < n1
    · have hlt' : (i : Int) < (n1 : Int) := by omega
      obtain ⟨p, b, o, Ar, nr, cr, Av, nv, cv, Ap, np, cp, Ad, nd, cd, Ac, nc, cc, Af, nf, cf, t1, hA, t3, x0, x1, x2, x3, x4, x5, x6, x7, pc, d1⟩ := pk_at (SP.out _ R.out).1 hlt
      obtain ⟨nm, hnm⟩ : ∃ y, y = p.name := ⟨_, rfl⟩
      obtain ⟨ln, hln⟩ : ∃ y, y = p.line := ⟨_, rfl⟩
      rw [← hnm] at x0
      rw [← hln] at x1
      obtain ⟨z, hz⟩ : ∃ z : Nat, z = aloneF x i p := ⟨_, rfl⟩
      have FV : Hid (packF x i = (z, ln)) := Lib.hid (by unfold packF; rw [t1, hz, hln]; rfl)
      have CP1 := Lib.hid (CP.out i p t1)
      rw [← hz] at CP1
      have T3 := Lib.hid t3
      subst hA
      clear t1 t3 pc d1 hnm hln hz
      obtain ⟨k0, k1, g0, g1, g2, g3⟩ := KC.out _ R.out
      have XX : Hid (∀ W, Below wr.heap.size wr W → W.cell? ⟨b, o + i * 8 + 1, none⟩ = some (.int .i64 ln)) := Lib.hid (fun W hb => (hb.cell (p := ⟨b, o + i * 8 + 1, none⟩) (Nat.lt_of_lt_of_le T3.out (DR.out _ R.out).2)).trans x1)
      clear x0 x1 x2 x3 x4 x5 x6 x7
      by_cases hz : z = 0
      · subst hz
        have NX : Hid (∀ j, j < i + 1 → (packF x j).1 = 0) := Lib.hid (step_all HALL.out (by rw [FV.out]))
        go_wp2_with (go_at_call 37; (with_reducible refine (CP1.out _ R.out).mono ?_); rintro e v1 ⟨rfl, hb⟩; have R := Lib.hid (R.out.step hb); have HX := Lib.hid hb; clear hb; obtain ⟨k0, k1, g0, g1, g2, g3⟩ := KC.out _ R.out; have xl := XX.out _ HX.out)
        go_roundw
        case rel => exact ⟨i + 1, by go_num, by omega, R.out, NX.out⟩
        case measure => simp [intOf]; omega
      · have q1 := nz_eq hz
        have q2 := nz_ne hz
        have Z0 : Hid (recF x = (z, ln)) := Lib.hid (by
          have e := firstN_hit hlt HALL.out (by rw [FV.out]; exact hz)
          rw [FV.out] at e
          rw [W0.out, if_neg (by rw [FC.out]; decide), e, if_pos hz])
        have HH := Lib.hid hz
        clear hz
        go_wp2_with (go_at_call 37; (with_reducible refine (CP1.out _ R.out).mono ?_); rintro e v1 ⟨rfl, hb⟩; have R := Lib.hid (R.out.step hb); have HX := Lib.hid hb; clear hb; obtain ⟨k0, k1, g0, g1, g2, g3⟩ := KC.out _ R.out; have xl := XX.out _ HX.out)
        rw [Z0.out]
        exact bodyPost_ret (results_cell_row rfl _ _ (w.heap.size + 1) 29 _ (0, 0) _ rfl R.out.ends.1 Try.underlying29 rfl (by kernel_rfl)) rfl ⟨rfl, R.out.ends.2⟩
    · have FP : Hid ((firstN (packF x) n1).1 = 0) := Lib.hid (by
        obtain rfl : i = n1 := by omega
        rw [firstN_none HALL.out])
      obtain ⟨k0, k1, g0, g1, g2, g3⟩ := KC.out _ R.out
      clear HALL
      go_wp2_with fail
      clear k0 k1 g0 g1 g2 g3
      obtain ⟨wo, hwo⟩ : ∃ wo, wo = wr := ⟨_, rfl⟩
      go_loopw [5, 6, 51] (fun _ _ v wq => ∃ i : Nat, v = .int .i64 i ∧ i ≤ n1 ∧ Two w #[.slice A1 n1 c1, .slice A2 n2 c2] #[.int .u8 0, .int .i64 0] 25 29 wq ∧ ∀ j, j < i → (relsF x j).1 = 0) (fun _ _ v _ => n1 - (intOf v).toNat)
      case atStart => exact ⟨0, rfl, Nat.zero_le _, R.out, fun j hj => absurd hj (Nat.not_lt_zero _)⟩
      case round =>
        obtain ⟨i, rfl, hi, hr, hall⟩ := hrel
        have R := Lib.hid hr
        have HALL := Lib.hid hall
        clear hr hall
        by_cases hlt : i < n1
        · have hlt' : (i : Int) < (n1 : Int) := by omega
          obtain ⟨p, b, o, Ar, nr, cr, Av, nv, cv, Ap, np, cp, Ad, nd, cd, Ac, nc, cc, Af, nf, cf, t1, hA, t3, x0, x1, x2, x3, x4, x5, x6, x7, pc, d1⟩ := pk_at (SP.out _ R.out).1 hlt
          obtain ⟨nm, hnm⟩ : ∃ y, y = p.name := ⟨_, rfl⟩
          obtain ⟨ln, hln⟩ : ∃ y, y = p.line := ⟨_, rfl⟩
          rw [← hnm] at x0 d1
          rw [← hln] at x1 d1
          obtain ⟨z, hz⟩ : ∃ z : Nat, z = (relF x p).1 := ⟨_, rfl⟩
          obtain ⟨zl, hzl⟩ : ∃ z : Int, z = (relF x p).2 := ⟨_, rfl⟩
          have FV : Hid (relsF x i = (z, zl)) := Lib.hid (by unfold relsF; rw [t1, hz, hzl]; rfl)
          have CR1 : Hid (∀ W, Two w #[.slice A1 n1 c1, .slice A2 n2 c2] #[.int .u8 0, .int .i64 0] 25 29 W → Below wr.heap.size wr W → Calls Try.prog 38 #[.agg #[.slice A1 n1 c1, .slice A2 n2 c2], .agg #[.string nm, .int .i64 ln, .slice Ar nr cr, .slice Av nv cv, .slice Ap np cp, .slice Ad nd cd, .slice Ac nc cc, .slice Af nf cf]] W fun e w' => e = .returned (probV z zl) ∧ Below W.heap.size W w') := Lib.hid (fun W hR hb => by
            rw [hz, hzl]; exact CR.out p _ W hR (pk_stays _ _ _ _ _ _ d1 (Nat.le_refl B) (hb.mono (DR.out _ R.out).2)))
          have T3 := Lib.hid t3
          have X8 : Hid (∀ W, Below wr.heap.size wr W → W.cell? ⟨b, o + i * 8, none⟩ = some (.string nm) ∧ W.cell? ⟨b, o + i * 8 + 1, none⟩ = some (.int .i64 ln) ∧ W.cell? ⟨b, o + i * 8 + 2, none⟩ = some (.slice Ar nr cr) ∧ W.cell? ⟨b, o + i * 8 + 3, none⟩ = some (.slice Av nv cv) ∧ W.cell? ⟨b, o + i * 8 + 4, none⟩ = some (.slice Ap np cp) ∧ W.cell? ⟨b, o + i * 8 + 5, none⟩ = some (.slice Ad nd cd) ∧ W.cell? ⟨b, o + i * 8 + 6, none⟩ = some (.slice Ac nc cc) ∧ W.cell? ⟨b, o + i * 8 + 7, none⟩ = some (.slice Af nf cf)) := Lib.hid (fun W hb => by
            have hlt8 : b < wr.heap.size := Nat.lt_of_lt_of_le t3 (DR.out _ R.out).2
            exact ⟨(hb.cell (p := ⟨b, o + i * 8, none⟩) hlt8).trans x0, (hb.cell (p := ⟨b, o + i * 8 + 1, none⟩) hlt8).trans x1, (hb.cell (p := ⟨b, o + i * 8 + 2, none⟩) hlt8).trans x2, (hb.cell (p := ⟨b, o + i * 8 + 3, none⟩) hlt8).trans x3, (hb.cell (p := ⟨b, o + i * 8 + 4, none⟩) hlt8).trans x4, (hb.cell (p := ⟨b, o + i * 8 + 5, none⟩) hlt8).trans x5, (hb.cell (p := ⟨b, o + i * 8 + 6, none⟩) hlt8).trans x6, (hb.cell (p := ⟨b, o + i * 8 + 7, none⟩) hlt8).trans x7⟩)
          subst hA
          clear t1 t3 pc d1 hnm hln hz hzl
          obtain ⟨k0, k1, g0, g1, g2, g3⟩ := KC.out _ R.out
          have XC : Hid (∀ W, Two w #[.slice (some ⟨b, o, none⟩) n1 c1, .slice A2 n2 c2] #[.int .u8 0, .int .i64 0] 25 29 W → Below wr.heap.size wr W → W.cell? ⟨w.heap.size, 0, none⟩ = some (.slice (some ⟨b, o, none⟩) n1 c1) ∧ W.cell? ⟨w.heap.size, 1, none⟩ = some (.slice A2 n2 c2) ∧ W.cell? ⟨b, o + i * 8, none⟩ = some (.string nm) ∧ W.cell? ⟨b, o + i * 8 + 1, none⟩ = some (.int .i64 ln) ∧ W.cell? ⟨b, o + i * 8 + 2, none⟩ = some (.slice Ar nr cr) ∧ W.cell? ⟨b, o + i * 8 + 3, none⟩ = some (.slice Av nv cv) ∧ W.cell? ⟨b, o + i * 8 + 4, none⟩ = some (.slice Ap np cp) ∧ W.cell? ⟨b, o + i * 8 + 5, none⟩ = some (.slice Ad nd cd) ∧ W.cell? ⟨b, o + i * 8 + 6, none⟩ = some (.slice Ac nc cc) ∧ W.cell? ⟨b, o + i * 8 + 7, none⟩ = some (.slice Af nf cf)) := Lib.hid (fun W hR hb => ⟨(KC.out W hR).1, (KC.out W hR).2.1, X8.out W hb⟩)
          have RW := R
          clear x0 x1 x2 x3 x4 x5 x6 x7
          by_cases hz : z = 0
          · subst hz
            have NX : Hid (∀ j, j < i + 1 → (relsF x j).1 = 0) := Lib.hid (step_all HALL.out (by rw [FV.out]))
            go_wp2_with fail
            have R := Lib.hid R.out.drew
            go_region_held3 (fun W => W.cell? ⟨w.heap.size, 0, none⟩ = some (.slice (some ⟨b, o, none⟩) n1 c1) ∧ W.cell? ⟨w.heap.size, 1, none⟩ = some (.slice A2 n2 c2) ∧ W.cell? ⟨b, o + i * 8, none⟩ = some (.string nm) ∧ W.cell? ⟨b, o + i * 8 + 1, none⟩ = some (.int .i64 ln) ∧ W.cell? ⟨b, o + i * 8 + 2, none⟩ = some (.slice Ar nr cr) ∧ W.cell? ⟨b, o + i * 8 + 3, none⟩ = some (.slice Av nv cv) ∧ W.cell? ⟨b, o + i * 8 + 4, none⟩ = some (.slice Ap np cp) ∧ W.cell? ⟨b, o + i * 8 + 5, none⟩ = some (.slice Ad nd cd) ∧ W.cell? ⟨b, o + i * 8 + 6, none⟩ = some (.slice Ac nc cc) ∧ W.cell? ⟨b, o + i * 8 + 7, none⟩ = some (.slice Af nf cf)) (first | exact XC.out _ R.out (Below.refl _ _).drew | exact XC.out _ RV.out HB1.out | exact XC.out _ R.out HB2.out | exact XC.out _ (RW.out.step ((Below.refl wr.heap.size wr).alloc (Nat.le_refl _) (.cells #[.int .u8 0, .int .i64 0] 29)).drew) ((Below.refl wr.heap.size wr).alloc (Nat.le_refl _) (.cells #[.int .u8 0, .int .i64 0] 29)).drew | go_keep) (first | (go_at_call 38; (with_reducible refine (CR1.out _ R.out (Below.refl _ _).drew).mono ?_); rintro e v1 ⟨rfl, hb⟩; have RV := Lib.hid (R.out.step hb); have HB1 := Lib.hid ((Below.refl wr.heap.size wr).drew.trans hb); have e1 := heap_alloc_new v1 (.cells #[.int .u8 0, .int .i64 zl] 29); have i0 := blk_cell (j := 0) e1 rfl; have i1 := blk_cell (j := 1) e1 rfl; have HB2 := Lib.hid (HB1.out.alloc HB1.out.size (.cells #[.int .u8 0, .int .i64 zl] 29)); have R := Lib.hid ((R.out.step hb).step ((Below.refl _ _).alloc (Nat.le_refl _) (.cells #[.int .u8 0, .int .i64 zl] 29))); clear hb e1; obtain ⟨k0, k1, g0, g1, g2, g3⟩ := KC.out _ R.out) | (go_at_call 38; (with_reducible refine (CR1.out _ (RW.out.step ((Below.refl wr.heap.size wr).alloc (Nat.le_refl _) (.cells #[.int .u8 0, .int .i64 0] 29)).drew) ((Below.refl wr.heap.size wr).alloc (Nat.le_refl _) (.cells #[.int .u8 0, .int .i64 0] 29)).drew).mono ?_); rintro e v1 ⟨rfl, hb⟩; have RV := Lib.hid ((RW.out.step ((Below.refl wr.heap.size wr).alloc (Nat.le_refl _) (.cells #[.int .u8 0, .int .i64 0] 29)).drew).step hb); have HB1 := Lib.hid (((Below.refl wr.heap.size wr).alloc (Nat.le_refl _) (.cells #[.int .u8 0, .int .i64 0] 29)).drew.trans (hb.mono ((Below.refl wr.heap.size wr).alloc (Nat.le_refl _) (.cells #[.int .u8 0, .int .i64 0] 29)).drew.size)); have e0 := (hb.block _ (by simp)).trans (heap_alloc_new wr (.cells #[.int .u8 0, .int .i64 0] 29)); have u0 := blk_cell (j := 0) e0 rfl; have u1 := blk_cell (j := 1) e0 rfl; have f0 := blk_free 0 e0; have f1 := blk_free 1 e0; have e1 := blk_set 1 (.int .i64 zl) (blk_set 0 (.int .u8 0) e0); have i0 := blk_cell (j := 0) e1 rfl; have i1 := blk_cell (j := 1) e1 rfl; have HB2 := Lib.hid (((((Below.refl wr.heap.size wr).alloc (Nat.le_refl _) (.cells #[.int .u8 0, .int .i64 0] 29)).drew.trans (hb.mono ((Below.refl wr.heap.size wr).alloc (Nat.le_refl _) (.cells #[.int .u8 0, .int .i64 0] 29)).drew.size)).setCell (p := ⟨wr.heap.size, 0, none⟩) (Nat.le_refl _) (.int .u8 0)).setCell (p := ⟨wr.heap.size, 1, none⟩) (Nat.le_refl _) (.int .i64 zl)); have R := Lib.hid (RW.out.step HB2.out); clear hb e0 e1; obtain ⟨k0, k1, g0, g1, g2, g3⟩ := KC.out _ R.out))
            all_goals
              go_wp2_with fail
              go_roundw
              case rel => exact ⟨i + 1, by go_num, by omega, R.out, NX.out⟩
              case measure => simp [intOf]; omega
          · have q1 := nz_eq hz
            have q2 := nz_ne hz
            have Z0 : Hid (recF x = (z, zl)) := Lib.hid (by
              have e := firstN_hit hlt HALL.out (by rw [FV.out]; exact hz)
              rw [FV.out] at e
              rw [W0.out, if_neg (by rw [FC.out]; decide), if_neg (by rw [FP.out]; decide), e, if_pos hz])
            have HH := Lib.hid hz
            clear hz
            go_wp2_with fail
            have R := Lib.hid R.out.drew
            go_region_held3 (fun W => W.cell? ⟨w.heap.size, 0, none⟩ = some (.slice (some ⟨b, o, none⟩) n1 c1) ∧ W.cell? ⟨w.heap.size, 1, none⟩ = some (.slice A2 n2 c2) ∧ W.cell? ⟨b, o + i * 8, none⟩ = some (.string nm) ∧ W.cell? ⟨b, o + i * 8 + 1, none⟩ = some (.int .i64 ln) ∧ W.cell? ⟨b, o + i * 8 + 2, none⟩ = some (.slice Ar nr cr) ∧ W.cell? ⟨b, o + i * 8 + 3, none⟩ = some (.slice Av nv cv) ∧ W.cell? ⟨b, o + i * 8 + 4, none⟩ = some (.slice Ap np cp) ∧ W.cell? ⟨b, o + i * 8 + 5, none⟩ = some (.slice Ad nd cd) ∧ W.cell? ⟨b, o + i * 8 + 6, none⟩ = some (.slice Ac nc cc) ∧ W.cell? ⟨b, o + i * 8 + 7, none⟩ = some (.slice Af nf cf)) (first | exact XC.out _ R.out (Below.refl _ _).drew | exact XC.out _ RV.out HB1.out | exact XC.out _ R.out HB2.out | exact XC.out _ (RW.out.step ((Below.refl wr.heap.size wr).alloc (Nat.le_refl _) (.cells #[.int .u8 0, .int .i64 0] 29)).drew) ((Below.refl wr.heap.size wr).alloc (Nat.le_refl _) (.cells #[.int .u8 0, .int .i64 0] 29)).drew | go_keep) (first | (go_at_call 38; (with_reducible refine (CR1.out _ R.out (Below.refl _ _).drew).mono ?_); rintro e v1 ⟨rfl, hb⟩; have RV := Lib.hid (R.out.step hb); have HB1 := Lib.hid ((Below.refl wr.heap.size wr).drew.trans hb); have e1 := heap_alloc_new v1 (.cells #[.int .u8 z, .int .i64 zl] 29); have i0 := blk_cell (j := 0) e1 rfl; have i1 := blk_cell (j := 1) e1 rfl; have HB2 := Lib.hid (HB1.out.alloc HB1.out.size (.cells #[.int .u8 z, .int .i64 zl] 29)); have R := Lib.hid ((R.out.step hb).step ((Below.refl _ _).alloc (Nat.le_refl _) (.cells #[.int .u8 z, .int .i64 zl] 29))); clear hb e1; obtain ⟨k0, k1, g0, g1, g2, g3⟩ := KC.out _ R.out) | (go_at_call 38; (with_reducible refine (CR1.out _ (RW.out.step ((Below.refl wr.heap.size wr).alloc (Nat.le_refl _) (.cells #[.int .u8 0, .int .i64 0] 29)).drew) ((Below.refl wr.heap.size wr).alloc (Nat.le_refl _) (.cells #[.int .u8 0, .int .i64 0] 29)).drew).mono ?_); rintro e v1 ⟨rfl, hb⟩; have RV := Lib.hid ((RW.out.step ((Below.refl wr.heap.size wr).alloc (Nat.le_refl _) (.cells #[.int .u8 0, .int .i64 0] 29)).drew).step hb); have HB1 := Lib.hid (((Below.refl wr.heap.size wr).alloc (Nat.le_refl _) (.cells #[.int .u8 0, .int .i64 0] 29)).drew.trans (hb.mono ((Below.refl wr.heap.size wr).alloc (Nat.le_refl _) (.cells #[.int .u8 0, .int .i64 0] 29)).drew.size)); have e0 := (hb.block _ (by simp)).trans (heap_alloc_new wr (.cells #[.int .u8 0, .int .i64 0] 29)); have u0 := blk_cell (j := 0) e0 rfl; have u1 := blk_cell (j := 1) e0 rfl; have f0 := blk_free 0 e0; have f1 := blk_free 1 e0; have e1 := blk_set 1 (.int .i64 zl) (blk_set 0 (.int .u8 z) e0); have i0 := blk_cell (j := 0) e1 rfl; have i1 := blk_cell (j := 1) e1 rfl; have HB2 := Lib.hid (((((Below.refl wr.heap.size wr).alloc (Nat.le_refl _) (.cells #[.int .u8 0, .int .i64 0] 29)).drew.trans (hb.mono ((Below.refl wr.heap.size wr).alloc (Nat.le_refl _) (.cells #[.int .u8 0, .int .i64 0] 29)).drew.size)).setCell (p := ⟨wr.heap.size, 0, none⟩) (Nat.le_refl _) (.int .u8 z)).setCell (p := ⟨wr.heap.size, 1, none⟩) (Nat.le_refl _) (.int .i64 zl)); have R := Lib.hid (RW.out.step HB2.out); clear hb e0 e1; obtain ⟨k0, k1, g0, g1, g2, g3⟩ := KC.out _ R.out))
            all_goals
              go_wp2_with fail
              rw [Z0.out]
              exact bodyPost_ret (results_cell_row rfl _ _ (w.heap.size + 1) 29 _ (0, 0) _ rfl R.out.ends.1 Try.underlying29 rfl (by kernel_rfl)) rfl ⟨rfl, R.out.ends.2⟩
        · have FR : Hid ((firstN (relsF x) n1).1 = 0) := Lib.hid (by
            obtain rfl : i = n1 := by omega
            rw [firstN_none HALL.out])
          obtain ⟨k0, k1, g0, g1, g2, g3⟩ := KC.out _ R.out
          clear HALL
          go_wp2_with fail
          clear k0 k1 g0 g1 g2 g3
          obtain ⟨wp, hwp⟩ : ∃ wp, wp = wr := ⟨_, rfl⟩
          go_loopw [7, 69] (fun _ v wq => ∃ i : Nat, v = .int .i64 i ∧ i ≤ n2 ∧ Two w #[.slice A1 n1 c1, .slice A2 n2 c2] #[.int .u8 0, .int .i64 0] 25 29 wq ∧ ∀ j, j < i → (prefF x j).1 = 0) (fun _ v _ => n2 - (intOf v).toNat)
          case atStart => exact ⟨0, rfl, Nat.zero_le _, R.out, fun j hj => absurd hj (Nat.not_lt_zero _)⟩
          case round =>
            obtain ⟨i, rfl, hi, hr, hall⟩ := hrel
            have R := Lib.hid hr
            have HALL := Lib.hid hall
            clear hr hall
            by_cases hlt : i < n2
            · have hlt' : (i : Int) < (n2 : Int) := by omega
              obtain ⟨f, b, o, An, nn, cn, t1, hA, t3, x0, x1, x2, -, -⟩ := pf_at (SP.out _ R.out).2 hlt
              obtain ⟨nm, hnm⟩ : ∃ y, y = f.virt := ⟨_, rfl⟩
              obtain ⟨ln, hln⟩ : ∃ y, y = f.line := ⟨_, rfl⟩
              rw [← hnm] at x0
              rw [← hln] at x2
              obtain ⟨z, hz⟩ : ∃ z : Bool, z = preferB x i f := ⟨_, rfl⟩
              have FV : Hid (prefF x i = (if z = true then 0 else 10, ln)) := Lib.hid (by unfold prefF; rw [t1, hz, hln]; rfl)
              have CQ1 := Lib.hid (CQ.out i f t1)
              rw [← hz] at CQ1
              have SPX := Lib.hid t3
              have XX : Hid (∀ W, Below wr.heap.size wr W → W.cell? ⟨b, o + i * 3 + 2, none⟩ = some (.int .i64 ln)) := Lib.hid (fun W hb => (hb.cell (p := ⟨b, o + i * 3 + 2, none⟩) (Nat.lt_of_lt_of_le t3 (DR.out _ R.out).2)).trans x2)
              subst hA
              clear t1 t3 hnm hln hz
              obtain ⟨k0, k1, g0, g1, g2, g3⟩ := KC.out _ R.out
              clear x0 x1 x2
              cases z
              case true =>
                have NX : Hid (∀ j, j < i + 1 → (prefF x j).1 = 0) := Lib.hid (step_all HALL.out (by rw [FV.out]; rfl))
                go_wp2_with (go_at_call 39; (with_reducible refine (CQ1.out _ R.out).mono ?_); rintro e v1 ⟨rfl, hb⟩; have R := Lib.hid (R.out.step hb); have HX := Lib.hid hb; clear hb; obtain ⟨k0, k1, g0, g1, g2, g3⟩ := KC.out _ R.out; have xl := XX.out _ HX.out)
                go_roundw
                case rel => exact ⟨i + 1, by go_num, by omega, R.out, NX.out⟩
                case measure => simp [intOf]; omega
              case false =>
                have Z0 : Hid (recF x = (10, ln)) := Lib.hid (by
                  have e := firstN_hit hlt HALL.out (by rw [FV.out]; simp)
                  rw [FV.out, if_neg (by decide)] at e
                  rw [W0.out, if_neg (by rw [FC.out]; decide), if_neg (by rw [FP.out]; decide), if_neg (by rw [FR.out]; decide), e])
                go_wp2_with (go_at_call 39; (with_reducible refine (CQ1.out _ R.out).mono ?_); rintro e v1 ⟨rfl, hb⟩; have R := Lib.hid (R.out.step hb); have HX := Lib.hid hb; clear hb; obtain ⟨k0, k1, g0, g1, g2, g3⟩ := KC.out _ R.out; have xl := XX.out _ HX.out)
                rw [Z0.out]
                exact bodyPost_ret (results_cell_row rfl _ _ (w.heap.size + 1) 29 _ (0, 0) _ rfl R.out.ends.1 Try.underlying29 rfl (by kernel_rfl)) rfl ⟨rfl, R.out.ends.2⟩
            · have Z0 : Hid (recF x = (0, 0)) := Lib.hid (by
                obtain rfl : i = n2 := by omega
                rw [W0.out, if_neg (by rw [FC.out]; decide), if_neg (by rw [FP.out]; decide), if_neg (by rw [FR.out]; decide), firstN_none HALL.out])
              obtain ⟨k0, k1, g0, g1, g2, g3⟩ := KC.out _ R.out
              go_wp2_with fail
              rw [Z0.out]
              exact bodyPost_ret (results_cell_row rfl _ _ (w.heap.size + 1) 29 _ (0, 0) _ rfl R.out.ends.1 Try.underlying29 rfl (by kernel_rfl)) rfl ⟨rfl, R.out.ends.2⟩

end Go.Proofs.Ytccmgaibikiedaa.Dc
