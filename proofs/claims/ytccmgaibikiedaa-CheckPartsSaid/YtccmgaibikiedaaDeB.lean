/- Recipes: the document's own first problem of what a package depends on, or may not be with. -/
import Derived.Test.YtccmgaibikiedaaDeA
namespace Go.Proofs.Ytccmgaibikiedaa.Dc
open Go.RowKit
set_option linter.unusedVariables false
set_option linter.unusedSimpArgs false
theorem condC_true {vars : List Vr} {sets : List Pr2} (h : condB vars sets = true) : condC vars sets = 0 := by unfold condC; rw [h]; rfl
theorem condC_false {vars : List Vr} {sets : List Pr2} (h : condB vars sets = false) : condC vars sets = 8 := by unfold condC; rw [h]; rfl
set_option maxHeartbeats 8000000 in
set_option maxRecDepth 100000 in
theorem rules_any {w : World} {B : Nat} {x : Rc} {p : Pk} {cs ps : List Value} (h : rcD w B cs x) (h2 : pkD w B ps p) (hB : B ≤ w.heap.size) (hl : x.packs.length ≤ 1000) : Calls Try.prog 38 #[.agg cs.toArray, .agg ps.toArray] w fun e w' => e = .returned (probV (relF x p).1 (relF x p).2) ∧ Below w.heap.size w w' := by
  obtain ⟨A1, n1, c1, A2, n2, c2, hcs, -, -⟩ := rc_cells h
  obtain ⟨Ar, nr, cr, Av, nv, cv, Ap, np, cp, Ad, nd, cd, Ac, nc, cc, Af, nf, cf, hps, hc⟩ := pk_cells h2
  obtain ⟨nm, hnm⟩ : ∃ y, y = p.name := ⟨_, rfl⟩
  obtain ⟨ln, hln⟩ : ∃ y, y = p.line := ⟨_, rfl⟩
  rw [← hnm, ← hln] at hps
  have DR : Hid (∀ W, Below w.heap.size w W → rcD W B [.slice A1 n1 c1, .slice A2 n2 c2] x ∧ pkD W B [.string nm, .int .i64 ln, .slice Ar nr cr, .slice Av nv cv, .slice Ap np cp, .slice Ad nd cd, .slice Ac nc cc, .slice Af nf cf] p ∧ Sl Dep 7 depD W B Ad nd cd p.deps ∧ Sl Dep 7 depD W B Ac nc cc p.confs ∧ B ≤ W.heap.size) := Lib.hid (fun W hb => by
    have h3 := rc_stays _ _ _ _ _ _ h (Nat.le_refl B) (hb.mono hB)
    have h4 := pk_stays _ _ _ _ _ _ h2 (Nat.le_refl B) (hb.mono hB)
    rw [hcs] at h3
    rw [hps] at h4
    exact ⟨h3, h4, hc.deps.below dep_stays (Nat.le_refl B) (hb.mono hB), hc.confs.below dep_stays (Nat.le_refl B) (hb.mono hB), Nat.le_trans hB hb.size⟩)
  have HL := Lib.hid hl
  have n5 := hc.deps.le
  have n6 := hc.confs.le
  have HN := Lib.hid (And.intro hc.deps.len hc.confs.len)
  have R0 := Lib.hid (R3.start w #[.slice A1 n1 c1, .slice A2 n2 c2] #[.string nm, .int .i64 ln, .slice Ar nr cr, .slice Av nv cv, .slice Ap np cp, .slice Ad nd cd, .slice Ac nc cc, .slice Af nf cf])
  have W0 : Hid (relF x p = if (firstN (depF x p) nd).1 = 0 then firstN (confF x p) nc else firstN (depF x p) nd) := Lib.hid (by rw [HN.out.1, HN.out.2]; rfl)
  obtain ⟨k0, k1, k2, k3, k4, k5, k6, k7, k8, k9⟩ := R0.out.cells
  rw [hcs, hps]
  clear h h2 hc hcs hps hnm hln hl hB
  show Calls Try.prog _ #[.agg #[.slice A1 n1 c1, .slice A2 n2 c2], .agg #[.string nm, .int .i64 ln, .slice Ar nr cr, .slice Av nv cv, .slice Ap np cp, .slice Ad nd cd, .slice Ac nc cc, .slice Af nf cf]] w _
  go_enter Try.func38, Try.ntmps38
  go_wp2_with fail
  clear k0 k1 k2 k3 k4 k5 k6 k7 k8 k9
  go_loopw [5, 6, 7, 14] (fun _ _ _ v wq => ∃ i : Nat, v = .int .i64 i ∧ i ≤ nd ∧ R3 w #[.slice A1 n1 c1, .slice A2 n2 c2] #[.string nm, .int .i64 ln, .slice Ar nr cr, .slice Av nv cv, .slice Ap np cp, .slice Ad nd cd, .slice Ac nc cc, .slice Af nf cf] wq ∧ ∀ j, j < i → (depF x p j).1 = 0) (fun _ _ _ v _ => nd - (intOf v).toNat)
  case atStart => exact ⟨0, rfl, Nat.zero_le _, R0.out, fun j hj => absurd hj (Nat.not_lt_zero _)⟩
  case round =>
    obtain ⟨i, rfl, hi, hr, hall⟩ := hrel
    have HR := Lib.hid hr
    have HALL := Lib.hid hall
    clear hr hall
    by_cases hlt : i < nd
    · have hlt' : (i : Int) < (nd : Int) := by omega
      obtain ⟨d, b, o, E1, m1, f1, E2, m2, f2, E3, m3, f3, E4, m4, f4, t1, hA, t3, x0, x1, x2, x3, x4, x5, x6, d1, d2⟩ := dep_at (DR.out _ HR.out.below).2.2.1 hlt
      obtain ⟨a1, ha1⟩ : ∃ y, y = d.on.name := ⟨_, rfl⟩
      obtain ⟨a2, ha2⟩ : ∃ y, y = d.cond.name := ⟨_, rfl⟩
      obtain ⟨dl, hdl⟩ : ∃ y, y = d.line := ⟨_, rfl⟩
      rw [← ha1] at x0 d1
      rw [← ha2] at x3 d2
      rw [← hdl] at x6
      have FV : Hid (depF x p i = (depC x p d, dl)) := Lib.hid (by unfold depF; rw [t1, hdl]; rfl)
      have R := Lib.hid (R4.start HR.out #[.string a1, .slice E1 m1 f1, .slice E2 m2 f2, .string a2, .slice E3 m3 f3, .slice E4 m4 f4, .int .i64 dl] 77)
      have hBr : Hid (B ≤ wr.heap.size) := Lib.hid (DR.out _ HR.out.below).2.2.2.2
      have KC : Hid (∀ W, R4 w wr #[.slice A1 n1 c1, .slice A2 n2 c2] #[.string nm, .int .i64 ln, .slice Ar nr cr, .slice Av nv cv, .slice Ap np cp, .slice Ad nd cd, .slice Ac nc cc, .slice Af nf cf] #[.string a1, .slice E1 m1 f1, .slice E2 m2 f2, .string a2, .slice E3 m3 f3, .slice E4 m4 f4, .int .i64 dl] 77 W → W.cell? ⟨w.heap.size, 0, none⟩ = some (.slice A1 n1 c1) ∧ W.cell? ⟨w.heap.size, 1, none⟩ = some (.slice A2 n2 c2) ∧ W.cell? ⟨w.heap.size + 1, 0, none⟩ = some (.string nm) ∧ W.cell? ⟨w.heap.size + 1, 1, none⟩ = some (.int .i64 ln) ∧ W.cell? ⟨w.heap.size + 1, 2, none⟩ = some (.slice Ar nr cr) ∧ W.cell? ⟨w.heap.size + 1, 3, none⟩ = some (.slice Av nv cv) ∧ W.cell? ⟨w.heap.size + 1, 4, none⟩ = some (.slice Ap np cp) ∧ W.cell? ⟨w.heap.size + 1, 5, none⟩ = some (.slice Ad nd cd) ∧ W.cell? ⟨w.heap.size + 1, 6, none⟩ = some (.slice Ac nc cc) ∧ W.cell? ⟨w.heap.size + 1, 7, none⟩ = some (.slice Af nf cf) ∧ W.cell? ⟨wr.heap.size, 0, none⟩ = some (.string a1) ∧ W.cell? ⟨wr.heap.size, 1, none⟩ = some (.slice E1 m1 f1) ∧ W.cell? ⟨wr.heap.size, 2, none⟩ = some (.slice E2 m2 f2) ∧ W.cell? ⟨wr.heap.size, 3, none⟩ = some (.string a2) ∧ W.cell? ⟨wr.heap.size, 4, none⟩ = some (.slice E3 m3 f3) ∧ W.cell? ⟨wr.heap.size, 5, none⟩ = some (.slice E4 m4 f4) ∧ W.cell? ⟨wr.heap.size, 6, none⟩ = some (.int .i64 dl)) := Lib.hid (fun W hR => hR.cells)
      have DS : Hid (∀ W, R4 w wr #[.slice A1 n1 c1, .slice A2 n2 c2] #[.string nm, .int .i64 ln, .slice Ar nr cr, .slice Av nv cv, .slice Ap np cp, .slice Ad nd cd, .slice Ac nc cc, .slice Af nf cf] #[.string a1, .slice E1 m1 f1, .slice E2 m2 f2, .string a2, .slice E3 m3 f3, .slice E4 m4 f4, .int .i64 dl] 77 W → spD W B [.string a1, .slice E1 m1 f1, .slice E2 m2 f2] d.on ∧ spD W B [.string a2, .slice E3 m3 f3, .slice E4 m4 f4] d.cond) := Lib.hid (fun W hR => ⟨sp_stays _ _ _ _ _ _ d1 (Nat.le_refl B) (hR.b4.mono hBr.out), sp_stays _ _ _ _ _ _ d2 (Nat.le_refl B) (hR.b4.mono hBr.out)⟩)
      obtain ⟨z1, hz1⟩ : ∃ z : Nat, z = wishF x d.on := ⟨_, rfl⟩
      obtain ⟨g, hg⟩ : ∃ z : Bool, z = condB p.vars d.cond.sets := ⟨_, rfl⟩
      have CA : Hid (∀ W, R4 w wr #[.slice A1 n1 c1, .slice A2 n2 c2] #[.string nm, .int .i64 ln, .slice Ar nr cr, .slice Av nv cv, .slice Ap np cp, .slice Ad nd cd, .slice Ac nc cc, .slice Af nf cf] #[.string a1, .slice E1 m1 f1, .slice E2 m2 f2, .string a2, .slice E3 m3 f3, .slice E4 m4 f4, .int .i64 dl] 77 W → Calls Try.prog 66 #[.agg #[.slice A1 n1 c1, .slice A2 n2 c2], .agg #[.string a1, .slice E1 m1 f1, .slice E2 m2 f2]] W fun e w' => e = .returned (.int .u8 z1) ∧ Below W.heap.size W w') := Lib.hid (fun W hR => by rw [hz1]; exact rwish_any (DR.out W hR.r.below).1 (DS.out W hR).1 (DR.out W hR.r.below).2.2.2.2 HL.out)
      have CB : Hid (∀ W, R4 w wr #[.slice A1 n1 c1, .slice A2 n2 c2] #[.string nm, .int .i64 ln, .slice Ar nr cr, .slice Av nv cv, .slice Ap np cp, .slice Ad nd cd, .slice Ac nc cc, .slice Af nf cf] #[.string a1, .slice E1 m1 f1, .slice E2 m2 f2, .string a2, .slice E3 m3 f3, .slice E4 m4 f4, .int .i64 dl] 77 W → Calls Try.prog 67 #[.agg #[.string nm, .int .i64 ln, .slice Ar nr cr, .slice Av nv cv, .slice Ap np cp, .slice Ad nd cd, .slice Ac nc cc, .slice Af nf cf], .slice E4 m4 f4] W fun e w' => e = .returned (.bool g) ∧ Below W.heap.size W w') := Lib.hid (fun W hR => by
        obtain ⟨X1, k1, q1, X2, k2, q2, hh, -, -, v2⟩ := sp_cells (DS.out W hR).2
        simp only [List.cons.injEq, and_true, Value.slice.injEq] at hh
        obtain ⟨-, -, rfl, rfl, rfl⟩ := hh
        rw [hg]; exact settings_any (DR.out W hR.r.below).2.1 v2 (DR.out W hR.r.below).2.2.2.2)
      have CV : Hid (depC x p d = if z1 = 0 then (if g = true then 0 else 8) else z1) := Lib.hid (by
        unfold depC
        rw [← hz1]
        cases g
        · rw [condC_false hg.symm]; rfl
        · rw [condC_true hg.symm]; rfl)
      subst hA
      clear t1 d1 d2 t3 ha1 ha2 hdl hz1 hg
      obtain ⟨j0, j1, j2, j3, j4, j5, j6, j7, j8, j9⟩ := HR.out.cells
      obtain ⟨k0, k1, k2, k3, k4, k5, k6, k7, k8, k9, k10, k11, k12, k13, k14, k15, k16⟩ := KC.out _ R.out
      by_cases h1 : z1 = 0
      · subst h1
        cases g
        case true =>
          have NX : Hid (∀ j, j < i + 1 → (depF x p j).1 = 0) := Lib.hid (step_all HALL.out (by rw [FV.out, CV.out]; rfl))
          go_wp2_with (first | (go_at_call 66; (with_reducible refine (CA.out _ R.out).mono ?_); rintro e v1 ⟨rfl, hb⟩; have R := Lib.hid (R.out.step hb); clear hb; obtain ⟨k0, k1, k2, k3, k4, k5, k6, k7, k8, k9, k10, k11, k12, k13, k14, k15, k16⟩ := KC.out _ R.out) | (go_at_call 67; (with_reducible refine (CB.out _ R.out).mono ?_); rintro e v1 ⟨rfl, hb⟩; have R := Lib.hid (R.out.step hb); clear hb; obtain ⟨k0, k1, k2, k3, k4, k5, k6, k7, k8, k9, k10, k11, k12, k13, k14, k15, k16⟩ := KC.out _ R.out))
          go_roundw
          case rel => exact ⟨i + 1, by go_num, by omega, R.out.r, NX.out⟩
          case measure => simp [intOf]; omega
        case false =>
          have Z0 : Hid (relF x p = (8, dl)) := Lib.hid (by
            have e := firstN_hit hlt HALL.out (by rw [FV.out, CV.out]; simp)
            rw [FV.out, CV.out, if_pos rfl, if_neg (by decide)] at e
            rw [W0.out, e, if_neg (by simp)])
          go_wp2_with (first | (go_at_call 66; (with_reducible refine (CA.out _ R.out).mono ?_); rintro e v1 ⟨rfl, hb⟩; have R := Lib.hid (R.out.step hb); clear hb; obtain ⟨k0, k1, k2, k3, k4, k5, k6, k7, k8, k9, k10, k11, k12, k13, k14, k15, k16⟩ := KC.out _ R.out; have g0 := blk_cell (j := 0) R.out.r.b2 rfl; have g1 := blk_cell (j := 1) R.out.r.b2 rfl; have g2 := blk_free 0 R.out.r.b2; have g3 := blk_free 1 R.out.r.b2) | (go_at_call 67; (with_reducible refine (CB.out _ R.out).mono ?_); rintro e v1 ⟨rfl, hb⟩; have R := Lib.hid (R.out.step hb); clear hb; obtain ⟨k0, k1, k2, k3, k4, k5, k6, k7, k8, k9, k10, k11, k12, k13, k14, k15, k16⟩ := KC.out _ R.out; have g0 := blk_cell (j := 0) R.out.r.b2 rfl; have g1 := blk_cell (j := 1) R.out.r.b2 rfl; have g2 := blk_free 0 R.out.r.b2; have g3 := blk_free 1 R.out.r.b2))
          rw [Z0.out]
          exact bodyPost_ret (results_cell_row rfl _ _ (w.heap.size + 1 + 1) 29 _ (0, 0) _ rfl R.out.r.ends.1 Try.underlying29 rfl (by kernel_rfl)) rfl ⟨rfl, R.out.r.ends.2⟩
      · have q1 := nz_eq h1
        have q2 := nz_ne h1
        have Z0 : Hid (relF x p = (z1, dl)) := Lib.hid (by
          have e := firstN_hit hlt HALL.out (by rw [FV.out, CV.out, if_neg h1]; exact h1)
          rw [FV.out, CV.out, if_neg h1] at e
          rw [W0.out, e, if_neg h1])
        have HH := Lib.hid h1
        clear h1
        go_wp2_with (first | (go_at_call 66; (with_reducible refine (CA.out _ R.out).mono ?_); rintro e v1 ⟨rfl, hb⟩; have R := Lib.hid (R.out.step hb); clear hb; obtain ⟨k0, k1, k2, k3, k4, k5, k6, k7, k8, k9, k10, k11, k12, k13, k14, k15, k16⟩ := KC.out _ R.out; have g0 := blk_cell (j := 0) R.out.r.b2 rfl; have g1 := blk_cell (j := 1) R.out.r.b2 rfl; have g2 := blk_free 0 R.out.r.b2; have g3 := blk_free 1 R.out.r.b2) | (go_at_call 67; (with_reducible refine (CB.out _ R.out).mono ?_); rintro e v1 ⟨rfl, hb⟩; have R := Lib.hid (R.out.step hb); clear hb; obtain ⟨k0, k1, k2, k3, k4, k5, k6, k7, k8, k9, k10, k11, k12, k13, k14, k15, k16⟩ := KC.out _ R.out; have g0 := blk_cell (j := 0) R.out.r.b2 rfl; have g1 := blk_cell (j := 1) R.out.r.b2 rfl; have g2 := blk_free 0 R.out.r.b2; have g3 := blk_free 1 R.out.r.b2))
        rw [Z0.out]
        exact bodyPost_ret (results_cell_row rfl _ _ (w.heap.size + 1 + 1) 29 _ (0, 0) _ rfl R.out.r.ends.1 Try.underlying29 rfl (by kernel_rfl)) rfl ⟨rfl, R.out.r.ends.2⟩
    · have FD : Hid ((firstN (depF x p) nd).1 = 0) := Lib.hid (by
        obtain rfl : i = nd := by omega
        rw [firstN_none HALL.out])
      obtain ⟨k0, k1, k2, k3, k4, k5, k6, k7, k8, k9⟩ := HR.out.cells
      go_wp2_with fail
      clear k0 k1 k2 k3 k4 k5 k6 k7 k8 k9
      clear HALL
      obtain ⟨wo, hwo⟩ : ∃ wo, wo = wr := ⟨_, rfl⟩
      go_loopw [8, 9, 10, 46] (fun _ _ _ v wq => ∃ i : Nat, v = .int .i64 i ∧ i ≤ nc ∧ R3 w #[.slice A1 n1 c1, .slice A2 n2 c2] #[.string nm, .int .i64 ln, .slice Ar nr cr, .slice Av nv cv, .slice Ap np cp, .slice Ad nd cd, .slice Ac nc cc, .slice Af nf cf] wq ∧ ∀ j, j < i → (confF x p j).1 = 0) (fun _ _ _ v _ => nc - (intOf v).toNat)
      case atStart => exact ⟨0, rfl, Nat.zero_le _, HR.out, fun j hj => absurd hj (Nat.not_lt_zero _)⟩
      case round =>
        obtain ⟨k, rfl, hk, hr, hall⟩ := hrel
        have HR := Lib.hid hr
        have HALL := Lib.hid hall
        clear hr hall
        by_cases hlt : k < nc
        · have hlt' : (k : Int) < (nc : Int) := by omega
          obtain ⟨d, b, o, E1, m1, f1, E2, m2, f2, E3, m3, f3, E4, m4, f4, t1, hA, t3, x0, x1, x2, x3, x4, x5, x6, d1, d2⟩ := dep_at (DR.out _ HR.out.below).2.2.2.1 hlt
          obtain ⟨a1, ha1⟩ : ∃ y, y = d.on.name := ⟨_, rfl⟩
          obtain ⟨a2, ha2⟩ : ∃ y, y = d.cond.name := ⟨_, rfl⟩
          obtain ⟨dl, hdl⟩ : ∃ y, y = d.line := ⟨_, rfl⟩
          rw [← ha1] at x0 d1
          rw [← ha2] at x3 d2
          rw [← hdl] at x6
          have FV : Hid (confF x p k = (confC x p d, dl)) := Lib.hid (by unfold confF; rw [t1, hdl]; rfl)
          have R := Lib.hid (R4.start HR.out #[.string a1, .slice E1 m1 f1, .slice E2 m2 f2, .string a2, .slice E3 m3 f3, .slice E4 m4 f4, .int .i64 dl] 88)
          have hBr : Hid (B ≤ wr.heap.size) := Lib.hid (DR.out _ HR.out.below).2.2.2.2
          have KC : Hid (∀ W, R4 w wr #[.slice A1 n1 c1, .slice A2 n2 c2] #[.string nm, .int .i64 ln, .slice Ar nr cr, .slice Av nv cv, .slice Ap np cp, .slice Ad nd cd, .slice Ac nc cc, .slice Af nf cf] #[.string a1, .slice E1 m1 f1, .slice E2 m2 f2, .string a2, .slice E3 m3 f3, .slice E4 m4 f4, .int .i64 dl] 88 W → W.cell? ⟨w.heap.size, 0, none⟩ = some (.slice A1 n1 c1) ∧ W.cell? ⟨w.heap.size, 1, none⟩ = some (.slice A2 n2 c2) ∧ W.cell? ⟨w.heap.size + 1, 0, none⟩ = some (.string nm) ∧ W.cell? ⟨w.heap.size + 1, 1, none⟩ = some (.int .i64 ln) ∧ W.cell? ⟨w.heap.size + 1, 2, none⟩ = some (.slice Ar nr cr) ∧ W.cell? ⟨w.heap.size + 1, 3, none⟩ = some (.slice Av nv cv) ∧ W.cell? ⟨w.heap.size + 1, 4, none⟩ = some (.slice Ap np cp) ∧ W.cell? ⟨w.heap.size + 1, 5, none⟩ = some (.slice Ad nd cd) ∧ W.cell? ⟨w.heap.size + 1, 6, none⟩ = some (.slice Ac nc cc) ∧ W.cell? ⟨w.heap.size + 1, 7, none⟩ = some (.slice Af nf cf) ∧ W.cell? ⟨wr.heap.size, 0, none⟩ = some (.string a1) ∧ W.cell? ⟨wr.heap.size, 1, none⟩ = some (.slice E1 m1 f1) ∧ W.cell? ⟨wr.heap.size, 2, none⟩ = some (.slice E2 m2 f2) ∧ W.cell? ⟨wr.heap.size, 3, none⟩ = some (.string a2) ∧ W.cell? ⟨wr.heap.size, 4, none⟩ = some (.slice E3 m3 f3) ∧ W.cell? ⟨wr.heap.size, 5, none⟩ = some (.slice E4 m4 f4) ∧ W.cell? ⟨wr.heap.size, 6, none⟩ = some (.int .i64 dl)) := Lib.hid (fun W hR => hR.cells)
          have DS : Hid (∀ W, R4 w wr #[.slice A1 n1 c1, .slice A2 n2 c2] #[.string nm, .int .i64 ln, .slice Ar nr cr, .slice Av nv cv, .slice Ap np cp, .slice Ad nd cd, .slice Ac nc cc, .slice Af nf cf] #[.string a1, .slice E1 m1 f1, .slice E2 m2 f2, .string a2, .slice E3 m3 f3, .slice E4 m4 f4, .int .i64 dl] 88 W → spD W B [.string a1, .slice E1 m1 f1, .slice E2 m2 f2] d.on ∧ spD W B [.string a2, .slice E3 m3 f3, .slice E4 m4 f4] d.cond) := Lib.hid (fun W hR => ⟨sp_stays _ _ _ _ _ _ d1 (Nat.le_refl B) (hR.b4.mono hBr.out), sp_stays _ _ _ _ _ _ d2 (Nat.le_refl B) (hR.b4.mono hBr.out)⟩)
          obtain ⟨z1, hz1⟩ : ∃ z : Nat, z = wishF x d.cond := ⟨_, rfl⟩
          obtain ⟨g, hg⟩ : ∃ z : Bool, z = condB p.vars d.on.sets := ⟨_, rfl⟩
          obtain ⟨fi, hfi⟩ : ∃ z : Int, z = findF x.packs d.cond.name := ⟨_, rfl⟩
          have CA : Hid (∀ W, R4 w wr #[.slice A1 n1 c1, .slice A2 n2 c2] #[.string nm, .int .i64 ln, .slice Ar nr cr, .slice Av nv cv, .slice Ap np cp, .slice Ad nd cd, .slice Ac nc cc, .slice Af nf cf] #[.string a1, .slice E1 m1 f1, .slice E2 m2 f2, .string a2, .slice E3 m3 f3, .slice E4 m4 f4, .int .i64 dl] 88 W → Calls Try.prog 66 #[.agg #[.slice A1 n1 c1, .slice A2 n2 c2], .agg #[.string a2, .slice E3 m3 f3, .slice E4 m4 f4]] W fun e w' => e = .returned (.int .u8 z1) ∧ Below W.heap.size W w') := Lib.hid (fun W hR => by rw [hz1]; exact rwish_any (DR.out W hR.r.below).1 (DS.out W hR).2 (DR.out W hR.r.below).2.2.2.2 HL.out)
          have CB : Hid (∀ W, R4 w wr #[.slice A1 n1 c1, .slice A2 n2 c2] #[.string nm, .int .i64 ln, .slice Ar nr cr, .slice Av nv cv, .slice Ap np cp, .slice Ad nd cd, .slice Ac nc cc, .slice Af nf cf] #[.string a1, .slice E1 m1 f1, .slice E2 m2 f2, .string a2, .slice E3 m3 f3, .slice E4 m4 f4, .int .i64 dl] 88 W → Calls Try.prog 67 #[.agg #[.string nm, .int .i64 ln, .slice Ar nr cr, .slice Av nv cv, .slice Ap np cp, .slice Ad nd cd, .slice Ac nc cc, .slice Af nf cf], .slice E2 m2 f2] W fun e w' => e = .returned (.bool g) ∧ Below W.heap.size W w') := Lib.hid (fun W hR => by
            obtain ⟨X1, k1, q1, X2, k2, q2, hh, -, -, v2⟩ := sp_cells (DS.out W hR).1
            simp only [List.cons.injEq, and_true, Value.slice.injEq] at hh
            obtain ⟨-, -, rfl, rfl, rfl⟩ := hh
            rw [hg]; exact settings_any (DR.out W hR.r.below).2.1 v2 (DR.out W hR.r.below).2.2.2.2)
          have CF : Hid (∀ W, R4 w wr #[.slice A1 n1 c1, .slice A2 n2 c2] #[.string nm, .int .i64 ln, .slice Ar nr cr, .slice Av nv cv, .slice Ap np cp, .slice Ad nd cd, .slice Ac nc cc, .slice Af nf cf] #[.string a1, .slice E1 m1 f1, .slice E2 m2 f2, .string a2, .slice E3 m3 f3, .slice E4 m4 f4, .int .i64 dl] 88 W → Calls Try.prog 15 #[.agg #[.slice A1 n1 c1, .slice A2 n2 c2], .string a2] W fun e w' => e = .returned (.int .i64 fi) ∧ Below W.heap.size W w') := Lib.hid (fun W hR => by rw [hfi, ← ha2]; exact rfind_any (DR.out W hR.r.below).1 (DR.out W hR.r.below).2.2.2.2 a2)
          have CV : Hid (confC x p d = if g = true then (if (a2.toList == noB.toList) = true then 0 else if fi < 0 then 7 else z1) else 8) := Lib.hid (by
            unfold confC withF
            rw [← hz1, ← hfi, ← ha2]
            cases g
            · rw [condC_false hg.symm]; rfl
            · rw [condC_true hg.symm]; rfl)
          have NB := Lib.hid noB_nil
          subst hA
          clear t1 d1 d2 t3 ha1 ha2 hdl hz1 hg hfi
          obtain ⟨j0, j1, j2, j3, j4, j5, j6, j7, j8, j9⟩ := HR.out.cells
          obtain ⟨k0, k1, k2, k3, k4, k5, k6, k7, k8, k9, k10, k11, k12, k13, k14, k15, k16⟩ := KC.out _ R.out
          cases q3 : (a2.toList == noB.toList)
          case true =>
            rw [q3] at CV
            rw [NB.out] at q3
            cases g
            case true =>
              have NX : Hid (∀ j, j < k + 1 → (confF x p j).1 = 0) := Lib.hid (step_all HALL.out (by rw [FV.out, CV.out]; rfl))
              go_wp2_with (first | (go_at_call 66; (with_reducible refine (CA.out _ R.out).mono ?_); rintro e v1 ⟨rfl, hb⟩; have R := Lib.hid (R.out.step hb); clear hb; obtain ⟨k0, k1, k2, k3, k4, k5, k6, k7, k8, k9, k10, k11, k12, k13, k14, k15, k16⟩ := KC.out _ R.out; have g0 := blk_cell (j := 0) R.out.r.b2 rfl; have g1 := blk_cell (j := 1) R.out.r.b2 rfl; have g2 := blk_free 0 R.out.r.b2; have g3 := blk_free 1 R.out.r.b2) | (go_at_call 67; (with_reducible refine (CB.out _ R.out).mono ?_); rintro e v1 ⟨rfl, hb⟩; have R := Lib.hid (R.out.step hb); clear hb; obtain ⟨k0, k1, k2, k3, k4, k5, k6, k7, k8, k9, k10, k11, k12, k13, k14, k15, k16⟩ := KC.out _ R.out; have g0 := blk_cell (j := 0) R.out.r.b2 rfl; have g1 := blk_cell (j := 1) R.out.r.b2 rfl; have g2 := blk_free 0 R.out.r.b2; have g3 := blk_free 1 R.out.r.b2) | (go_at_call 15; (with_reducible refine (CF.out _ R.out).mono ?_); rintro e v1 ⟨rfl, hb⟩; have R := Lib.hid (R.out.step hb); clear hb; obtain ⟨k0, k1, k2, k3, k4, k5, k6, k7, k8, k9, k10, k11, k12, k13, k14, k15, k16⟩ := KC.out _ R.out; have g0 := blk_cell (j := 0) R.out.r.b2 rfl; have g1 := blk_cell (j := 1) R.out.r.b2 rfl; have g2 := blk_free 0 R.out.r.b2; have g3 := blk_free 1 R.out.r.b2))
              go_roundw
              case rel => exact ⟨k + 1, by go_num, by omega, R.out.r, NX.out⟩
              case measure => simp [intOf]; omega
            case false =>
              have Z0 : Hid (relF x p = (8, dl)) := Lib.hid (by
                have ev : confC x p d = 8 := by rw [CV.out]; rfl
                have e := firstN_hit hlt HALL.out (by rw [FV.out, ev]; simp)
                rw [FV.out, ev] at e
                rw [W0.out, if_pos FD.out, e])
              skip
              go_wp2_with (first | (go_at_call 66; (with_reducible refine (CA.out _ R.out).mono ?_); rintro e v1 ⟨rfl, hb⟩; have R := Lib.hid (R.out.step hb); clear hb; obtain ⟨k0, k1, k2, k3, k4, k5, k6, k7, k8, k9, k10, k11, k12, k13, k14, k15, k16⟩ := KC.out _ R.out; have g0 := blk_cell (j := 0) R.out.r.b2 rfl; have g1 := blk_cell (j := 1) R.out.r.b2 rfl; have g2 := blk_free 0 R.out.r.b2; have g3 := blk_free 1 R.out.r.b2) | (go_at_call 67; (with_reducible refine (CB.out _ R.out).mono ?_); rintro e v1 ⟨rfl, hb⟩; have R := Lib.hid (R.out.step hb); clear hb; obtain ⟨k0, k1, k2, k3, k4, k5, k6, k7, k8, k9, k10, k11, k12, k13, k14, k15, k16⟩ := KC.out _ R.out; have g0 := blk_cell (j := 0) R.out.r.b2 rfl; have g1 := blk_cell (j := 1) R.out.r.b2 rfl; have g2 := blk_free 0 R.out.r.b2; have g3 := blk_free 1 R.out.r.b2) | (go_at_call 15; (with_reducible refine (CF.out _ R.out).mono ?_); rintro e v1 ⟨rfl, hb⟩; have R := Lib.hid (R.out.step hb); clear hb; obtain ⟨k0, k1, k2, k3, k4, k5, k6, k7, k8, k9, k10, k11, k12, k13, k14, k15, k16⟩ := KC.out _ R.out; have g0 := blk_cell (j := 0) R.out.r.b2 rfl; have g1 := blk_cell (j := 1) R.out.r.b2 rfl; have g2 := blk_free 0 R.out.r.b2; have g3 := blk_free 1 R.out.r.b2))
              rw [Z0.out]
              exact bodyPost_ret (results_cell_row rfl _ _ (w.heap.size + 1 + 1) 29 _ (0, 0) _ rfl R.out.r.ends.1 Try.underlying29 rfl (by kernel_rfl)) rfl ⟨rfl, R.out.r.ends.2⟩
          case false =>
            rw [q3] at CV
            rw [NB.out] at q3
            by_cases hneg : fi < 0
            · cases g
              case true =>
                have Z0 : Hid (relF x p = (7, dl)) := Lib.hid (by
                  have ev : confC x p d = 7 := by rw [CV.out]; rw [if_pos rfl, if_neg (by decide), if_pos hneg]
                  have e := firstN_hit hlt HALL.out (by rw [FV.out, ev]; simp)
                  rw [FV.out, ev] at e
                  rw [W0.out, if_pos FD.out, e])
                skip
                go_wp2_with (first | (go_at_call 66; (with_reducible refine (CA.out _ R.out).mono ?_); rintro e v1 ⟨rfl, hb⟩; have R := Lib.hid (R.out.step hb); clear hb; obtain ⟨k0, k1, k2, k3, k4, k5, k6, k7, k8, k9, k10, k11, k12, k13, k14, k15, k16⟩ := KC.out _ R.out; have g0 := blk_cell (j := 0) R.out.r.b2 rfl; have g1 := blk_cell (j := 1) R.out.r.b2 rfl; have g2 := blk_free 0 R.out.r.b2; have g3 := blk_free 1 R.out.r.b2) | (go_at_call 67; (with_reducible refine (CB.out _ R.out).mono ?_); rintro e v1 ⟨rfl, hb⟩; have R := Lib.hid (R.out.step hb); clear hb; obtain ⟨k0, k1, k2, k3, k4, k5, k6, k7, k8, k9, k10, k11, k12, k13, k14, k15, k16⟩ := KC.out _ R.out; have g0 := blk_cell (j := 0) R.out.r.b2 rfl; have g1 := blk_cell (j := 1) R.out.r.b2 rfl; have g2 := blk_free 0 R.out.r.b2; have g3 := blk_free 1 R.out.r.b2) | (go_at_call 15; (with_reducible refine (CF.out _ R.out).mono ?_); rintro e v1 ⟨rfl, hb⟩; have R := Lib.hid (R.out.step hb); clear hb; obtain ⟨k0, k1, k2, k3, k4, k5, k6, k7, k8, k9, k10, k11, k12, k13, k14, k15, k16⟩ := KC.out _ R.out; have g0 := blk_cell (j := 0) R.out.r.b2 rfl; have g1 := blk_cell (j := 1) R.out.r.b2 rfl; have g2 := blk_free 0 R.out.r.b2; have g3 := blk_free 1 R.out.r.b2))
                rw [Z0.out]
                exact bodyPost_ret (results_cell_row rfl _ _ (w.heap.size + 1 + 1) 29 _ (0, 0) _ rfl R.out.r.ends.1 Try.underlying29 rfl (by kernel_rfl)) rfl ⟨rfl, R.out.r.ends.2⟩
              case false =>
                have Z0 : Hid (relF x p = (8, dl)) := Lib.hid (by
                  have ev : confC x p d = 8 := by rw [CV.out]; rw [if_neg (by decide)]
                  have e := firstN_hit hlt HALL.out (by rw [FV.out, ev]; simp)
                  rw [FV.out, ev] at e
                  rw [W0.out, if_pos FD.out, e])
                skip
                go_wp2_with (first | (go_at_call 66; (with_reducible refine (CA.out _ R.out).mono ?_); rintro e v1 ⟨rfl, hb⟩; have R := Lib.hid (R.out.step hb); clear hb; obtain ⟨k0, k1, k2, k3, k4, k5, k6, k7, k8, k9, k10, k11, k12, k13, k14, k15, k16⟩ := KC.out _ R.out; have g0 := blk_cell (j := 0) R.out.r.b2 rfl; have g1 := blk_cell (j := 1) R.out.r.b2 rfl; have g2 := blk_free 0 R.out.r.b2; have g3 := blk_free 1 R.out.r.b2) | (go_at_call 67; (with_reducible refine (CB.out _ R.out).mono ?_); rintro e v1 ⟨rfl, hb⟩; have R := Lib.hid (R.out.step hb); clear hb; obtain ⟨k0, k1, k2, k3, k4, k5, k6, k7, k8, k9, k10, k11, k12, k13, k14, k15, k16⟩ := KC.out _ R.out; have g0 := blk_cell (j := 0) R.out.r.b2 rfl; have g1 := blk_cell (j := 1) R.out.r.b2 rfl; have g2 := blk_free 0 R.out.r.b2; have g3 := blk_free 1 R.out.r.b2) | (go_at_call 15; (with_reducible refine (CF.out _ R.out).mono ?_); rintro e v1 ⟨rfl, hb⟩; have R := Lib.hid (R.out.step hb); clear hb; obtain ⟨k0, k1, k2, k3, k4, k5, k6, k7, k8, k9, k10, k11, k12, k13, k14, k15, k16⟩ := KC.out _ R.out; have g0 := blk_cell (j := 0) R.out.r.b2 rfl; have g1 := blk_cell (j := 1) R.out.r.b2 rfl; have g2 := blk_free 0 R.out.r.b2; have g3 := blk_free 1 R.out.r.b2))
                rw [Z0.out]
                exact bodyPost_ret (results_cell_row rfl _ _ (w.heap.size + 1 + 1) 29 _ (0, 0) _ rfl R.out.r.ends.1 Try.underlying29 rfl (by kernel_rfl)) rfl ⟨rfl, R.out.r.ends.2⟩
            · cases g
              case true =>
                by_cases h1 : z1 = 0
                · subst h1
                  have NX : Hid (∀ j, j < k + 1 → (confF x p j).1 = 0) := Lib.hid (step_all HALL.out (by rw [FV.out, CV.out]; rw [if_pos rfl, if_neg (by decide), if_neg hneg]))
                  go_wp2_with (first | (go_at_call 66; (with_reducible refine (CA.out _ R.out).mono ?_); rintro e v1 ⟨rfl, hb⟩; have R := Lib.hid (R.out.step hb); clear hb; obtain ⟨k0, k1, k2, k3, k4, k5, k6, k7, k8, k9, k10, k11, k12, k13, k14, k15, k16⟩ := KC.out _ R.out; have g0 := blk_cell (j := 0) R.out.r.b2 rfl; have g1 := blk_cell (j := 1) R.out.r.b2 rfl; have g2 := blk_free 0 R.out.r.b2; have g3 := blk_free 1 R.out.r.b2) | (go_at_call 67; (with_reducible refine (CB.out _ R.out).mono ?_); rintro e v1 ⟨rfl, hb⟩; have R := Lib.hid (R.out.step hb); clear hb; obtain ⟨k0, k1, k2, k3, k4, k5, k6, k7, k8, k9, k10, k11, k12, k13, k14, k15, k16⟩ := KC.out _ R.out; have g0 := blk_cell (j := 0) R.out.r.b2 rfl; have g1 := blk_cell (j := 1) R.out.r.b2 rfl; have g2 := blk_free 0 R.out.r.b2; have g3 := blk_free 1 R.out.r.b2) | (go_at_call 15; (with_reducible refine (CF.out _ R.out).mono ?_); rintro e v1 ⟨rfl, hb⟩; have R := Lib.hid (R.out.step hb); clear hb; obtain ⟨k0, k1, k2, k3, k4, k5, k6, k7, k8, k9, k10, k11, k12, k13, k14, k15, k16⟩ := KC.out _ R.out; have g0 := blk_cell (j := 0) R.out.r.b2 rfl; have g1 := blk_cell (j := 1) R.out.r.b2 rfl; have g2 := blk_free 0 R.out.r.b2; have g3 := blk_free 1 R.out.r.b2))
                  go_roundw
                  case rel => exact ⟨k + 1, by go_num, by omega, R.out.r, NX.out⟩
                  case measure => simp [intOf]; omega
                · have q1 := nz_eq h1
                  have q2 := nz_ne h1
                  have Z0 : Hid (relF x p = (z1, dl)) := Lib.hid (by
                    have ev : confC x p d = z1 := by rw [CV.out]; rw [if_pos rfl, if_neg (by decide), if_neg hneg]
                    have e := firstN_hit hlt HALL.out (by rw [FV.out, ev]; exact h1)
                    rw [FV.out, ev] at e
                    rw [W0.out, if_pos FD.out, e])
                  (have HH := Lib.hid h1; clear h1)
                  go_wp2_with (first | (go_at_call 66; (with_reducible refine (CA.out _ R.out).mono ?_); rintro e v1 ⟨rfl, hb⟩; have R := Lib.hid (R.out.step hb); clear hb; obtain ⟨k0, k1, k2, k3, k4, k5, k6, k7, k8, k9, k10, k11, k12, k13, k14, k15, k16⟩ := KC.out _ R.out; have g0 := blk_cell (j := 0) R.out.r.b2 rfl; have g1 := blk_cell (j := 1) R.out.r.b2 rfl; have g2 := blk_free 0 R.out.r.b2; have g3 := blk_free 1 R.out.r.b2) | (go_at_call 67; (with_reducible refine (CB.out _ R.out).mono ?_); rintro e v1 ⟨rfl, hb⟩; have R := Lib.hid (R.out.step hb); clear hb; obtain ⟨k0, k1, k2, k3, k4, k5, k6, k7, k8, k9, k10, k11, k12, k13, k14, k15, k16⟩ := KC.out _ R.out; have g0 := blk_cell (j := 0) R.out.r.b2 rfl; have g1 := blk_cell (j := 1) R.out.r.b2 rfl; have g2 := blk_free 0 R.out.r.b2; have g3 := blk_free 1 R.out.r.b2) | (go_at_call 15; (with_reducible refine (CF.out _ R.out).mono ?_); rintro e v1 ⟨rfl, hb⟩; have R := Lib.hid (R.out.step hb); clear hb; obtain ⟨k0, k1, k2, k3, k4, k5, k6, k7, k8, k9, k10, k11, k12, k13, k14, k15, k16⟩ := KC.out _ R.out; have g0 := blk_cell (j := 0) R.out.r.b2 rfl; have g1 := blk_cell (j := 1) R.out.r.b2 rfl; have g2 := blk_free 0 R.out.r.b2; have g3 := blk_free 1 R.out.r.b2))
                  rw [Z0.out]
                  exact bodyPost_ret (results_cell_row rfl _ _ (w.heap.size + 1 + 1) 29 _ (0, 0) _ rfl R.out.r.ends.1 Try.underlying29 rfl (by kernel_rfl)) rfl ⟨rfl, R.out.r.ends.2⟩
              case false =>
                have Z0 : Hid (relF x p = (8, dl)) := Lib.hid (by
                  have ev : confC x p d = 8 := by rw [CV.out]; rw [if_neg (by decide)]
                  have e := firstN_hit hlt HALL.out (by rw [FV.out, ev]; simp)
                  rw [FV.out, ev] at e
                  rw [W0.out, if_pos FD.out, e])
                skip
                go_wp2_with (first | (go_at_call 66; (with_reducible refine (CA.out _ R.out).mono ?_); rintro e v1 ⟨rfl, hb⟩; have R := Lib.hid (R.out.step hb); clear hb; obtain ⟨k0, k1, k2, k3, k4, k5, k6, k7, k8, k9, k10, k11, k12, k13, k14, k15, k16⟩ := KC.out _ R.out; have g0 := blk_cell (j := 0) R.out.r.b2 rfl; have g1 := blk_cell (j := 1) R.out.r.b2 rfl; have g2 := blk_free 0 R.out.r.b2; have g3 := blk_free 1 R.out.r.b2) | (go_at_call 67; (with_reducible refine (CB.out _ R.out).mono ?_); rintro e v1 ⟨rfl, hb⟩; have R := Lib.hid (R.out.step hb); clear hb; obtain ⟨k0, k1, k2, k3, k4, k5, k6, k7, k8, k9, k10, k11, k12, k13, k14, k15, k16⟩ := KC.out _ R.out; have g0 := blk_cell (j := 0) R.out.r.b2 rfl; have g1 := blk_cell (j := 1) R.out.r.b2 rfl; have g2 := blk_free 0 R.out.r.b2; have g3 := blk_free 1 R.out.r.b2) | (go_at_call 15; (with_reducible refine (CF.out _ R.out).mono ?_); rintro e v1 ⟨rfl, hb⟩; have R := Lib.hid (R.out.step hb); clear hb; obtain ⟨k0, k1, k2, k3, k4, k5, k6, k7, k8, k9, k10, k11, k12, k13, k14, k15, k16⟩ := KC.out _ R.out; have g0 := blk_cell (j := 0) R.out.r.b2 rfl; have g1 := blk_cell (j := 1) R.out.r.b2 rfl; have g2 := blk_free 0 R.out.r.b2; have g3 := blk_free 1 R.out.r.b2))
                rw [Z0.out]
                exact bodyPost_ret (results_cell_row rfl _ _ (w.heap.size + 1 + 1) 29 _ (0, 0) _ rfl R.out.r.ends.1 Try.underlying29 rfl (by kernel_rfl)) rfl ⟨rfl, R.out.r.ends.2⟩
        · have Z0 : Hid (relF x p = (0, 0)) := Lib.hid (by
            obtain rfl : k = nc := by omega
            rw [W0.out, if_pos FD.out, firstN_none HALL.out])
          have g0 := blk_cell (j := 0) HR.out.b2 rfl
          have g1 := blk_cell (j := 1) HR.out.b2 rfl
          have g2 := blk_free 0 HR.out.b2
          have g3 := blk_free 1 HR.out.b2
          obtain ⟨k0, k1, k2, k3, k4, k5, k6, k7, k8, k9⟩ := HR.out.cells
          go_wp2_with fail
          rw [Z0.out]
          exact bodyPost_ret (results_cell_row rfl _ _ (w.heap.size + 1 + 1) 29 _ (0, 0) _ rfl HR.out.ends.1 Try.underlying29 rfl (by kernel_rfl)) rfl ⟨rfl, HR.out.ends.2⟩

end Go.Proofs.Ytccmgaibikiedaa.Dc
