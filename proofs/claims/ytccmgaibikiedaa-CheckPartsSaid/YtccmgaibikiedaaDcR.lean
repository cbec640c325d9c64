/- Recipes: is a condition's settings' each one of a package: the document's answer. -/
import Derived.Test.YtccmgaibikiedaaDcS
namespace Go.Proofs.Ytccmgaibikiedaa.Dc
open Go.RowKit
set_option linter.unusedVariables false
set_option linter.unusedSimpArgs false
set_option maxHeartbeats 8000000 in
set_option maxRecDepth 100000 in
theorem settings_any {w : World} {B : Nat} {p : Pk} {ps : List Value} {A : Option Addr} {n c : Nat} {sets : List Pr2} (h : pkD w B ps p) (h2 : Sl Pr2 2 pr2D w B A n c sets) (hB : B ≤ w.heap.size) : Calls Try.prog 67 #[.agg ps.toArray, .slice A n c] w fun e w' => e = .returned (.bool (condB p.vars sets)) ∧ Below w.heap.size w w' := by
  obtain ⟨Ar, nr, cr, Av, nv, cv, Ap, np, cp, Ad, nd, cd, Ac, nc, cc, Af, nf, cf, rfl, hc⟩ := pk_cells h
  obtain ⟨nm, ln, rels, vars, provs, deps, confs, files⟩ := p
  have s2 := hc.vars
  simp only [] at s2 ⊢
  have bb : Below B w (w.alloc (.cells #[.string nm, .int .i64 ln, .slice Ar nr cr, .slice Av nv cv, .slice Ap np cp, .slice Ad nd cd, .slice Ac nc cc, .slice Af nf cf] 45)) := (Below.refl B w).alloc hB _
  have B0 : Hid (Below w.heap.size w (w.alloc (.cells #[.string nm, .int .i64 ln, .slice Ar nr cr, .slice Av nv cv, .slice Ap np cp, .slice Ad nd cd, .slice Ac nc cc, .slice Af nf cf] 45))) := Lib.hid ((Below.refl _ _).alloc (Nat.le_refl _) _)
  have k3 : (w.alloc (.cells #[.string nm, .int .i64 ln, .slice Ar nr cr, .slice Av nv cv, .slice Ap np cp, .slice Ad nd cd, .slice Ac nc cc, .slice Af nf cf] 45)).cell? ⟨w.heap.size, 3, none⟩ = some (.slice Av nv cv) := blk_cell (heap_alloc_new w _) rfl
  have K3 := Lib.hid k3
  have LT : Hid (w.heap.size < (w.alloc (.cells #[.string nm, .int .i64 ln, .slice Ar nr cr, .slice Av nv cv, .slice Ap np cp, .slice Ad nd cd, .slice Ac nc cc, .slice Af nf cf] 45)).heap.size) := Lib.hid (by simp)
  have SV := Lib.hid (s2.below vr_stays (Nat.le_refl B) bb)
  have ST := Lib.hid (h2.below pr2_stays (Nat.le_refl B) bb)
  have HB : Hid (B ≤ (w.alloc (.cells #[.string nm, .int .i64 ln, .slice Ar nr cr, .slice Av nv cv, .slice Ap np cp, .slice Ad nd cd, .slice Ac nc cc, .slice Af nf cf] 45)).heap.size) := Lib.hid (Nat.le_trans hB B0.out.size)
  have n5 := h2.le
  have n6 := s2.le
  have HN := Lib.hid h2.len
  have HV := Lib.hid s2.len
  clear h h2 hc s2 bb hB k3
  show Calls Try.prog _ #[.agg #[.string nm, .int .i64 ln, .slice Ar nr cr, .slice Av nv cv, .slice Ap np cp, .slice Ad nd cd, .slice Ac nc cc, .slice Af nf cf], .slice A n c] w _
  go_enter Try.func67, Try.ntmps67
  go_wp2_with fail
  go_loopw [5, 6, 7, 10, 16] (fun _ _ _ v _ wq => ∃ i : Nat, v = .int .i64 i ∧ i ≤ n ∧ (sets.take i).all (fun s => vars.any (setV s)) = true ∧ Below (w.alloc (.cells #[.string nm, .int .i64 ln, .slice Ar nr cr, .slice Av nv cv, .slice Ap np cp, .slice Ad nd cd, .slice Ac nc cc, .slice Af nf cf] 45)).heap.size (w.alloc (.cells #[.string nm, .int .i64 ln, .slice Ar nr cr, .slice Av nv cv, .slice Ap np cp, .slice Ad nd cd, .slice Ac nc cc, .slice Af nf cf] 45)) wq) (fun _ _ _ v _ _ => n - (intOf v).toNat)
  case atStart => exact ⟨0, rfl, Nat.zero_le _, rfl, Below.refl _ _⟩
  case round =>
    obtain ⟨i, rfl, hi, hq, hbw⟩ := hrel
    have HQ := Lib.hid hq
    have BW := Lib.hid hbw
    have BE : Hid (Below w.heap.size w wr) := Lib.hid (B0.out.trans (hbw.mono (Nat.le_of_lt LT.out)))
    have k3 := (hbw.cell (p := ⟨w.heap.size, 3, none⟩) LT.out).trans K3.out
    clear hq hbw
    by_cases hlt : i < n
    · have hlt' : (i : Int) < (n : Int) := by omega
      obtain ⟨⟨s, u⟩, sb, so, t1, rfl, t3, x00, x01, -, -⟩ := pr2_at ST.out hlt
      simp only [] at x00 x01
      have T1 := Lib.hid t1
      have XX := Lib.hid (And.intro t3 (And.intro x00 x01))
      clear t1 t3 x00 x01
      go_wp2_with fail
      go_loopw [6, 7, 16] (fun f _ v wq => ∃ k : Nat, v = .int .i64 k ∧ k ≤ nv ∧ f = .bool ((vars.take k).any (setV (s, u))) ∧ Below (w.alloc (.cells #[.string nm, .int .i64 ln, .slice Ar nr cr, .slice Av nv cv, .slice Ap np cp, .slice Ad nd cd, .slice Ac nc cc, .slice Af nf cf] 45)).heap.size (w.alloc (.cells #[.string nm, .int .i64 ln, .slice Ar nr cr, .slice Av nv cv, .slice Ap np cp, .slice Ad nd cd, .slice Ac nc cc, .slice Af nf cf] 45)) wq) (fun _ _ v _ => nv - (intOf v).toNat)
      case atStart => exact ⟨0, rfl, Nat.zero_le _, rfl, BW.out⟩
      case round =>
        obtain ⟨k, rfl, hk, hf, hbq⟩ := hrel
        have BQ := Lib.hid hbq
        have k3 := (hbq.cell (p := ⟨w.heap.size, 3, none⟩) LT.out).trans K3.out
        have SW := Lib.hid (SV.out.below vr_stays (Nat.le_refl B) (hbq.mono HB.out))
        obtain ⟨fb, hfb⟩ : ∃ fb, fb = (vars.take k).any (setV (s, u)) := ⟨_, rfl⟩
        rw [← hfb] at hf
        subst hf
        have HF := Lib.hid hfb
        have x0 := (hbq.cell (p := ⟨sb, so + i * 2, none⟩) (Nat.lt_of_lt_of_le XX.out.1 HB.out)).trans XX.out.2.1
        have x1 := (hbq.cell (p := ⟨sb, so + i * 2 + 1, none⟩) (Nat.lt_of_lt_of_le XX.out.1 HB.out)).trans XX.out.2.2
        clear hbq hfb
        by_cases hlk : k < nv
        · have hlk' : (k : Int) < (nv : Int) := by omega
          obtain ⟨⟨vn, vl⟩, vb, vo, A', m', c', t2, rfl, t3, y0, y1, -, st⟩ := vr_at SW.out hlk
          simp only [] at y0 st
          have NX := Lib.hid (show (vars.take (k + 1)).any (setV (s, u)) = (fb || setV (s, u) (vn, vl)) by rw [take_next t2, List.any_append, ← HF.out]; simp)
          obtain ⟨g, hg⟩ : ∃ g, g = hasB vl u := ⟨_, rfl⟩
          have BQD := Lib.hid BQ.out.drew
          have SD := Lib.hid (st.below strD_stays (Nat.le_refl B) (Below.refl B wr).drew)
          have CC := Lib.hid (has_any SD.out u)
          rw [← hg] at CC
          have GV : Hid (setV (s, u) (vn, vl) = ((vn.toList == s.toList) && g)) := Lib.hid (by rw [hg]; rfl)
          clear t2 t3 hg st SD
          cases fb
          case true =>
            have NX2 : Hid ((vars.take (k + 1)).any (setV (s, u)) = true) := Lib.hid (by rw [NX.out]; rfl)
            go_wp2_with fail
            refine reg8_a k3 y0 y1 x0 x1 hlk' hlt' n6 n5 ?_
            go_wp2_with fail
            go_roundw
            case rel => exact ⟨k + 1, by go_num, by omega, by rw [NX2.out], BQD.out⟩
            case measure => simp [intOf]; omega
          cases q : (vn.toList == s.toList)
          case false =>
            have NX2 : Hid ((vars.take (k + 1)).any (setV (s, u)) = false) := Lib.hid (by rw [NX.out, GV.out, q]; rfl)
            go_wp2_with fail
            refine reg8_b q k3 y0 y1 x0 x1 hlk' hlt' n6 n5 ?_
            go_wp2_with fail
            go_roundw
            case rel => exact ⟨k + 1, by go_num, by omega, by rw [NX2.out], BQD.out⟩
            case measure => simp [intOf]; omega
          case true =>
            have NX2 : Hid ((vars.take (k + 1)).any (setV (s, u)) = g) := Lib.hid (by rw [NX.out, GV.out, q]; rfl)
            go_wp2_with fail
            refine reg8_c q CC.out k3 y0 y1 x0 x1 hlk' hlt' n6 n5 ?_
            go_wp2_with fail
            go_roundw
            case rel => exact ⟨k + 1, by go_num, by omega, by rw [NX2.out], BQD.out⟩
            case measure => simp [intOf]; omega
        · have AN : Hid (vars.any (setV (s, u)) = fb) := Lib.hid (by rw [HF.out, take_all (by have := HV.out; omega)])
          cases fb
          case false =>
            have R : Hid (condB vars sets = false) := Lib.hid (all_hit T1.out AN.out)
            go_wp2_with fail
            go_ret
            rw [R.out]
            exact ⟨rfl, B0.out.trans (BQ.out.mono (Nat.le_of_lt LT.out))⟩
          have HQ2 : Hid ((sets.take (i + 1)).all (fun s => vars.any (setV s)) = true) := Lib.hid (all_next T1.out HQ.out AN.out)
          go_wp2_with fail
          go_roundw
          case rel => exact ⟨i + 1, by go_num, by omega, HQ2.out, BQ.out⟩
          case measure => simp [intOf]; omega
    · have R : Hid (condB vars sets = true) := Lib.hid (by
        have h := HQ.out
        rw [take_all (by have := HN.out; omega)] at h
        exact h)
      go_wp2_with fail
      go_ret
      rw [R.out]
      exact ⟨rfl, BE.out⟩

end Go.Proofs.Ytccmgaibikiedaa.Dc
