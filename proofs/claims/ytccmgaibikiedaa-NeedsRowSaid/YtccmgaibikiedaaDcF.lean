/- Recipes as arguments: which packages are more than is gone through. -/
import Derived.Test.YtccmgaibikiedaaDcE
namespace Go.Proofs.Ytccmgaibikiedaa.Dc
open Go.RowKit
set_option linter.unusedVariables false
set_option linter.unusedSimpArgs false
section
variable {w : World} {B : Nat}
theorem dep_at {A : Option Addr} {n c i : Nat} {l : List Dep} (h : Sl Dep 7 depD w B A n c l) (hi : i < n) : ∃ d b o A1 n1 c1 A2 n2 c2 A3 n3 c3 A4 n4 c4, l[i]? = some d ∧ A = some ⟨b, o, none⟩ ∧ b < B ∧
    w.cell? ⟨b, o + i * 7, none⟩ = some (.string d.on.name) ∧ w.cell? ⟨b, o + i * 7 + 1, none⟩ = some (.slice A1 n1 c1) ∧ w.cell? ⟨b, o + i * 7 + 2, none⟩ = some (.slice A2 n2 c2) ∧
    w.cell? ⟨b, o + i * 7 + 3, none⟩ = some (.string d.cond.name) ∧ w.cell? ⟨b, o + i * 7 + 4, none⟩ = some (.slice A3 n3 c3) ∧ w.cell? ⟨b, o + i * 7 + 5, none⟩ = some (.slice A4 n4 c4) ∧ w.cell? ⟨b, o + i * 7 + 6, none⟩ = some (.int .i64 d.line) ∧
    spD w B [.string d.on.name, .slice A1 n1 c1, .slice A2 n2 c2] d.on ∧ spD w B [.string d.cond.name, .slice A3 n3 c3, .slice A4 n4 c4] d.cond := by
  obtain ⟨y, b, o, vs, h1, h2, h3, h4, h5, h6⟩ := h.at hi
  obtain ⟨v1, v2, rfl, z1, z2⟩ := dep_cells h6
  obtain ⟨A1, n1, c1, A2, n2, c2, rfl, -⟩ := sp_cells z1
  obtain ⟨A3, n3, c3, A4, n4, c4, rfl, -⟩ := sp_cells z2
  exact ⟨y, b, o, A1, n1, c1, A2, n2, c2, A3, n3, c3, A4, n4, c4, h1, h2, h3, h5 0 (by decide), h5 1 (by decide), h5 2 (by decide), h5 3 (by decide), h5 4 (by decide), h5 5 (by decide), h5 6 (by decide), z1, z2⟩
end
def gVr (v : Vr) : Bool := gText v.1 || gTexts v.2
def gDep (d : Dep) : Bool := gSp d.on || gSp d.cond
def gRel (r : Rel) : Bool := gText r.1
def gPk (x : Pk) : Bool := gText x.name || decide (30 < x.rels.length) || decide (20 < x.vars.length) || decide (40 < x.deps.length) || decide (40 < x.confs.length) || gTexts x.provs || gTexts x.files ||
  (x.rels.any gRel || (x.vars.any gVr || (x.deps.any gDep || x.confs.any gDep)))
set_option maxHeartbeats 8000000 in
set_option maxRecDepth 100000 in
theorem greatPackage_any {w : World} {B : Nat} {x : Pk} {cs : List Value} (h : pkD w B cs x) (hB : B ≤ w.heap.size) : Calls Try.prog 31 #[.agg cs.toArray] w fun e w' => e = .returned (.bool (gPk x)) ∧ Below w.heap.size w w' := by
  obtain ⟨Ar, nr, cr, Av, nv, cv, Ap, np, cp, Ad, nd, cd, Ac, nc, cc, Af, nf, cf, rfl, hc⟩ := pk_cells h
  obtain ⟨nm, ln, rels, vars, provs, deps, confs, files⟩ := x
  obtain ⟨z0, s1, s2, s3, s4, s5, s6⟩ := hc
  simp only [] at z0 s1 s2 s3 s4 s5 s6 ⊢
  unfold maxLen at z0
  have bb : Below B w (w.alloc (.cells #[.string nm, .int .i64 ln, .slice Ar nr cr, .slice Av nv cv, .slice Ap np cp, .slice Ad nd cd, .slice Ac nc cc, .slice Af nf cf] 45)) := (Below.refl B w).alloc hB _
  have BB : Hid (B ≤ (w.alloc (.cells #[.string nm, .int .i64 ln, .slice Ar nr cr, .slice Av nv cv, .slice Ap np cp, .slice Ad nd cd, .slice Ac nc cc, .slice Af nf cf] 45)).heap.size) := Lib.hid (Nat.le_trans hB bb.size)
  have S1 := Lib.hid (s1.below rel_stays (Nat.le_refl B) bb)
  have S2 := Lib.hid (s2.below vr_stays (Nat.le_refl B) bb)
  have S3 := Lib.hid (s3.below strD_stays (Nat.le_refl B) bb)
  have S4 := Lib.hid (s4.below dep_stays (Nat.le_refl B) bb)
  have S5 := Lib.hid (s5.below dep_stays (Nat.le_refl B) bb)
  have S6 := Lib.hid (s6.below strD_stays (Nat.le_refl B) bb)
  have B0 : Hid (Below w.heap.size w (w.alloc (.cells #[.string nm, .int .i64 ln, .slice Ar nr cr, .slice Av nv cv, .slice Ap np cp, .slice Ad nd cd, .slice Ac nc cc, .slice Af nf cf] 45))) := Lib.hid ((Below.refl _ _).alloc (Nat.le_refl _) _)
  have LT : Hid (w.heap.size < (w.alloc (.cells #[.string nm, .int .i64 ln, .slice Ar nr cr, .slice Av nv cv, .slice Ap np cp, .slice Ad nd cd, .slice Ac nc cc, .slice Af nf cf] 45)).heap.size) := Lib.hid (by simp)
  have k0 : (w.alloc (.cells #[.string nm, .int .i64 ln, .slice Ar nr cr, .slice Av nv cv, .slice Ap np cp, .slice Ad nd cd, .slice Ac nc cc, .slice Af nf cf] 45)).cell? ⟨w.heap.size, 0, none⟩ = some (.string nm) := blk_cell (heap_alloc_new w _) rfl
  have k2 : (w.alloc (.cells #[.string nm, .int .i64 ln, .slice Ar nr cr, .slice Av nv cv, .slice Ap np cp, .slice Ad nd cd, .slice Ac nc cc, .slice Af nf cf] 45)).cell? ⟨w.heap.size, 2, none⟩ = some (.slice Ar nr cr) := blk_cell (heap_alloc_new w _) rfl
  have k3 : (w.alloc (.cells #[.string nm, .int .i64 ln, .slice Ar nr cr, .slice Av nv cv, .slice Ap np cp, .slice Ad nd cd, .slice Ac nc cc, .slice Af nf cf] 45)).cell? ⟨w.heap.size, 3, none⟩ = some (.slice Av nv cv) := blk_cell (heap_alloc_new w _) rfl
  have k4 : (w.alloc (.cells #[.string nm, .int .i64 ln, .slice Ar nr cr, .slice Av nv cv, .slice Ap np cp, .slice Ad nd cd, .slice Ac nc cc, .slice Af nf cf] 45)).cell? ⟨w.heap.size, 4, none⟩ = some (.slice Ap np cp) := blk_cell (heap_alloc_new w _) rfl
  have k5 : (w.alloc (.cells #[.string nm, .int .i64 ln, .slice Ar nr cr, .slice Av nv cv, .slice Ap np cp, .slice Ad nd cd, .slice Ac nc cc, .slice Af nf cf] 45)).cell? ⟨w.heap.size, 5, none⟩ = some (.slice Ad nd cd) := blk_cell (heap_alloc_new w _) rfl
  have k6 : (w.alloc (.cells #[.string nm, .int .i64 ln, .slice Ar nr cr, .slice Av nv cv, .slice Ap np cp, .slice Ad nd cd, .slice Ac nc cc, .slice Af nf cf] 45)).cell? ⟨w.heap.size, 6, none⟩ = some (.slice Ac nc cc) := blk_cell (heap_alloc_new w _) rfl
  have k7 : (w.alloc (.cells #[.string nm, .int .i64 ln, .slice Ar nr cr, .slice Av nv cv, .slice Ap np cp, .slice Ad nd cd, .slice Ac nc cc, .slice Af nf cf] 45)).cell? ⟨w.heap.size, 7, none⟩ = some (.slice Af nf cf) := blk_cell (heap_alloc_new w _) rfl
  have n1 := s1.le
  have n2 := s2.le
  have n4 := s4.le
  have n5 := s5.le
  have N1 := Lib.hid s1.len
  have N2 := Lib.hid s2.len
  have N4 := Lib.hid s4.len
  have N5 := Lib.hid s5.len
  clear h s1 s2 s3 s4 s5 s6 bb hB
  show Calls Try.prog _ #[.agg #[.string nm, .int .i64 ln, .slice Ar nr cr, .slice Av nv cv, .slice Ap np cp, .slice Ad nd cd, .slice Ac nc cc, .slice Af nf cf]] w _
  by_cases hn : 100 < (nm.size : Int)
  · have R : Hid (gPk ⟨nm, ln, rels, vars, provs, deps, confs, files⟩ = true) := Lib.hid (by unfold gPk gText; rw [decide_eq_true (p := 100 < nm.size) (by omega)]; simp only [Bool.true_or])
    go_enter Try.func31, Try.ntmps31
    go_wp2_with fail
    go_ret
    rw [R.out]
    exact ⟨rfl, B0.out⟩
  by_cases h1 : 30 < (nr : Int)
  · have R : Hid (gPk ⟨nm, ln, rels, vars, provs, deps, confs, files⟩ = true) := Lib.hid (by unfold gPk; rw [decide_eq_true (p := 30 < rels.length) (by rw [← N1.out]; omega)]; simp only [Bool.true_or, Bool.or_true])
    go_enter Try.func31, Try.ntmps31
    go_wp2_with fail
    go_ret
    rw [R.out]
    exact ⟨rfl, B0.out⟩
  by_cases h2 : 20 < (nv : Int)
  · have R : Hid (gPk ⟨nm, ln, rels, vars, provs, deps, confs, files⟩ = true) := Lib.hid (by unfold gPk; rw [decide_eq_true (p := 20 < vars.length) (by rw [← N2.out]; omega)]; simp only [Bool.true_or, Bool.or_true])
    go_enter Try.func31, Try.ntmps31
    go_wp2_with fail
    go_ret
    rw [R.out]
    exact ⟨rfl, B0.out⟩
  by_cases h4 : 40 < (nd : Int)
  · have R : Hid (gPk ⟨nm, ln, rels, vars, provs, deps, confs, files⟩ = true) := Lib.hid (by unfold gPk; rw [decide_eq_true (p := 40 < deps.length) (by rw [← N4.out]; omega)]; simp only [Bool.true_or, Bool.or_true])
    go_enter Try.func31, Try.ntmps31
    go_wp2_with fail
    go_ret
    rw [R.out]
    exact ⟨rfl, B0.out⟩
  by_cases h5 : 40 < (nc : Int)
  · have R : Hid (gPk ⟨nm, ln, rels, vars, provs, deps, confs, files⟩ = true) := Lib.hid (by unfold gPk; rw [decide_eq_true (p := 40 < confs.length) (by rw [← N5.out]; omega)]; simp only [Bool.true_or, Bool.or_true])
    go_enter Try.func31, Try.ntmps31
    go_wp2_with fail
    go_ret
    rw [R.out]
    exact ⟨rfl, B0.out⟩
  obtain ⟨gp, hgp⟩ : ∃ g, g = gTexts provs := ⟨_, rfl⟩
  obtain ⟨gf, hgf⟩ : ∃ g, g = gTexts files := ⟨_, rfl⟩
  have R1 : Hid (gPk ⟨nm, ln, rels, vars, provs, deps, confs, files⟩ = (gp || gf || (rels.any gRel || (vars.any gVr || (deps.any gDep || confs.any gDep))))) := Lib.hid (by
    unfold gPk gText
    rw [decide_eq_false (p := 100 < nm.size) (by omega), decide_eq_false (p := 30 < rels.length) (by rw [← N1.out]; omega), decide_eq_false (p := 20 < vars.length) (by rw [← N2.out]; omega), decide_eq_false (p := 40 < deps.length) (by rw [← N4.out]; omega), decide_eq_false (p := 40 < confs.length) (by rw [← N5.out]; omega), hgp, hgf]
    rfl)
  have CP : Hid (Calls Try.prog 32 #[.slice Ap np cp] (w.alloc (.cells #[.string nm, .int .i64 ln, .slice Ar nr cr, .slice Av nv cv, .slice Ap np cp, .slice Ad nd cd, .slice Ac nc cc, .slice Af nf cf] 45)) fun e w' => e = .returned (.bool gp) ∧ (w.alloc (.cells #[.string nm, .int .i64 ln, .slice Ar nr cr, .slice Av nv cv, .slice Ap np cp, .slice Ad nd cd, .slice Ac nc cc, .slice Af nf cf] 45)) = w') := Lib.hid (by rw [hgp]; exact greatTexts_any S3.out)
  have CF : Hid (Calls Try.prog 32 #[.slice Af nf cf] (w.alloc (.cells #[.string nm, .int .i64 ln, .slice Ar nr cr, .slice Av nv cv, .slice Ap np cp, .slice Ad nd cd, .slice Ac nc cc, .slice Af nf cf] 45)) fun e w' => e = .returned (.bool gf) ∧ (w.alloc (.cells #[.string nm, .int .i64 ln, .slice Ar nr cr, .slice Av nv cv, .slice Ap np cp, .slice Ad nd cd, .slice Ac nc cc, .slice Af nf cf] 45)) = w') := Lib.hid (by rw [hgf]; exact greatTexts_any S6.out)
  clear hgp hgf
  cases gp
  case true =>
    have R2 : Hid (gPk ⟨nm, ln, rels, vars, provs, deps, confs, files⟩ = true) := Lib.hid (by rw [R1.out]; rfl)
    go_enter Try.func31, Try.ntmps31
    go_wp2_with (go_at_call 32; refine CP.out.mono ?_; rintro e w1 ⟨rfl, rfl⟩)
    go_ret
    rw [R2.out]
    exact ⟨rfl, B0.out⟩
  cases gf
  case true =>
    have R2 : Hid (gPk ⟨nm, ln, rels, vars, provs, deps, confs, files⟩ = true) := Lib.hid (by rw [R1.out]; rfl)
    go_enter Try.func31, Try.ntmps31
    go_wp2_with (first | (go_at_call 32; (with_reducible refine CP.out.mono ?_); rintro e w1 ⟨rfl, rfl⟩) | (go_at_call 32; (with_reducible refine CF.out.mono ?_); rintro e w1 ⟨rfl, rfl⟩))
    go_ret
    rw [R2.out]
    exact ⟨rfl, B0.out⟩
  have R3 : Hid (gPk ⟨nm, ln, rels, vars, provs, deps, confs, files⟩ = (rels.any gRel || (vars.any gVr || (deps.any gDep || confs.any gDep)))) := Lib.hid (by rw [R1.out]; rfl)
  clear R1
  go_enter Try.func31, Try.ntmps31
  go_wp2_with (first | (go_at_call 32; (with_reducible refine CP.out.mono ?_); rintro e w1 ⟨rfl, rfl⟩) | (go_at_call 32; (with_reducible refine CF.out.mono ?_); rintro e w1 ⟨rfl, rfl⟩))
  clear CP CF
  go_loopw [3, 48] (fun _ v wq => ∃ i : Nat, v = .int .i64 i ∧ i ≤ nr ∧ (rels.take i).any gRel = false ∧ wq = (w.alloc (.cells #[.string nm, .int .i64 ln, .slice Ar nr cr, .slice Av nv cv, .slice Ap np cp, .slice Ad nd cd, .slice Ac nc cc, .slice Af nf cf] 45))) (fun _ v _ => nr - (intOf v).toNat)
  case atStart => exact ⟨0, rfl, Nat.zero_le _, rfl, by first | rfl | trivial⟩
  case round =>
    obtain ⟨i, rfl, hi, hp, rfl⟩ := hrel
    have HP := Lib.hid hp
    clear hp
    by_cases hlt : i < nr
    · have hlt' : (i : Int) < (nr : Int) := by omega
      obtain ⟨⟨s, old⟩, b, o, t1, rfl, t3, x0, x1, s5⟩ := rel_at S1.out hlt
      simp only [] at x0 x1 s5
      have T1 := Lib.hid t1
      clear t1
      unfold maxLen at s5
      by_cases hs : 100 < (s.size : Int)
      · have R2 : Hid (gPk ⟨nm, ln, rels, vars, provs, deps, confs, files⟩ = true) := Lib.hid (by rw [R3.out, any_hit T1.out (show gRel (s, old) = true by unfold gRel gText; exact decide_eq_true (by show 100 < s.size; omega))]; rfl)
        go_wp2_with fail
        go_ret
        rw [R2.out]
        exact ⟨rfl, B0.out⟩
      · have HP2 : Hid ((rels.take (i + 1)).any gRel = false) := Lib.hid (any_next T1.out HP.out (by unfold gRel gText; exact decide_eq_false (by show ¬ 100 < s.size; omega)))
        go_wp2_with fail
        go_roundw
        case rel => exact ⟨i + 1, by go_num, by omega, HP2.out, by first | rfl | trivial⟩
        case measure => simp [intOf]; omega
    · have R4 : Hid (gPk ⟨nm, ln, rels, vars, provs, deps, confs, files⟩ = (vars.any gVr || (deps.any gDep || confs.any gDep))) := Lib.hid (by
        have h := HP.out
        rw [take_all (by have := N1.out; omega)] at h
        rw [R3.out, h]; rfl)
      clear HP R3
      go_wp2_with fail
      go_loopw [4, 63] (fun _ v wq => ∃ k : Nat, v = .int .i64 k ∧ k ≤ nv ∧ (vars.take k).any gVr = false ∧ wq = (w.alloc (.cells #[.string nm, .int .i64 ln, .slice Ar nr cr, .slice Av nv cv, .slice Ap np cp, .slice Ad nd cd, .slice Ac nc cc, .slice Af nf cf] 45))) (fun _ v _ => nv - (intOf v).toNat)
      case atStart => exact ⟨0, rfl, Nat.zero_le _, rfl, by first | rfl | trivial⟩
      case round =>
        obtain ⟨k, rfl, hk, hp, rfl⟩ := hrel
        have HP := Lib.hid hp
        clear hp
        by_cases hlt2 : k < nv
        · have hlt2' : (k : Int) < (nv : Int) := by omega
          obtain ⟨⟨s, tl⟩, b, o, A', n', c', t1, rfl, t3, x0, x1, s5, st⟩ := vr_at S2.out hlt2
          simp only [] at x0 x1 s5 st
          have T1 := Lib.hid t1
          have ST := Lib.hid st
          clear t1 st
          unfold maxLen at s5
          by_cases hs : 100 < (s.size : Int)
          · have R2 : Hid (gPk ⟨nm, ln, rels, vars, provs, deps, confs, files⟩ = true) := Lib.hid (by rw [R4.out, any_hit T1.out (show gVr (s, tl) = true by unfold gVr gText; rw [decide_eq_true (by show 100 < s.size; omega)]; rfl)]; rfl)
            go_wp2_with fail
            go_ret
            rw [R2.out]
            exact ⟨rfl, B0.out⟩
          · obtain ⟨gt, hgt⟩ : ∃ g, g = gTexts tl := ⟨_, rfl⟩
            have CT := Lib.hid (greatTexts_any ST.out)
            rw [← hgt] at CT
            have VT : Hid (gVr (s, tl) = gt) := Lib.hid (by rw [hgt]; unfold gVr gText; rw [decide_eq_false (by show ¬ 100 < s.size; omega)]; rfl)
            clear hgt
            cases gt
            case true =>
              have R2 : Hid (gPk ⟨nm, ln, rels, vars, provs, deps, confs, files⟩ = true) := Lib.hid (by rw [R4.out, any_hit T1.out VT.out]; rfl)
              go_wp2_with (go_at_call 32; refine CT.out.mono ?_; rintro e w1 ⟨rfl, rfl⟩)
              go_ret
              rw [R2.out]
              exact ⟨rfl, B0.out⟩
            have HP2 : Hid ((vars.take (k + 1)).any gVr = false) := Lib.hid (any_next T1.out HP.out VT.out)
            go_wp2_with (go_at_call 32; refine CT.out.mono ?_; rintro e w1 ⟨rfl, rfl⟩)
            go_roundw
            case rel => exact ⟨k + 1, by go_num, by omega, HP2.out, by first | rfl | trivial⟩
            case measure => simp [intOf]; omega
        · have R5 : Hid (gPk ⟨nm, ln, rels, vars, provs, deps, confs, files⟩ = (deps.any gDep || confs.any gDep)) := Lib.hid (by
            have h := HP.out
            rw [take_all (by have := N2.out; omega)] at h
            rw [R4.out, h]; rfl)
          clear HP R4
          go_wp2_with fail
          clear k0 k2 k3 k4 k7
          go_loopw [5, 87] (fun _ v wq => ∃ j : Nat, v = .int .i64 j ∧ j ≤ nd ∧ (deps.take j).any gDep = false ∧ Below (w.alloc (.cells #[.string nm, .int .i64 ln, .slice Ar nr cr, .slice Av nv cv, .slice Ap np cp, .slice Ad nd cd, .slice Ac nc cc, .slice Af nf cf] 45)).heap.size (w.alloc (.cells #[.string nm, .int .i64 ln, .slice Ar nr cr, .slice Av nv cv, .slice Ap np cp, .slice Ad nd cd, .slice Ac nc cc, .slice Af nf cf] 45)) wq) (fun _ v _ => nd - (intOf v).toNat)
          case atStart => exact ⟨0, rfl, Nat.zero_le _, rfl, Below.refl _ _⟩
          case round =>
            obtain ⟨j, rfl, hj, hp, hbw⟩ := hrel
            have HP := Lib.hid hp
            have BW := Lib.hid hbw
            clear hp
            have kq := (hbw.cell (p := ⟨w.heap.size, 5, none⟩) LT.out).trans k5
            have kr := (hbw.cell (p := ⟨w.heap.size, 6, none⟩) LT.out).trans k6
            have BE : Hid (Below w.heap.size w wr) := Lib.hid (B0.out.trans (hbw.mono (Nat.le_of_lt LT.out)))
            have SW := Lib.hid ((S4.out).below dep_stays (Nat.le_refl B) (hbw.mono BB.out))
            have BQ : Hid (B ≤ wr.heap.size) := Lib.hid (Nat.le_trans BB.out hbw.size)
            clear hbw
            by_cases hltX : j < nd
            · have hltX' : (j : Int) < (nd : Int) := by omega
              obtain ⟨d, b, o, A1, m1, c1, A2, m2, c2, A3, m3, c3, A4, m4, c4, t1, rfl, t3, x0, x1, x2, x3, x4, x5, -, d1, d2⟩ := dep_at SW.out hltX
              have T1 := Lib.hid t1
              obtain ⟨y1, hy1⟩ : ∃ y, y = d.on.name := ⟨_, rfl⟩
              obtain ⟨y2, hy2⟩ : ∃ y, y = d.cond.name := ⟨_, rfl⟩
              rw [← hy1] at x0 d1
              rw [← hy2] at x3 d2
              obtain ⟨g1, hg1⟩ : ∃ g, g = gSp d.on := ⟨_, rfl⟩
              obtain ⟨g2, hg2⟩ : ∃ g, g = gSp d.cond := ⟨_, rfl⟩
              have DG : Hid (gDep d = (g1 || g2)) := Lib.hid (by unfold gDep; rw [hg1, hg2])
              have C1 : Hid (Calls Try.prog 55 #[.agg #[.string y1, .slice A1 m1 c1, .slice A2 m2 c2]] wr fun e w' => e = .returned (.bool g1) ∧ Below wr.heap.size wr w') := Lib.hid (by rw [hg1]; exact greatSpec_any d1 BQ.out)
              have D2 : Hid (∀ w2, Below wr.heap.size wr w2 → Calls Try.prog 55 #[.agg #[.string y2, .slice A3 m3 c3, .slice A4 m4 c4]] w2 fun e w' => e = .returned (.bool g2) ∧ Below w2.heap.size w2 w') := Lib.hid (fun w2 hb => by rw [hg2]; exact greatSpec_any (sp_stays _ _ _ _ _ _ d2 (Nat.le_refl B) (hb.mono BQ.out)) (Nat.le_trans BQ.out hb.size))
              have TB : Hid (b < wr.heap.size) := Lib.hid (Nat.lt_of_lt_of_le t3 BQ.out)
              clear t1 d1 d2 hg1 hg2 hy1 hy2
              cases g1
              case true =>
                have R2 : Hid (gPk ⟨nm, ln, rels, vars, provs, deps, confs, files⟩ = true) := Lib.hid (by rw [R5.out, any_hit T1.out DG.out]; try rfl)
                go_wp2_with (go_at_call 55; (with_reducible refine C1.out.mono ?_); rintro e w1 ⟨rfl, hb1⟩; have BZ := Lib.hid (BE.out.trans (hb1.mono BE.out.size)); clear hb1)
                go_ret
                rw [R2.out]
                exact ⟨rfl, BZ.out⟩
              cases g2
              case true =>
                have R2 : Hid (gPk ⟨nm, ln, rels, vars, provs, deps, confs, files⟩ = true) := Lib.hid (by rw [R5.out, any_hit T1.out DG.out]; try rfl)
                go_wp2_with (first | (go_at_call 55; (with_reducible refine C1.out.mono ?_); rintro e w1 ⟨rfl, hb1⟩; have HB1 := Lib.hid hb1; have q := (hb1.cell (p := ⟨w.heap.size, 5, none⟩) (Nat.lt_of_lt_of_le LT.out BW.out.size)).trans kq; have y3 := (hb1.cell (p := ⟨b, o + j * 7 + 3, none⟩) TB.out).trans x3; have y4 := (hb1.cell (p := ⟨b, o + j * 7 + 4, none⟩) TB.out).trans x4; have y5 := (hb1.cell (p := ⟨b, o + j * 7 + 5, none⟩) TB.out).trans x5; clear hb1) | (go_at_call 55; (with_reducible refine (D2.out _ HB1.out).mono ?_); rintro e w2 ⟨rfl, hb2⟩; have BZ := Lib.hid (BE.out.trans ((HB1.out.trans (hb2.mono HB1.out.size)).mono BE.out.size)); clear hb2))
                go_ret
                rw [R2.out]
                exact ⟨rfl, BZ.out⟩
              have HP2 : Hid ((deps.take (j + 1)).any gDep = false) := Lib.hid (any_next T1.out HP.out DG.out)
              go_wp2_with (first | (go_at_call 55; (with_reducible refine C1.out.mono ?_); rintro e w1 ⟨rfl, hb1⟩; have HB1 := Lib.hid hb1; have q := (hb1.cell (p := ⟨w.heap.size, 5, none⟩) (Nat.lt_of_lt_of_le LT.out BW.out.size)).trans kq; have y3 := (hb1.cell (p := ⟨b, o + j * 7 + 3, none⟩) TB.out).trans x3; have y4 := (hb1.cell (p := ⟨b, o + j * 7 + 4, none⟩) TB.out).trans x4; have y5 := (hb1.cell (p := ⟨b, o + j * 7 + 5, none⟩) TB.out).trans x5; clear hb1) | (go_at_call 55; (with_reducible refine (D2.out _ HB1.out).mono ?_); rintro e w2 ⟨rfl, hb2⟩; have BZ := Lib.hid (BW.out.trans ((HB1.out.trans (hb2.mono HB1.out.size)).mono BW.out.size)); clear hb2))
              go_roundw
              case rel => exact ⟨j + 1, by go_num, by omega, HP2.out, BZ.out⟩
              case measure => simp [intOf]; omega
            · have R6 : Hid (gPk ⟨nm, ln, rels, vars, provs, deps, confs, files⟩ = confs.any gDep) := Lib.hid (by
                have h := HP.out
                rw [take_all (by have := N4.out; omega)] at h
                rw [R5.out, h]; rfl)
              clear HP R5
              go_wp2_with fail
              go_loopw [6, 110] (fun _ v wq => ∃ j : Nat, v = .int .i64 j ∧ j ≤ nc ∧ (confs.take j).any gDep = false ∧ Below (w.alloc (.cells #[.string nm, .int .i64 ln, .slice Ar nr cr, .slice Av nv cv, .slice Ap np cp, .slice Ad nd cd, .slice Ac nc cc, .slice Af nf cf] 45)).heap.size (w.alloc (.cells #[.string nm, .int .i64 ln, .slice Ar nr cr, .slice Av nv cv, .slice Ap np cp, .slice Ad nd cd, .slice Ac nc cc, .slice Af nf cf] 45)) wq) (fun _ v _ => nc - (intOf v).toNat)
              case atStart => exact ⟨0, rfl, Nat.zero_le _, rfl, BW.out⟩
              case round =>
                obtain ⟨j, rfl, hj, hp, hbw⟩ := hrel
                have HP := Lib.hid hp
                have BW := Lib.hid hbw
                clear hp
                have kq := (hbw.cell (p := ⟨w.heap.size, 6, none⟩) LT.out).trans k6
                have BE : Hid (Below w.heap.size w wr) := Lib.hid (B0.out.trans (hbw.mono (Nat.le_of_lt LT.out)))
                have SW := Lib.hid ((S5.out).below dep_stays (Nat.le_refl B) (hbw.mono BB.out))
                have BQ : Hid (B ≤ wr.heap.size) := Lib.hid (Nat.le_trans BB.out hbw.size)
                clear hbw
                by_cases hltX : j < nc
                · have hltX' : (j : Int) < (nc : Int) := by omega
                  obtain ⟨d, b, o, A1, m1, c1, A2, m2, c2, A3, m3, c3, A4, m4, c4, t1, rfl, t3, x0, x1, x2, x3, x4, x5, -, d1, d2⟩ := dep_at SW.out hltX
                  have T1 := Lib.hid t1
                  obtain ⟨y1, hy1⟩ : ∃ y, y = d.on.name := ⟨_, rfl⟩
                  obtain ⟨y2, hy2⟩ : ∃ y, y = d.cond.name := ⟨_, rfl⟩
                  rw [← hy1] at x0 d1
                  rw [← hy2] at x3 d2
                  obtain ⟨g1, hg1⟩ : ∃ g, g = gSp d.on := ⟨_, rfl⟩
                  obtain ⟨g2, hg2⟩ : ∃ g, g = gSp d.cond := ⟨_, rfl⟩
                  have DG : Hid (gDep d = (g1 || g2)) := Lib.hid (by unfold gDep; rw [hg1, hg2])
                  have C1 : Hid (Calls Try.prog 55 #[.agg #[.string y1, .slice A1 m1 c1, .slice A2 m2 c2]] wr fun e w' => e = .returned (.bool g1) ∧ Below wr.heap.size wr w') := Lib.hid (by rw [hg1]; exact greatSpec_any d1 BQ.out)
                  have D2 : Hid (∀ w2, Below wr.heap.size wr w2 → Calls Try.prog 55 #[.agg #[.string y2, .slice A3 m3 c3, .slice A4 m4 c4]] w2 fun e w' => e = .returned (.bool g2) ∧ Below w2.heap.size w2 w') := Lib.hid (fun w2 hb => by rw [hg2]; exact greatSpec_any (sp_stays _ _ _ _ _ _ d2 (Nat.le_refl B) (hb.mono BQ.out)) (Nat.le_trans BQ.out hb.size))
                  have TB : Hid (b < wr.heap.size) := Lib.hid (Nat.lt_of_lt_of_le t3 BQ.out)
                  clear t1 d1 d2 hg1 hg2 hy1 hy2
                  cases g1
                  case true =>
                    have R2 : Hid (gPk ⟨nm, ln, rels, vars, provs, deps, confs, files⟩ = true) := Lib.hid (by rw [R6.out, any_hit T1.out DG.out]; try rfl)
                    go_wp2_with (go_at_call 55; (with_reducible refine C1.out.mono ?_); rintro e w1 ⟨rfl, hb1⟩; have BZ := Lib.hid (BE.out.trans (hb1.mono BE.out.size)); clear hb1)
                    go_ret
                    rw [R2.out]
                    exact ⟨rfl, BZ.out⟩
                  cases g2
                  case true =>
                    have R2 : Hid (gPk ⟨nm, ln, rels, vars, provs, deps, confs, files⟩ = true) := Lib.hid (by rw [R6.out, any_hit T1.out DG.out]; try rfl)
                    go_wp2_with (first | (go_at_call 55; (with_reducible refine C1.out.mono ?_); rintro e w1 ⟨rfl, hb1⟩; have HB1 := Lib.hid hb1; have q := (hb1.cell (p := ⟨w.heap.size, 6, none⟩) (Nat.lt_of_lt_of_le LT.out BW.out.size)).trans kq; have y3 := (hb1.cell (p := ⟨b, o + j * 7 + 3, none⟩) TB.out).trans x3; have y4 := (hb1.cell (p := ⟨b, o + j * 7 + 4, none⟩) TB.out).trans x4; have y5 := (hb1.cell (p := ⟨b, o + j * 7 + 5, none⟩) TB.out).trans x5; clear hb1) | (go_at_call 55; (with_reducible refine (D2.out _ HB1.out).mono ?_); rintro e w2 ⟨rfl, hb2⟩; have BZ := Lib.hid (BE.out.trans ((HB1.out.trans (hb2.mono HB1.out.size)).mono BE.out.size)); clear hb2))
                    go_ret
                    rw [R2.out]
                    exact ⟨rfl, BZ.out⟩
                  have HP2 : Hid ((confs.take (j + 1)).any gDep = false) := Lib.hid (any_next T1.out HP.out DG.out)
                  go_wp2_with (first | (go_at_call 55; (with_reducible refine C1.out.mono ?_); rintro e w1 ⟨rfl, hb1⟩; have HB1 := Lib.hid hb1; have q := (hb1.cell (p := ⟨w.heap.size, 6, none⟩) (Nat.lt_of_lt_of_le LT.out BW.out.size)).trans kq; have y3 := (hb1.cell (p := ⟨b, o + j * 7 + 3, none⟩) TB.out).trans x3; have y4 := (hb1.cell (p := ⟨b, o + j * 7 + 4, none⟩) TB.out).trans x4; have y5 := (hb1.cell (p := ⟨b, o + j * 7 + 5, none⟩) TB.out).trans x5; clear hb1) | (go_at_call 55; (with_reducible refine (D2.out _ HB1.out).mono ?_); rintro e w2 ⟨rfl, hb2⟩; have BZ := Lib.hid (BW.out.trans ((HB1.out.trans (hb2.mono HB1.out.size)).mono BW.out.size)); clear hb2))
                  go_roundw
                  case rel => exact ⟨j + 1, by go_num, by omega, HP2.out, BZ.out⟩
                  case measure => simp [intOf]; omega
                · have R7 : Hid (gPk ⟨nm, ln, rels, vars, provs, deps, confs, files⟩ = false) := Lib.hid (by
                    have h := HP.out
                    rw [take_all (by have := N5.out; omega)] at h
                    rw [R6.out, h])
                  go_wp2_with fail
                  go_ret
                  rw [R7.out]
                  exact ⟨rfl, BE.out⟩

end Go.Proofs.Ytccmgaibikiedaa.Dc
