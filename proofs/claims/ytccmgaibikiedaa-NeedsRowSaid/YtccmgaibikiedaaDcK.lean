/- Recipes: the example: a package without a release. -/
import Derived.Test.YtccmgaibikiedaaDcJ
import Derived.Laws.ResultCell
namespace Go.Proofs.Ytccmgaibikiedaa.Dc
open Go.RowKit
set_option linter.unusedVariables false
set_option linter.unusedSimpArgs false
abbrev probV (c : Nat) (l : Int) : Value := .agg #[.int .u8 c, .int .i64 l]
set_option maxHeartbeats 2000000 in
set_option maxRecDepth 100000 in
theorem counts_fine {w : World} {B : Nat} {x : Rc} {cs : List Value} (h : rcD w B cs x) (hB : B ≤ w.heap.size) (h1 : x.packs.length ≤ 24) (h2 : x.prefs.length ≤ 8) : Calls Try.prog 33 #[.agg cs.toArray] w fun e w' => e = .returned (probV 0 0) ∧ Below w.heap.size w w' := by
  obtain ⟨A1, n1, c1, A2, n2, c2, rfl, s1, s2⟩ := rc_cells h
  have B0 : Hid (Below w.heap.size w ((w.alloc (.cells #[.slice A1 n1 c1, .slice A2 n2 c2] 25)).alloc (.cells #[.int .u8 0, .int .i64 0] 29))) := Lib.hid (((Below.refl _ _).alloc (Nat.le_refl _) _).alloc (by simp) _)
  have m0 : ((w.alloc (.cells #[.slice A1 n1 c1, .slice A2 n2 c2] 25)).alloc (.cells #[.int .u8 0, .int .i64 0] 29)).heap[w.heap.size]? = some (.cells #[.slice A1 n1 c1, .slice A2 n2 c2] 25) := (Below.heap_alloc _ _ _ (by simp)).trans (heap_alloc_new w _)
  have m1 : ((w.alloc (.cells #[.slice A1 n1 c1, .slice A2 n2 c2] 25)).alloc (.cells #[.int .u8 0, .int .i64 0] 29)).heap[w.heap.size + 1]? = some (.cells #[.int .u8 0, .int .i64 0] 29) := by
    have h := heap_alloc_new (w.alloc (.cells #[.slice A1 n1 c1, .slice A2 n2 c2] 25)) (.cells #[.int .u8 0, .int .i64 0] 29)
    rw [World.size_alloc] at h
    exact h
  have k0 : ((w.alloc (.cells #[.slice A1 n1 c1, .slice A2 n2 c2] 25)).alloc (.cells #[.int .u8 0, .int .i64 0] 29)).cell? ⟨w.heap.size, 0, none⟩ = some (.slice A1 n1 c1) := blk_cell m0 rfl
  have k1 : ((w.alloc (.cells #[.slice A1 n1 c1, .slice A2 n2 c2] 25)).alloc (.cells #[.int .u8 0, .int .i64 0] 29)).cell? ⟨w.heap.size, 1, none⟩ = some (.slice A2 n2 c2) := blk_cell m0 rfl
  have j0 : ((w.alloc (.cells #[.slice A1 n1 c1, .slice A2 n2 c2] 25)).alloc (.cells #[.int .u8 0, .int .i64 0] 29)).cell? ⟨w.heap.size + 1, 0, none⟩ = some (.int .u8 0) := blk_cell m1 rfl
  have j1 : ((w.alloc (.cells #[.slice A1 n1 c1, .slice A2 n2 c2] 25)).alloc (.cells #[.int .u8 0, .int .i64 0] 29)).cell? ⟨w.heap.size + 1, 1, none⟩ = some (.int .i64 0) := blk_cell m1 rfl
  have f0 : ((w.alloc (.cells #[.slice A1 n1 c1, .slice A2 n2 c2] 25)).alloc (.cells #[.int .u8 0, .int .i64 0] 29)).frozen? ⟨w.heap.size + 1, 0, none⟩ = false := blk_free 0 m1
  have f1 : ((w.alloc (.cells #[.slice A1 n1 c1, .slice A2 n2 c2] 25)).alloc (.cells #[.int .u8 0, .int .i64 0] 29)).frozen? ⟨w.heap.size + 1, 1, none⟩ = false := blk_free 1 m1
  have M1 := Lib.hid m1
  have z1 : (n1 : Int) ≤ 24 := by have := s1.len; omega
  have z2 : (n2 : Int) ≤ 8 := by have := s2.len; omega
  clear h s1 s2 m0 m1 h1 h2
  show Calls Try.prog _ #[.agg #[.slice A1 n1 c1, .slice A2 n2 c2]] w _
  go_enter Try.func33, Try.ntmps33
  go_wp2_with fail
  exact bodyPost_ret (results_cell_row rfl _ _ (w.heap.size + 1) 29 _ (0, 0) _ rfl M1.out Try.underlying29 rfl (by kernel_rfl)) rfl ⟨rfl, B0.out⟩
set_option maxHeartbeats 2000000 in
set_option maxRecDepth 100000 in
theorem code_norel {w : World} {B : Nat} {x : Rc} {cs : List Value} (h : rcD w B cs x) (hB : B ≤ w.heap.size) (hl : x.packs.length ≤ 1000) {i : Nat} {p : Pk} (hp : x.packs[i]? = some p) (hf : findF x.packs p.name = (i : Int)) (hv : provF x.packs p.name = []) (hr : p.rels = []) :
    Calls Try.prog 34 #[.agg cs.toArray, .int .i64 (i : Nat)] w fun e w' => e = .returned (.int .u8 4) ∧ Below w.heap.size w w' := by
  obtain ⟨A1, n1, c1, A2, n2, c2, hcs, s1, s2⟩ := rc_cells h
  have hi : i < n1 := by
    rw [s1.len]
    rcases Nat.lt_or_ge i x.packs.length with h' | h'
    · exact h'
    · rw [List.getElem?_eq_none h'] at hp; cases hp
  have hi' : (i : Int) < (n1 : Int) := by omega
  have n5 := s1.le
  obtain ⟨q, b, o, Ar, nr, cr, Av, nv, cv, Ap, np, cp, Ad, nd, cd, Ac, nc, cc, Af, nf, cf, t1, hA1, t3, x0, x1, x2, x3, x4, x5, x6, x7, pc, -⟩ := pk_at s1 hi
  obtain rfl : p = q := by rw [t1] at hp; exact (Option.some.inj hp).symm
  obtain rfl : nr = 0 := by rw [pc.rels.len, hr]; rfl
  obtain ⟨y1, hy1⟩ : ∃ y, y = p.name := ⟨_, rfl⟩
  obtain ⟨y2, hy2⟩ : ∃ y, y = p.line := ⟨_, rfl⟩
  rw [← hy1] at x0 hf hv
  rw [← hy2] at x1
  subst hA1
  have bw1 : Below B w (w.alloc (.cells #[.slice (some ⟨b, o, none⟩) n1 c1, .slice A2 n2 c2] 25)) := (Below.refl B w).alloc hB _
  have bw2 : Below B w ((w.alloc (.cells #[.slice (some ⟨b, o, none⟩) n1 c1, .slice A2 n2 c2] 25)).alloc (.cells #[.string y1, .int .i64 y2, .slice Ar 0 cr, .slice Av nv cv, .slice Ap np cp, .slice Ad nd cd, .slice Ac nc cc, .slice Af nf cf] 45)) := bw1.alloc (Nat.le_trans hB (by simp)) _
  have B0 : Hid (Below w.heap.size w ((w.alloc (.cells #[.slice (some ⟨b, o, none⟩) n1 c1, .slice A2 n2 c2] 25)).alloc (.cells #[.string y1, .int .i64 y2, .slice Ar 0 cr, .slice Av nv cv, .slice Ap np cp, .slice Ad nd cd, .slice Ac nc cc, .slice Af nf cf] 45))) := Lib.hid (((Below.refl _ _).alloc (Nat.le_refl _) _).alloc (by simp) _)
  have m0 : ((w.alloc (.cells #[.slice (some ⟨b, o, none⟩) n1 c1, .slice A2 n2 c2] 25)).alloc (.cells #[.string y1, .int .i64 y2, .slice Ar 0 cr, .slice Av nv cv, .slice Ap np cp, .slice Ad nd cd, .slice Ac nc cc, .slice Af nf cf] 45)).heap[w.heap.size]? = some (.cells #[.slice (some ⟨b, o, none⟩) n1 c1, .slice A2 n2 c2] 25) := (Below.heap_alloc _ _ _ (by simp)).trans (heap_alloc_new w _)
  have m1 : ((w.alloc (.cells #[.slice (some ⟨b, o, none⟩) n1 c1, .slice A2 n2 c2] 25)).alloc (.cells #[.string y1, .int .i64 y2, .slice Ar 0 cr, .slice Av nv cv, .slice Ap np cp, .slice Ad nd cd, .slice Ac nc cc, .slice Af nf cf] 45)).heap[w.heap.size + 1]? = some (.cells #[.string y1, .int .i64 y2, .slice Ar 0 cr, .slice Av nv cv, .slice Ap np cp, .slice Ad nd cd, .slice Ac nc cc, .slice Af nf cf] 45) := by
    have h := heap_alloc_new (w.alloc (.cells #[.slice (some ⟨b, o, none⟩) n1 c1, .slice A2 n2 c2] 25)) (.cells #[.string y1, .int .i64 y2, .slice Ar 0 cr, .slice Av nv cv, .slice Ap np cp, .slice Ad nd cd, .slice Ac nc cc, .slice Af nf cf] 45)
    rw [World.size_alloc] at h
    exact h
  have h0 : (w.alloc (.cells #[.slice (some ⟨b, o, none⟩) n1 c1, .slice A2 n2 c2] 25)).cell? ⟨w.heap.size, 0, none⟩ = some (.slice (some ⟨b, o, none⟩) n1 c1) := blk_cell (heap_alloc_new w _) rfl
  have g0 : (w.alloc (.cells #[.slice (some ⟨b, o, none⟩) n1 c1, .slice A2 n2 c2] 25)).cell? ⟨b, o + i * 8, none⟩ = some (.string y1) := (bw1.cell (p := ⟨b, o + i * 8, none⟩) t3).trans x0
  have g1 : (w.alloc (.cells #[.slice (some ⟨b, o, none⟩) n1 c1, .slice A2 n2 c2] 25)).cell? ⟨b, o + i * 8 + 1, none⟩ = some (.int .i64 y2) := (bw1.cell (p := ⟨b, o + i * 8 + 1, none⟩) t3).trans x1
  have g2 : (w.alloc (.cells #[.slice (some ⟨b, o, none⟩) n1 c1, .slice A2 n2 c2] 25)).cell? ⟨b, o + i * 8 + 2, none⟩ = some (.slice Ar 0 cr) := (bw1.cell (p := ⟨b, o + i * 8 + 2, none⟩) t3).trans x2
  have g3 : (w.alloc (.cells #[.slice (some ⟨b, o, none⟩) n1 c1, .slice A2 n2 c2] 25)).cell? ⟨b, o + i * 8 + 3, none⟩ = some (.slice Av nv cv) := (bw1.cell (p := ⟨b, o + i * 8 + 3, none⟩) t3).trans x3
  have g4 : (w.alloc (.cells #[.slice (some ⟨b, o, none⟩) n1 c1, .slice A2 n2 c2] 25)).cell? ⟨b, o + i * 8 + 4, none⟩ = some (.slice Ap np cp) := (bw1.cell (p := ⟨b, o + i * 8 + 4, none⟩) t3).trans x4
  have g5 : (w.alloc (.cells #[.slice (some ⟨b, o, none⟩) n1 c1, .slice A2 n2 c2] 25)).cell? ⟨b, o + i * 8 + 5, none⟩ = some (.slice Ad nd cd) := (bw1.cell (p := ⟨b, o + i * 8 + 5, none⟩) t3).trans x5
  have g6 : (w.alloc (.cells #[.slice (some ⟨b, o, none⟩) n1 c1, .slice A2 n2 c2] 25)).cell? ⟨b, o + i * 8 + 6, none⟩ = some (.slice Ac nc cc) := (bw1.cell (p := ⟨b, o + i * 8 + 6, none⟩) t3).trans x6
  have g7 : (w.alloc (.cells #[.slice (some ⟨b, o, none⟩) n1 c1, .slice A2 n2 c2] 25)).cell? ⟨b, o + i * 8 + 7, none⟩ = some (.slice Af nf cf) := (bw1.cell (p := ⟨b, o + i * 8 + 7, none⟩) t3).trans x7
  have k0 : ((w.alloc (.cells #[.slice (some ⟨b, o, none⟩) n1 c1, .slice A2 n2 c2] 25)).alloc (.cells #[.string y1, .int .i64 y2, .slice Ar 0 cr, .slice Av nv cv, .slice Ap np cp, .slice Ad nd cd, .slice Ac nc cc, .slice Af nf cf] 45)).cell? ⟨w.heap.size, 0, none⟩ = some (.slice (some ⟨b, o, none⟩) n1 c1) := blk_cell m0 rfl
  have k1 : ((w.alloc (.cells #[.slice (some ⟨b, o, none⟩) n1 c1, .slice A2 n2 c2] 25)).alloc (.cells #[.string y1, .int .i64 y2, .slice Ar 0 cr, .slice Av nv cv, .slice Ap np cp, .slice Ad nd cd, .slice Ac nc cc, .slice Af nf cf] 45)).cell? ⟨w.heap.size, 1, none⟩ = some (.slice A2 n2 c2) := blk_cell m0 rfl
  have l0 : ((w.alloc (.cells #[.slice (some ⟨b, o, none⟩) n1 c1, .slice A2 n2 c2] 25)).alloc (.cells #[.string y1, .int .i64 y2, .slice Ar 0 cr, .slice Av nv cv, .slice Ap np cp, .slice Ad nd cd, .slice Ac nc cc, .slice Af nf cf] 45)).cell? ⟨w.heap.size + 1, 0, none⟩ = some (.string y1) := blk_cell m1 rfl
  have l2 : ((w.alloc (.cells #[.slice (some ⟨b, o, none⟩) n1 c1, .slice A2 n2 c2] 25)).alloc (.cells #[.string y1, .int .i64 y2, .slice Ar 0 cr, .slice Av nv cv, .slice Ap np cp, .slice Ad nd cd, .slice Ac nc cc, .slice Af nf cf] 45)).cell? ⟨w.heap.size + 1, 2, none⟩ = some (.slice Ar 0 cr) := blk_cell m1 rfl
  have LT0 : Hid (w.heap.size < ((w.alloc (.cells #[.slice (some ⟨b, o, none⟩) n1 c1, .slice A2 n2 c2] 25)).alloc (.cells #[.string y1, .int .i64 y2, .slice Ar 0 cr, .slice Av nv cv, .slice Ap np cp, .slice Ad nd cd, .slice Ac nc cc, .slice Af nf cf] 45)).heap.size) := Lib.hid (by simp; omega)
  have LT1 : Hid (w.heap.size + 1 < ((w.alloc (.cells #[.slice (some ⟨b, o, none⟩) n1 c1, .slice A2 n2 c2] 25)).alloc (.cells #[.string y1, .int .i64 y2, .slice Ar 0 cr, .slice Av nv cv, .slice Ap np cp, .slice Ad nd cd, .slice Ac nc cc, .slice Af nf cf] 45)).heap.size) := Lib.hid (by simp)
  have RB := rc_stays _ _ _ _ _ _ h (Nat.le_refl B) bw2
  have HB : Hid (B ≤ ((w.alloc (.cells #[.slice (some ⟨b, o, none⟩) n1 c1, .slice A2 n2 c2] 25)).alloc (.cells #[.string y1, .int .i64 y2, .slice Ar 0 cr, .slice Av nv cv, .slice Ap np cp, .slice Ad nd cd, .slice Ac nc cc, .slice Af nf cf] 45)).heap.size) := Lib.hid (Nat.le_trans hB B0.out.size)
  have C1 := Lib.hid (find_any RB HB.out y1)
  rw [hf, hcs] at C1
  have C2 : Hid (∀ w2, Below ((w.alloc (.cells #[.slice (some ⟨b, o, none⟩) n1 c1, .slice A2 n2 c2] 25)).alloc (.cells #[.string y1, .int .i64 y2, .slice Ar 0 cr, .slice Av nv cv, .slice Ap np cp, .slice Ad nd cd, .slice Ac nc cc, .slice Af nf cf] 45)).heap.size ((w.alloc (.cells #[.slice (some ⟨b, o, none⟩) n1 c1, .slice A2 n2 c2] 25)).alloc (.cells #[.string y1, .int .i64 y2, .slice Ar 0 cr, .slice Av nv cv, .slice Ap np cp, .slice Ad nd cd, .slice Ac nc cc, .slice Af nf cf] 45)) w2 → Calls Try.prog 12 #[.agg #[.slice (some ⟨b, o, none⟩) n1 c1, .slice A2 n2 c2], .string y1] w2 fun e w' => ∃ A c, e = .returned (.slice A 0 c) ∧ Below w2.heap.size w2 w') := Lib.hid (fun w2 hb => by
    have h2 := rc_stays _ _ _ _ _ _ RB (Nat.le_refl B) (hb.mono HB.out)
    rw [hcs] at h2
    refine (providers_any h2 (Nat.le_trans HB.out hb.size) hl y1).mono ?_
    rintro e w' ⟨A, n, c, he, hn, -, -, hb'⟩
    rw [hv] at hn
    obtain rfl : n = 0 := hn
    exact ⟨A, c, he, hb'⟩)
  rw [hcs]
  clear h s1 s2 m0 m1 bw1 bw2 hB hp hf hv hr RB pc t1 hcs x0 x1 x2 x3 x4 x5 x6 x7 hy1 hy2
  show Calls Try.prog _ #[.agg #[.slice (some ⟨b, o, none⟩) n1 c1, .slice A2 n2 c2], .int .i64 (i : Nat)] w _
  go_enter Try.func34, Try.ntmps34
  go_wp2_with (first
    | (go_at_call 14; refine C1.out.mono ?_; rintro e w1 ⟨rfl, hb1⟩; have HB1 := Lib.hid hb1; have j0 := (hb1.cell (p := ⟨w.heap.size, 0, none⟩) LT0.out).trans k0; have j1 := (hb1.cell (p := ⟨w.heap.size, 1, none⟩) LT0.out).trans k1; have j2 := (hb1.cell (p := ⟨w.heap.size + 1, 0, none⟩) LT1.out).trans l0; have j3 := (hb1.cell (p := ⟨w.heap.size + 1, 2, none⟩) LT1.out).trans l2; clear hb1)
    | (go_at_call 12; refine (C2.out _ HB1.out).mono ?_; rintro e w2 ⟨A, c, rfl, hb2⟩; have B3 := Lib.hid (HB1.out.trans (hb2.mono HB1.out.size)); have BZ := Lib.hid (B0.out.trans (B3.out.mono B0.out.size)); have q3 := (B3.out.cell (p := ⟨w.heap.size + 1, 2, none⟩) LT1.out).trans l2; clear hb2))
  go_ret
  exact ⟨rfl, BZ.out⟩

end Go.Proofs.Ytccmgaibikiedaa.Dc
