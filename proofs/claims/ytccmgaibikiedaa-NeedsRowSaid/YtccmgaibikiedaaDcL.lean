/- Recipes: the example: walked. -/
import Derived.Test.YtccmgaibikiedaaDcK
namespace Go.Proofs.Ytccmgaibikiedaa.Dc
open Go.RowKit
set_option linter.unusedVariables false
set_option linter.unusedSimpArgs false
set_option maxHeartbeats 4000000 in
set_option maxRecDepth 100000 in
theorem recipe_norel {w : World} {B : Nat} {x : Rc} {cs : List Value} (h : rcD w B cs x) (hB : B ≤ w.heap.size) (h1 : x.packs.length ≤ 24) (h2 : x.prefs.length ≤ 8) {p : Pk} (hp : x.packs[0]? = some p) (hf : findF x.packs p.name = 0) (hv : provF x.packs p.name = []) (hr : p.rels = []) :
    Calls Try.prog 10 #[.agg cs.toArray] w fun e w' => e = .returned (probV 4 p.line) ∧ Below w.heap.size w w' := by
  obtain ⟨A1, n1, c1, A2, n2, c2, hcs, s1, s2⟩ := rc_cells h
  have hi : 0 < n1 := by
    rw [s1.len]
    rcases Nat.lt_or_ge 0 x.packs.length with h' | h'
    · exact h'
    · rw [List.getElem?_eq_none h'] at hp; cases hp
  have hi' : (0 : Int) < (n1 : Int) := by omega
  have n5 := s1.le
  obtain ⟨q, b, o, Ar, nr, cr, Av, nv, cv, Ap, np, cp, Ad, nd, cd, Ac, nc, cc, Af, nf, cf, t1, hA1, t3, x0, x1, x2, x3, x4, x5, x6, x7, pc, -⟩ := pk_at s1 hi
  obtain rfl : p = q := by rw [t1] at hp; exact (Option.some.inj hp).symm
  obtain ⟨y1, hy1⟩ : ∃ y, y = p.name := ⟨_, rfl⟩
  obtain ⟨y2, hy2⟩ : ∃ y, y = p.line := ⟨_, rfl⟩
  rw [← hy1] at x0
  rw [← hy2] at x1
  have HY := Lib.hid hy2
  simp only [Nat.zero_mul, Nat.add_zero] at x0 x1 x2 x3 x4 x5 x6 x7
  subst hA1
  have bw : Below B w ((w.alloc (.cells #[.slice (some ⟨b, o, none⟩) n1 c1, .slice A2 n2 c2] 25)).alloc (.cells #[.int .u8 0, .int .i64 0] 29)) := ((Below.refl B w).alloc hB _).alloc (Nat.le_trans hB (by simp)) _
  have B0 : Hid (Below w.heap.size w ((w.alloc (.cells #[.slice (some ⟨b, o, none⟩) n1 c1, .slice A2 n2 c2] 25)).alloc (.cells #[.int .u8 0, .int .i64 0] 29))) := Lib.hid (((Below.refl _ _).alloc (Nat.le_refl _) _).alloc (by simp) _)
  have m0 : ((w.alloc (.cells #[.slice (some ⟨b, o, none⟩) n1 c1, .slice A2 n2 c2] 25)).alloc (.cells #[.int .u8 0, .int .i64 0] 29)).heap[w.heap.size]? = some (.cells #[.slice (some ⟨b, o, none⟩) n1 c1, .slice A2 n2 c2] 25) := (Below.heap_alloc _ _ _ (by simp)).trans (heap_alloc_new w _)
  have M1 : Hid (((w.alloc (.cells #[.slice (some ⟨b, o, none⟩) n1 c1, .slice A2 n2 c2] 25)).alloc (.cells #[.int .u8 0, .int .i64 0] 29)).heap[w.heap.size + 1]? = some (.cells #[.int .u8 0, .int .i64 0] 29)) := Lib.hid (by
    have h := heap_alloc_new (w.alloc (.cells #[.slice (some ⟨b, o, none⟩) n1 c1, .slice A2 n2 c2] 25)) (.cells #[.int .u8 0, .int .i64 0] 29)
    rw [World.size_alloc] at h
    exact h)
  have k0 : ((w.alloc (.cells #[.slice (some ⟨b, o, none⟩) n1 c1, .slice A2 n2 c2] 25)).alloc (.cells #[.int .u8 0, .int .i64 0] 29)).cell? ⟨w.heap.size, 0, none⟩ = some (.slice (some ⟨b, o, none⟩) n1 c1) := blk_cell m0 rfl
  have k1 : ((w.alloc (.cells #[.slice (some ⟨b, o, none⟩) n1 c1, .slice A2 n2 c2] 25)).alloc (.cells #[.int .u8 0, .int .i64 0] 29)).cell? ⟨w.heap.size, 1, none⟩ = some (.slice A2 n2 c2) := blk_cell m0 rfl
  have LT0 : Hid (w.heap.size < ((w.alloc (.cells #[.slice (some ⟨b, o, none⟩) n1 c1, .slice A2 n2 c2] 25)).alloc (.cells #[.int .u8 0, .int .i64 0] 29)).heap.size) := Lib.hid (by simp; omega)
  have LT1 : Hid (w.heap.size + 1 < ((w.alloc (.cells #[.slice (some ⟨b, o, none⟩) n1 c1, .slice A2 n2 c2] 25)).alloc (.cells #[.int .u8 0, .int .i64 0] 29)).heap.size) := Lib.hid (by simp)
  have RB := Lib.hid (rc_stays _ _ _ _ _ _ h (Nat.le_refl B) bw)
  have HB : Hid (B ≤ ((w.alloc (.cells #[.slice (some ⟨b, o, none⟩) n1 c1, .slice A2 n2 c2] 25)).alloc (.cells #[.int .u8 0, .int .i64 0] 29)).heap.size) := Lib.hid (Nat.le_trans hB B0.out.size)
  have C1 := Lib.hid (counts_fine RB.out HB.out h1 h2)
  rw [hcs] at C1
  have XC : Hid (∀ w2, Below ((w.alloc (.cells #[.slice (some ⟨b, o, none⟩) n1 c1, .slice A2 n2 c2] 25)).alloc (.cells #[.int .u8 0, .int .i64 0] 29)).heap.size ((w.alloc (.cells #[.slice (some ⟨b, o, none⟩) n1 c1, .slice A2 n2 c2] 25)).alloc (.cells #[.int .u8 0, .int .i64 0] 29)) w2 → w2.cell? ⟨b, o, none⟩ = some (.string y1) ∧ w2.cell? ⟨b, o + 1, none⟩ = some (.int .i64 y2) ∧ w2.cell? ⟨b, o + 2, none⟩ = some (.slice Ar nr cr) ∧ w2.cell? ⟨b, o + 3, none⟩ = some (.slice Av nv cv) ∧ w2.cell? ⟨b, o + 4, none⟩ = some (.slice Ap np cp) ∧ w2.cell? ⟨b, o + 5, none⟩ = some (.slice Ad nd cd) ∧ w2.cell? ⟨b, o + 6, none⟩ = some (.slice Ac nc cc) ∧ w2.cell? ⟨b, o + 7, none⟩ = some (.slice Af nf cf)) := Lib.hid (fun w2 hb => by
    have bb := bw.trans (hb.mono HB.out)
    exact ⟨(bb.cell (p := ⟨b, o, none⟩) t3).trans x0, (bb.cell (p := ⟨b, o + 1, none⟩) t3).trans x1, (bb.cell (p := ⟨b, o + 2, none⟩) t3).trans x2, (bb.cell (p := ⟨b, o + 3, none⟩) t3).trans x3, (bb.cell (p := ⟨b, o + 4, none⟩) t3).trans x4, (bb.cell (p := ⟨b, o + 5, none⟩) t3).trans x5, (bb.cell (p := ⟨b, o + 6, none⟩) t3).trans x6, (bb.cell (p := ⟨b, o + 7, none⟩) t3).trans x7⟩)
  have C2 : Hid (∀ w2, Below ((w.alloc (.cells #[.slice (some ⟨b, o, none⟩) n1 c1, .slice A2 n2 c2] 25)).alloc (.cells #[.int .u8 0, .int .i64 0] 29)).heap.size ((w.alloc (.cells #[.slice (some ⟨b, o, none⟩) n1 c1, .slice A2 n2 c2] 25)).alloc (.cells #[.int .u8 0, .int .i64 0] 29)) w2 → Calls Try.prog 34 #[.agg #[.slice (some ⟨b, o, none⟩) n1 c1, .slice A2 n2 c2], .int .i64 0] w2 fun e w' => e = .returned (.int .u8 4) ∧ Below w2.heap.size w2 w') := Lib.hid (fun w2 hb => by
    have h3 := rc_stays _ _ _ _ _ _ RB.out (Nat.le_refl B) (hb.mono HB.out)
    have h4 := code_norel h3 (Nat.le_trans HB.out hb.size) (by omega) hp hf hv hr
    rw [hcs] at h4
    exact h4)
  rw [hcs]
  clear h s1 s2 m0 bw hB hp hf hv hr pc t1 hcs x0 x1 x2 x3 x4 x5 x6 x7 hy1 hy2 RB h1 h2
  show Calls Try.prog _ #[.agg #[.slice (some ⟨b, o, none⟩) n1 c1, .slice A2 n2 c2]] w _
  go_enter Try.func10, Try.ntmps10
  go_wp2_with (go_at_call 33; refine C1.out.mono ?_; rintro e w1 ⟨rfl, hb1⟩; have HB1 := Lib.hid hb1; have e1 := heap_alloc_new w1 (.cells #[.int .u8 0, .int .i64 0] 29); have i0 := blk_cell (j := 0) e1 rfl; have i1 := blk_cell (j := 1) e1 rfl; have BA := Lib.hid (hb1.alloc hb1.size (.cells #[.int .u8 0, .int .i64 0] 29)); have j0 := (BA.out.cell (p := ⟨w.heap.size, 0, none⟩) LT0.out).trans k0; have j1 := (BA.out.cell (p := ⟨w.heap.size, 1, none⟩) LT0.out).trans k1; clear hb1 e1)
  obtain ⟨v1, hv1⟩ : ∃ v1, v1 = w1.alloc (.cells #[.int .u8 0, .int .i64 0] 29) := ⟨_, rfl⟩
  rw [← hv1] at BA j0 j1 ⊢
  have K01 := Lib.hid (And.intro k0 k1)
  clear k0 k1 i0 i1 HB1 hv1
  go_loopw [4, 5, 6, 21] (fun _ _ _ v wq => v = .int .i64 0 ∧ v1 = wq) (fun _ _ _ v _ => 0)
  case atStart => exact ⟨rfl, by first | rfl | trivial⟩
  case round =>
    obtain ⟨rfl, hwq⟩ := hrel
    obtain rfl : v1 = wr := by first | exact hwq | rfl
    obtain ⟨x0, x1, x2, x3, x4, x5, x6, x7⟩ := XC.out v1 BA.out
    have BP : Hid (Below ((w.alloc (.cells #[.slice (some ⟨b, o, none⟩) n1 c1, .slice A2 n2 c2] 25)).alloc (.cells #[.int .u8 0, .int .i64 0] 29)).heap.size ((w.alloc (.cells #[.slice (some ⟨b, o, none⟩) n1 c1, .slice A2 n2 c2] 25)).alloc (.cells #[.int .u8 0, .int .i64 0] 29)) (v1.alloc (.cells #[.string y1, .int .i64 y2, .slice Ar nr cr, .slice Av nv cv, .slice Ap np cp, .slice Ad nd cd, .slice Ac nc cc, .slice Af nf cf] 45))) := Lib.hid (BA.out.alloc BA.out.size _)
    have a0 := (BP.out.cell (p := ⟨w.heap.size, 0, none⟩) LT0.out).trans K01.out.1
    have a1 := (BP.out.cell (p := ⟨w.heap.size, 1, none⟩) LT0.out).trans K01.out.2
    go_wp2_with (go_at_call 34; refine (C2.out _ BP.out).mono ?_; rintro e w4 ⟨rfl, hb4⟩; have B4 := Lib.hid (BP.out.trans (hb4.mono BP.out.size)); have l1 := (hb4.cell (p := ⟨v1.heap.size, 1, none⟩) (by simp)).trans (blk_cell (j := 1) (heap_alloc_new v1 _) rfl); have r := (B4.out.block _ LT1.out).trans M1.out; have R := Lib.hid r; have r0 := blk_cell (j := 0) r rfl; have r1 := blk_cell (j := 1) r rfl; have f0 := blk_free 0 r; have f1 := blk_free 1 r; clear hb4 r)
    rw [← HY.out]
    exact bodyPost_ret (results_cell_row rfl _ _ (w.heap.size + 1) 29 _ (0, 0) _ rfl (blk_set 1 _ (blk_set 0 _ R.out)) Try.underlying29 rfl (by kernel_rfl)) rfl ⟨rfl, ((B0.out.trans (B4.out.mono B0.out.size)).setCell (p := ⟨w.heap.size + 1, 0, none⟩) (Nat.le_succ _) _).setCell (p := ⟨w.heap.size + 1, 1, none⟩) (Nat.le_succ _) _⟩

end Go.Proofs.Ytccmgaibikiedaa.Dc
