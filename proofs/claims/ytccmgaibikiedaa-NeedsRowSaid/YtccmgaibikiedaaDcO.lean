/- Recipes: too many packages; too many of a package. -/
import Derived.Test.YtccmgaibikiedaaDcM
namespace Go.Proofs.Ytccmgaibikiedaa.Dc
open Go.RowKit
set_option linter.unusedVariables false
set_option linter.unusedSimpArgs false
theorem two_new (w : World) (o1 o2 : Obj) : ((w.alloc o1).alloc o2).heap[w.heap.size + 1]? = some o2 := by
  have h := heap_alloc_new (w.alloc o1) o2
  rw [World.size_alloc] at h
  exact h
theorem two_below (w : World) (o1 o2 : Obj) : Below w.heap.size w ((w.alloc o1).alloc o2) := ((Below.refl _ _).alloc (Nat.le_refl _) _).alloc (by simp) _
def lineP (l : List Pk) (i : Nat) : Int := ((l[i]?).map (·.line)).getD 0
def lineF (l : List Pf) (i : Nat) : Int := ((l[i]?).map (·.line)).getD 0
def countsF (x : Rc) : Nat × Int := if 24 < x.packs.length then (1, lineP x.packs 24) else if 8 < x.prefs.length then (1, lineF x.prefs 8) else (0, 0)
set_option maxHeartbeats 4000000 in
set_option maxRecDepth 100000 in
theorem counts_any {w : World} {B : Nat} {x : Rc} {cs : List Value} (h : rcD w B cs x) (hB : B ≤ w.heap.size) : Calls Try.prog 33 #[.agg cs.toArray] w fun e w' => e = .returned (probV (countsF x).1 (countsF x).2) ∧ Below w.heap.size w w' := by
  by_cases h24 : 24 < x.packs.length
  · have hc : countsF x = (1, lineP x.packs 24) := by unfold countsF; rw [if_pos h24]
    rw [hc]
    obtain ⟨A1, n1, c1, A2, n2, c2, rfl, s1, s2⟩ := rc_cells h
    have bb : Below B w ((w.alloc (.cells #[.slice A1 n1 c1, .slice A2 n2 c2] 25)).alloc (.cells #[.int .u8 0, .int .i64 0] 29)) := ((Below.refl B w).alloc hB _).alloc (Nat.le_trans hB (by simp)) _
    have B0 : Hid (Below w.heap.size w ((w.alloc (.cells #[.slice A1 n1 c1, .slice A2 n2 c2] 25)).alloc (.cells #[.int .u8 0, .int .i64 0] 29))) := Lib.hid (((Below.refl _ _).alloc (Nat.le_refl _) _).alloc (by simp) _)
    have m0 : ((w.alloc (.cells #[.slice A1 n1 c1, .slice A2 n2 c2] 25)).alloc (.cells #[.int .u8 0, .int .i64 0] 29)).heap[w.heap.size]? = some (.cells #[.slice A1 n1 c1, .slice A2 n2 c2] 25) := (Below.heap_alloc _ _ _ (by simp)).trans (heap_alloc_new w _)
    have m1 : ((w.alloc (.cells #[.slice A1 n1 c1, .slice A2 n2 c2] 25)).alloc (.cells #[.int .u8 0, .int .i64 0] 29)).heap[w.heap.size + 1]? = some (.cells #[.int .u8 0, .int .i64 0] 29) := by
      have h := heap_alloc_new (w.alloc (.cells #[.slice A1 n1 c1, .slice A2 n2 c2] 25)) (.cells #[.int .u8 0, .int .i64 0] 29)
      rw [World.size_alloc] at h
      exact h
    have k0 : ((w.alloc (.cells #[.slice A1 n1 c1, .slice A2 n2 c2] 25)).alloc (.cells #[.int .u8 0, .int .i64 0] 29)).cell? ⟨w.heap.size, 0, none⟩ = some (.slice A1 n1 c1) := blk_cell m0 rfl
    have k1 : ((w.alloc (.cells #[.slice A1 n1 c1, .slice A2 n2 c2] 25)).alloc (.cells #[.int .u8 0, .int .i64 0] 29)).cell? ⟨w.heap.size, 1, none⟩ = some (.slice A2 n2 c2) := blk_cell m0 rfl
    have j0 : ((w.alloc (.cells #[.slice A1 n1 c1, .slice A2 n2 c2] 25)).alloc (.cells #[.int .u8 0, .int .i64 0] 29)).cell? ⟨w.heap.size + 1, 0, none⟩ = some (.int .u8 0) := blk_cell m1 rfl
    have j1 : ((w.alloc (.cells #[.slice A1 n1 c1, .slice A2 n2 c2] 25)).alloc (.cells #[.int .u8 0, .int .i64 0] 29)).cell? ⟨w.heap.size + 1, 1, none⟩ = some (.int .i64 0) := blk_cell m1 rfl
    have f0 : ((w.alloc (.cells #[.slice A1 n1 c1, .slice A2 n2 c2] 25)).alloc (.cells #[.int .u8 0, .int .i64 0] 29)).frozen? ⟨w.heap.size + 1, 0, none⟩ = false := blk_free 0 m1
    have f1 : ((w.alloc (.cells #[.slice A1 n1 c1, .slice A2 n2 c2] 25)).alloc (.cells #[.int .u8 0, .int .i64 0] 29)).frozen? ⟨w.heap.size + 1, 1, none⟩ = false := blk_free 1 m1
    have M1 := Lib.hid m1
    have n5 := s1.le
    have n6 := s2.le
    have z1 : (24 : Int) < (n1 : Int) := by have := s1.len; omega
    have S1 := s1.below pk_stays (Nat.le_refl B) bb
    obtain ⟨q, b, o, Ar, nr, cr, Av, nv, cv, Ap, np, cp, Ad, nd, cd, Ac, nc, cc, Af, nf, cf, t1, rfl, t3, -, x1, -⟩ := pk_at S1 (show 24 < n1 by omega)
    obtain ⟨y, hy⟩ : ∃ y, y = lineP x.packs 24 := ⟨_, rfl⟩
    rw [← hy]
    have hy2 : q.line = y := by rw [hy]; unfold lineP; rw [t1]; rfl
    rw [hy2] at x1
    have x1' := x1
    simp only [Nat.reduceMul, Nat.add_assoc, Nat.reduceAdd] at x1'
    clear h s1 s2 S1 bb m0 m1 t1 hy hy2 hc h24
    show Calls Try.prog _ #[.agg #[_, .slice A2 n2 c2]] w _
    go_enter Try.func33, Try.ntmps33
    go_wp2_with fail
    exact bodyPost_ret (results_cell_row rfl _ _ (w.heap.size + 1) 29 _ (0, 0) _ rfl (two_new w _ _) Try.underlying29 rfl (by kernel_rfl)) rfl ⟨rfl, two_below w _ _⟩
  · by_cases h8 : 8 < x.prefs.length
    · have hc : countsF x = (1, lineF x.prefs 8) := by unfold countsF; rw [if_neg h24, if_pos h8]
      rw [hc]
      obtain ⟨A1, n1, c1, A2, n2, c2, rfl, s1, s2⟩ := rc_cells h
      have bb : Below B w ((w.alloc (.cells #[.slice A1 n1 c1, .slice A2 n2 c2] 25)).alloc (.cells #[.int .u8 0, .int .i64 0] 29)) := ((Below.refl B w).alloc hB _).alloc (Nat.le_trans hB (by simp)) _
      have B0 : Hid (Below w.heap.size w ((w.alloc (.cells #[.slice A1 n1 c1, .slice A2 n2 c2] 25)).alloc (.cells #[.int .u8 0, .int .i64 0] 29))) := Lib.hid (((Below.refl _ _).alloc (Nat.le_refl _) _).alloc (by simp) _)
      have m0 : ((w.alloc (.cells #[.slice A1 n1 c1, .slice A2 n2 c2] 25)).alloc (.cells #[.int .u8 0, .int .i64 0] 29)).heap[w.heap.size]? = some (.cells #[.slice A1 n1 c1, .slice A2 n2 c2] 25) := (Below.heap_alloc _ _ _ (by simp)).trans (heap_alloc_new w _)
      have m1 : ((w.alloc (.cells #[.slice A1 n1 c1, .slice A2 n2 c2] 25)).alloc (.cells #[.int .u8 0, .int .i64 0] 29)).heap[w.heap.size + 1]? = some (.cells #[.int .u8 0, .int .i64 0] 29) := by
        have h := heap_alloc_new (w.alloc (.cells #[.slice A1 n1 c1, .slice A2 n2 c2] 25)) (.cells #[.int .u8 0, .int .i64 0] 29)
        rw [World.size_alloc] at h
        exact h
      have k0 : ((w.alloc (.cells #[.slice A1 n1 c1, .slice A2 n2 c2] 25)).alloc (.cells #[.int .u8 0, .int .i64 0] 29)).cell? ⟨w.heap.size, 0, none⟩ = some (.slice A1 n1 c1) := blk_cell m0 rfl
      have k1 : ((w.alloc (.cells #[.slice A1 n1 c1, .slice A2 n2 c2] 25)).alloc (.cells #[.int .u8 0, .int .i64 0] 29)).cell? ⟨w.heap.size, 1, none⟩ = some (.slice A2 n2 c2) := blk_cell m0 rfl
      have j0 : ((w.alloc (.cells #[.slice A1 n1 c1, .slice A2 n2 c2] 25)).alloc (.cells #[.int .u8 0, .int .i64 0] 29)).cell? ⟨w.heap.size + 1, 0, none⟩ = some (.int .u8 0) := blk_cell m1 rfl
      have j1 : ((w.alloc (.cells #[.slice A1 n1 c1, .slice A2 n2 c2] 25)).alloc (.cells #[.int .u8 0, .int .i64 0] 29)).cell? ⟨w.heap.size + 1, 1, none⟩ = some (.int .i64 0) := blk_cell m1 rfl
      have f0 : ((w.alloc (.cells #[.slice A1 n1 c1, .slice A2 n2 c2] 25)).alloc (.cells #[.int .u8 0, .int .i64 0] 29)).frozen? ⟨w.heap.size + 1, 0, none⟩ = false := blk_free 0 m1
      have f1 : ((w.alloc (.cells #[.slice A1 n1 c1, .slice A2 n2 c2] 25)).alloc (.cells #[.int .u8 0, .int .i64 0] 29)).frozen? ⟨w.heap.size + 1, 1, none⟩ = false := blk_free 1 m1
      have M1 := Lib.hid m1
      have n5 := s1.le
      have n6 := s2.le
      have z1 : (n1 : Int) ≤ 24 := by have := s1.len; omega
      have z2 : (8 : Int) < (n2 : Int) := by have := s2.len; omega
      have S2 := s2.below pf_stays (Nat.le_refl B) bb
      obtain ⟨q, b, o, A', n', c', t1, rfl, t3, -, -, x2, -⟩ := pf_at S2 (show 8 < n2 by omega)
      obtain ⟨y, hy⟩ : ∃ y, y = lineF x.prefs 8 := ⟨_, rfl⟩
      rw [← hy]
      have hy2 : q.line = y := by rw [hy]; unfold lineF; rw [t1]; rfl
      rw [hy2] at x2
      have x2' := x2
      simp only [Nat.reduceMul, Nat.add_assoc, Nat.reduceAdd] at x2'
      clear h s1 s2 S2 bb m0 m1 t1 hy hy2 hc h24 h8
      show Calls Try.prog _ #[.agg #[.slice A1 n1 c1, _]] w _
      go_enter Try.func33, Try.ntmps33
      go_wp2_with fail
      exact bodyPost_ret (results_cell_row rfl _ _ (w.heap.size + 1) 29 _ (0, 0) _ rfl (two_new w _ _) Try.underlying29 rfl (by kernel_rfl)) rfl ⟨rfl, two_below w _ _⟩
    · have hc : countsF x = (0, 0) := by unfold countsF; rw [if_neg h24, if_neg h8]
      rw [hc]
      exact counts_fine h hB (by omega) (by omega)
def manyB (p : Pk) : Bool := decide (10 < p.rels.length) || decide (16 < p.deps.length) || decide (8 < p.confs.length) || decide (4 < p.provs.length) || decide (8 < p.files.length)
set_option maxHeartbeats 4000000 in
set_option maxRecDepth 100000 in
theorem many_any {w : World} {B : Nat} {p : Pk} {cs : List Value} (h : pkD w B cs p) : Calls Try.prog 56 #[.agg cs.toArray] w fun e w' => e = .returned (.bool (manyB p)) ∧ Below w.heap.size w w' := by
  obtain ⟨Ar, nr, cr, Av, nv, cv, Ap, np, cp, Ad, nd, cd, Ac, nc, cc, Af, nf, cf, rfl, hc⟩ := pk_cells h
  obtain ⟨nm, ln, rels, vars, provs, deps, confs, files⟩ := p
  obtain ⟨z0, s1, s2, s3, s4, s5, s6⟩ := hc
  simp only [] at z0 s1 s2 s3 s4 s5 s6 ⊢
  have B0 : Hid (Below w.heap.size w (w.alloc (.cells #[.string nm, .int .i64 ln, .slice Ar nr cr, .slice Av nv cv, .slice Ap np cp, .slice Ad nd cd, .slice Ac nc cc, .slice Af nf cf] 45))) := Lib.hid ((Below.refl _ _).alloc (Nat.le_refl _) _)
  have k2 : (w.alloc (.cells #[.string nm, .int .i64 ln, .slice Ar nr cr, .slice Av nv cv, .slice Ap np cp, .slice Ad nd cd, .slice Ac nc cc, .slice Af nf cf] 45)).cell? ⟨w.heap.size, 2, none⟩ = some (.slice Ar nr cr) := blk_cell (heap_alloc_new w _) rfl
  have k4 : (w.alloc (.cells #[.string nm, .int .i64 ln, .slice Ar nr cr, .slice Av nv cv, .slice Ap np cp, .slice Ad nd cd, .slice Ac nc cc, .slice Af nf cf] 45)).cell? ⟨w.heap.size, 4, none⟩ = some (.slice Ap np cp) := blk_cell (heap_alloc_new w _) rfl
  have k5 : (w.alloc (.cells #[.string nm, .int .i64 ln, .slice Ar nr cr, .slice Av nv cv, .slice Ap np cp, .slice Ad nd cd, .slice Ac nc cc, .slice Af nf cf] 45)).cell? ⟨w.heap.size, 5, none⟩ = some (.slice Ad nd cd) := blk_cell (heap_alloc_new w _) rfl
  have k6 : (w.alloc (.cells #[.string nm, .int .i64 ln, .slice Ar nr cr, .slice Av nv cv, .slice Ap np cp, .slice Ad nd cd, .slice Ac nc cc, .slice Af nf cf] 45)).cell? ⟨w.heap.size, 6, none⟩ = some (.slice Ac nc cc) := blk_cell (heap_alloc_new w _) rfl
  have k7 : (w.alloc (.cells #[.string nm, .int .i64 ln, .slice Ar nr cr, .slice Av nv cv, .slice Ap np cp, .slice Ad nd cd, .slice Ac nc cc, .slice Af nf cf] 45)).cell? ⟨w.heap.size, 7, none⟩ = some (.slice Af nf cf) := blk_cell (heap_alloc_new w _) rfl
  have R : Hid (manyB ⟨nm, ln, rels, vars, provs, deps, confs, files⟩ = (decide (10 < (nr : Int)) || decide (16 < (nd : Int)) || decide (8 < (nc : Int)) || decide (4 < (np : Int)) || decide (8 < (nf : Int)))) := Lib.hid (by
    have e : ∀ (a b : Nat), decide ((a : Int) < (b : Int)) = decide (a < b) := fun a b => by simp
    unfold manyB
    rw [← s1.len, ← s3.len, ← s4.len, ← s5.len, ← s6.len]
    rw [← e 10, ← e 16, ← e 8, ← e 4, ← e 8]
    rfl)
  have n1 := s1.le
  have n3 := s3.le
  have n4 := s4.le
  have n5 := s5.le
  have n6 := s6.le
  clear h s1 s2 s3 s4 s5 s6
  show Calls Try.prog _ #[.agg #[.string nm, .int .i64 ln, .slice Ar nr cr, .slice Av nv cv, .slice Ap np cp, .slice Ad nd cd, .slice Ac nc cc, .slice Af nf cf]] w _
  have fin : ∀ g : Bool, g = (decide (10 < (nr : Int)) || decide (16 < (nd : Int)) || decide (8 < (nc : Int)) || decide (4 < (np : Int)) || decide (8 < (nf : Int))) → manyB ⟨nm, ln, rels, vars, provs, deps, confs, files⟩ = g := fun g hg => R.out.trans hg.symm
  have FIN := Lib.hid fin
  clear fin R
  by_cases h1 : 10 < (nr : Int)
  · go_enter Try.func56, Try.ntmps56
    go_wp2_with fail
    go_ret
    exact ⟨by rw [FIN.out true (by simp [h1])]; first | rfl | simp [h1] | (simp; omega), B0.out⟩
  by_cases h2 : 16 < (nd : Int)
  · go_enter Try.func56, Try.ntmps56
    go_wp2_with fail
    go_ret
    exact ⟨by rw [FIN.out true (by simp [h2])]; first | rfl | simp [h2] | (simp; omega), B0.out⟩
  by_cases h3 : 8 < (nc : Int)
  · go_enter Try.func56, Try.ntmps56
    go_wp2_with fail
    go_ret
    exact ⟨by rw [FIN.out true (by simp [h3])]; first | rfl | simp [h3] | (simp; omega), B0.out⟩
  by_cases h4 : 4 < (np : Int)
  · go_enter Try.func56, Try.ntmps56
    go_wp2_with fail
    go_ret
    exact ⟨by rw [FIN.out true (by simp [h4])]; first | rfl | simp [h4] | (simp; omega), B0.out⟩
  by_cases h5 : 8 < (nf : Int)
  · go_enter Try.func56, Try.ntmps56
    go_wp2_with fail
    go_ret
    exact ⟨by rw [FIN.out true (by simp [h5])]; first | rfl | simp [h5] | (simp; omega), B0.out⟩
  · go_enter Try.func56, Try.ntmps56
    go_wp2_with fail
    go_ret
    exact ⟨by rw [FIN.out false (by simp [h1, h2, h3, h4, h5])]; first | rfl | simp [h1, h2, h3, h4, h5] | (simp; omega), B0.out⟩

end Go.Proofs.Ytccmgaibikiedaa.Dc
