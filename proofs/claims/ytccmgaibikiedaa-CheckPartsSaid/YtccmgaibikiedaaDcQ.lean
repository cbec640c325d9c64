/- Recipes: is a condition's settings' each one of a package? -/
import Derived.Test.YtccmgaibikiedaaDcP
namespace Go.Proofs.Ytccmgaibikiedaa.Dc
open Go.RowKit
set_option linter.unusedVariables false
set_option linter.unusedSimpArgs false
def setV (s : Pr2) (v : Vr) : Bool := eqB v.1 s.1 && hasB v.2 s.2
def condB (vars : List Vr) (sets : List Pr2) : Bool := sets.all fun s => vars.any (setV s)
theorem findG_any {α : Type} (f : α → Bool) (l : List α) : decide (0 ≤ findG f l 0) = l.any f := by
  cases h : l.any f with
  | false => rw [findG_none l 0 h]; rfl
  | true =>
    rcases findG_lt (f := f) l 0 with h1 | ⟨i, h1, h2⟩
    · exfalso
      obtain ⟨y, hy, hfy⟩ := List.any_eq_true.1 h
      have hgo : ∀ (l : List α) (k : Nat), findG f l k = -1 → ∀ y ∈ l, f y = false := by
        intro l
        induction l with
        | nil => intro k _ y hy; cases hy
        | cons a l ih =>
          intro k hk y hy
          rw [findG] at hk
          split at hk
          · omega
          · rename_i hn
            rcases List.mem_cons.1 hy with rfl | hy
            · simpa using hn
            · exact ih _ hk y hy
      rw [hgo l 0 h1 y hy] at hfy
      cases hfy
    · rw [h2]; simp
abbrev fnC (p : Addr) : Value := .func (.func 81) #[] #[.pointer (some p)]
set_option maxHeartbeats 1000000 in
set_option maxRecDepth 100000 in
theorem closureC_any {w : World} {B : Nat} {A : Option Addr} {n c : Nat} {vn : ByteArray} {vl : List ByteArray} (h : Sl ByteArray 1 strD w B A n c vl) (hB : B ≤ w.heap.size) (s1 s2 : ByteArray) (pb : Nat) (hp : pb < w.heap.size) (h0 : w.cell? ⟨pb, 0, none⟩ = some (.string s1)) (h1 : w.cell? ⟨pb, 1, none⟩ = some (.string s2)) :
    Calls Try.prog 81 #[.agg #[.string vn, .slice A n c], .pointer (some ⟨pb, 0, none⟩)] w fun e w' => e = .returned (.bool (setV (s1, s2) (vn, vl))) ∧ Below w.heap.size w w' := by
  have bb : Below B w (w.alloc (.cells #[.string vn, .slice A n c] 86)) := (Below.refl B w).alloc hB _
  have BL : Hid (Below w.heap.size w (w.alloc (.cells #[.string vn, .slice A n c] 86))) := Lib.hid ((Below.refl w.heap.size w).alloc (Nat.le_refl _) _)
  have y0 : (w.alloc (.cells #[.string vn, .slice A n c] 86)).cell? ⟨pb, 0, none⟩ = some (.string s1) := (BL.out.cell (p := ⟨pb, 0, none⟩) hp).trans h0
  have y1 : (w.alloc (.cells #[.string vn, .slice A n c] 86)).cell? ⟨pb, 1, none⟩ = some (.string s2) := (BL.out.cell (p := ⟨pb, 1, none⟩) hp).trans h1
  have k0 : (w.alloc (.cells #[.string vn, .slice A n c] 86)).cell? ⟨w.heap.size, 0, none⟩ = some (.string vn) := blk_cell (heap_alloc_new w _) rfl
  have k1 : (w.alloc (.cells #[.string vn, .slice A n c] 86)).cell? ⟨w.heap.size, 1, none⟩ = some (.slice A n c) := blk_cell (heap_alloc_new w _) rfl
  obtain ⟨g, hg⟩ : ∃ g, g = hasB vl s2 := ⟨_, rfl⟩
  have CC := Lib.hid (contains_any (h.below strD_stays (Nat.le_refl B) bb) s2)
  rw [← hg] at CC
  have R : Hid (setV (s1, s2) (vn, vl) = ((vn.toList == s1.toList) && g)) := Lib.hid (by rw [hg]; rfl)
  clear h hB hp h0 h1 bb hg
  cases q : (vn.toList == s1.toList)
  case true =>
    have R2 : Hid (setV (s1, s2) (vn, vl) = g) := Lib.hid (by rw [R.out, q]; rfl)
    go_enter Try.func81, Try.ntmps81
    go_wp2_with (go_at_call 40; refine CC.out.mono ?_; rintro e w1 ⟨rfl, rfl⟩)
    go_ret
    rw [R2.out]
    exact ⟨rfl, BL.out⟩
  have R2 : Hid (setV (s1, s2) (vn, vl) = false) := Lib.hid (by rw [R.out, q]; rfl)
  go_enter Try.func81, Try.ntmps81
  go_wp2_with fail
  go_ret
  rw [R2.out]
  exact ⟨rfl, BL.out⟩
set_option maxHeartbeats 2000000 in
set_option maxRecDepth 100000 in
theorem indexC_any {w : World} {B : Nat} {A : Option Addr} {n c : Nat} {l : List Vr} (h : Sl Vr 2 vrD w B A n c l) (hB : B ≤ w.heap.size) (s1 s2 : ByteArray) (pb : Nat) (hp : pb < w.heap.size) (h0 : w.cell? ⟨pb, 0, none⟩ = some (.string s1)) (h1 : w.cell? ⟨pb, 1, none⟩ = some (.string s2)) :
    Calls Try.prog 95 #[.slice A n c, fnC ⟨pb, 0, none⟩] w fun e w' => e = .returned (.int .i64 (findG (setV (s1, s2)) l 0)) ∧ Below w.heap.size w w' := by
  have n5 := h.le
  have HN := Lib.hid h.len
  have H := Lib.hid h
  have HB : Hid (B ≤ w.heap.size) := Lib.hid hB
  have HC := Lib.hid (And.intro hp (And.intro h0 h1))
  clear h hB hp h0 h1
  go_enter Try.func95, Try.ntmps95
  go_wp2_with fail
  go_loopw [5, 8] (fun _ v wq => ∃ i : Nat, v = .int .i64 i ∧ i ≤ n ∧ (l.take i).any (setV (s1, s2)) = false ∧ Below w.heap.size w wq) (fun _ v _ => n - (intOf v).toNat)
  case atStart => exact ⟨0, rfl, Nat.zero_le _, rfl, Below.refl _ _⟩
  case round =>
    obtain ⟨i, rfl, hi, hq, hbw⟩ := hrel
    have HQ := Lib.hid hq
    have BW := Lib.hid hbw
    have SW := Lib.hid (H.out.below vr_stays (Nat.le_refl B) (hbw.mono HB.out))
    clear hq hbw
    by_cases hlt : i < n
    · have hlt' : (i : Int) < (n : Int) := by omega
      obtain ⟨⟨vn, vl⟩, b, o, A', m', c', t1, rfl, t3, x0, x1, -, st⟩ := vr_at SW.out hlt
      simp only [] at x0 st
      have T1 := Lib.hid t1
      obtain ⟨g, hg⟩ : ∃ g, g = setV (s1, s2) (vn, vl) := ⟨_, rfl⟩
      have G1 : Hid (setV (s1, s2) (vn, vl) = g) := Lib.hid hg.symm
      have C1 := Lib.hid (closureC_any (vn := vn) st (Nat.le_trans HB.out BW.out.size) s1 s2 pb (Nat.lt_of_lt_of_le HC.out.1 BW.out.size) ((BW.out.cell (p := ⟨pb, 0, none⟩) HC.out.1).trans HC.out.2.1) ((BW.out.cell (p := ⟨pb, 1, none⟩) HC.out.1).trans HC.out.2.2))
      rw [← hg] at C1
      clear t1 hg st
      cases g
      case true =>
        have R : Hid (findG (setV (s1, s2)) l 0 = (i : Int)) := Lib.hid (by have h := findG_hit l 0 i HQ.out T1.out G1.out; rw [Nat.zero_add] at h; exact h)
        go_wp2_with (go_at_call 81; refine C1.out.mono ?_; rintro e w1 ⟨rfl, hb1⟩; have BZ := Lib.hid (bstep BW.out hb1 BW.out.size); clear hb1)
        go_ret
        rw [R.out]
        exact ⟨rfl, BZ.out⟩
      have HQ2 : Hid ((l.take (i + 1)).any (setV (s1, s2)) = false) := Lib.hid (any_next T1.out HQ.out G1.out)
      go_wp2_with (go_at_call 81; refine C1.out.mono ?_; rintro e w1 ⟨rfl, hb1⟩; have BZ := Lib.hid (bstep BW.out hb1 BW.out.size); clear hb1)
      go_roundw
      case rel => exact ⟨i + 1, by go_num, by omega, HQ2.out, BZ.out⟩
      case measure => simp [intOf]; omega
    · have R : Hid (findG (setV (s1, s2)) l 0 = -1) := Lib.hid (findG_none l 0 (by
        have h := HQ.out
        rw [take_all (by have := HN.out; omega)] at h
        exact h))
      go_wp2_with fail
      go_ret
      rw [R.out]
      exact ⟨rfl, BW.out⟩
set_option maxHeartbeats 1000000 in
set_option maxRecDepth 100000 in
theorem containsC_any {w : World} {B : Nat} {A : Option Addr} {n c : Nat} {l : List Vr} (h : Sl Vr 2 vrD w B A n c l) (hB : B ≤ w.heap.size) (s1 s2 : ByteArray) (pb : Nat) (hp : pb < w.heap.size) (h0 : w.cell? ⟨pb, 0, none⟩ = some (.string s1)) (h1 : w.cell? ⟨pb, 1, none⟩ = some (.string s2)) :
    Calls Try.prog 79 #[.slice A n c, fnC ⟨pb, 0, none⟩] w fun e w' => e = .returned (.bool (l.any (setV (s1, s2)))) ∧ Below w.heap.size w w' := by
  have C1 := Lib.hid (indexC_any h hB s1 s2 pb hp h0 h1)
  have R := Lib.hid (findG_any (setV (s1, s2)) l)
  obtain ⟨z, hz⟩ : ∃ z, z = findG (setV (s1, s2)) l 0 := ⟨_, rfl⟩
  rw [← hz] at C1 R
  clear h hB hp h0 h1 hz
  go_enter Try.func79, Try.ntmps79
  go_wp2_with (go_at_call 95; refine C1.out.mono ?_; rintro e w1 ⟨rfl, hb1⟩; have BZ := Lib.hid hb1; clear hb1)
  go_ret
  rw [← R.out]
  exact ⟨rfl, BZ.out⟩
def condC (vars : List Vr) (sets : List Pr2) : Nat := if condB vars sets then 0 else 8
theorem all_hit {α : Type} {l : List α} {f : α → Bool} {i : Nat} {y : α} (h : l[i]? = some y) (hy : f y = false) : l.all f = false := by
  rw [List.all_eq_false]
  exact ⟨y, List.mem_of_getElem? h, by rw [hy]; decide⟩
theorem all_next {α : Type} {l : List α} {f : α → Bool} {i : Nat} {y : α} (h : l[i]? = some y) (hp : (l.take i).all f = true) (hy : f y = true) : (l.take (i + 1)).all f = true := by
  rw [take_next h, List.all_append, hp]
  simp [hy]
set_option maxHeartbeats 4000000 in
set_option maxRecDepth 100000 in
theorem condCode_any {w : World} {B : Nat} {p : Pk} {s : Sp} {ps ss : List Value} (h : pkD w B ps p) (h2 : spD w B ss s) (hB : B ≤ w.heap.size) : Calls Try.prog 60 #[.agg ps.toArray, .agg ss.toArray] w fun e w' => e = .returned (.int .u8 (condC p.vars s.sets)) ∧ Below w.heap.size w w' := by
  obtain ⟨Ar, nr, cr, Av, nv, cv, Ap, np, cp, Ad, nd, cd, Ac, nc, cc, Af, nf, cf, rfl, hc⟩ := pk_cells h
  obtain ⟨A1, n1, c1, A2, n2, c2, rfl, -, -, t2⟩ := sp_cells h2
  obtain ⟨nm, ln, rels, vars, provs, deps, confs, files⟩ := p
  obtain ⟨sn, spans, sets⟩ := s
  have s2 := hc.vars
  simp only [] at s2 t2 ⊢
  have bb : Below B w ((w.alloc (.cells #[.string nm, .int .i64 ln, .slice Ar nr cr, .slice Av nv cv, .slice Ap np cp, .slice Ad nd cd, .slice Ac nc cc, .slice Af nf cf] 45)).alloc (.cells #[.string sn, .slice A1 n1 c1, .slice A2 n2 c2] 70)) := ((Below.refl B w).alloc hB _).alloc (Nat.le_trans hB (by simp)) _
  have B0 : Hid (Below w.heap.size w ((w.alloc (.cells #[.string nm, .int .i64 ln, .slice Ar nr cr, .slice Av nv cv, .slice Ap np cp, .slice Ad nd cd, .slice Ac nc cc, .slice Af nf cf] 45)).alloc (.cells #[.string sn, .slice A1 n1 c1, .slice A2 n2 c2] 70))) := Lib.hid (two_below _ _ _)
  have m0 : ((w.alloc (.cells #[.string nm, .int .i64 ln, .slice Ar nr cr, .slice Av nv cv, .slice Ap np cp, .slice Ad nd cd, .slice Ac nc cc, .slice Af nf cf] 45)).alloc (.cells #[.string sn, .slice A1 n1 c1, .slice A2 n2 c2] 70)).heap[w.heap.size]? = some (.cells #[.string nm, .int .i64 ln, .slice Ar nr cr, .slice Av nv cv, .slice Ap np cp, .slice Ad nd cd, .slice Ac nc cc, .slice Af nf cf] 45) := (Below.heap_alloc _ _ _ (by simp)).trans (heap_alloc_new w _)
  have m1 : ((w.alloc (.cells #[.string nm, .int .i64 ln, .slice Ar nr cr, .slice Av nv cv, .slice Ap np cp, .slice Ad nd cd, .slice Ac nc cc, .slice Af nf cf] 45)).alloc (.cells #[.string sn, .slice A1 n1 c1, .slice A2 n2 c2] 70)).heap[w.heap.size + 1]? = some (.cells #[.string sn, .slice A1 n1 c1, .slice A2 n2 c2] 70) := two_new _ _ _
  have k3 : ((w.alloc (.cells #[.string nm, .int .i64 ln, .slice Ar nr cr, .slice Av nv cv, .slice Ap np cp, .slice Ad nd cd, .slice Ac nc cc, .slice Af nf cf] 45)).alloc (.cells #[.string sn, .slice A1 n1 c1, .slice A2 n2 c2] 70)).cell? ⟨w.heap.size, 3, none⟩ = some (.slice Av nv cv) := blk_cell m0 rfl
  have l2 : ((w.alloc (.cells #[.string nm, .int .i64 ln, .slice Ar nr cr, .slice Av nv cv, .slice Ap np cp, .slice Ad nd cd, .slice Ac nc cc, .slice Af nf cf] 45)).alloc (.cells #[.string sn, .slice A1 n1 c1, .slice A2 n2 c2] 70)).cell? ⟨w.heap.size + 1, 2, none⟩ = some (.slice A2 n2 c2) := blk_cell m1 rfl
  have K3 := Lib.hid k3
  have LT : Hid (w.heap.size < ((w.alloc (.cells #[.string nm, .int .i64 ln, .slice Ar nr cr, .slice Av nv cv, .slice Ap np cp, .slice Ad nd cd, .slice Ac nc cc, .slice Af nf cf] 45)).alloc (.cells #[.string sn, .slice A1 n1 c1, .slice A2 n2 c2] 70)).heap.size) := Lib.hid (by simp; omega)
  have SV := Lib.hid (s2.below vr_stays (Nat.le_refl B) bb)
  have ST := Lib.hid (t2.below pr2_stays (Nat.le_refl B) bb)
  have HB : Hid (B ≤ ((w.alloc (.cells #[.string nm, .int .i64 ln, .slice Ar nr cr, .slice Av nv cv, .slice Ap np cp, .slice Ad nd cd, .slice Ac nc cc, .slice Af nf cf] 45)).alloc (.cells #[.string sn, .slice A1 n1 c1, .slice A2 n2 c2] 70)).heap.size) := Lib.hid (Nat.le_trans hB B0.out.size)
  have n5 := t2.le
  have HN := Lib.hid t2.len
  have hmf : ∀ (fn : Fn) (first cap : Array Value) (w : World), (Instr.makeFunc fn first cap).run Try.prog w = .ok (.func fn first cap) w := fun _ _ _ _ => rfl
  have HMF := Lib.hid hmf
  clear h h2 hc s2 t2 bb hB m0 m1 hmf
  show Calls Try.prog _ #[.agg #[.string nm, .int .i64 ln, .slice Ar nr cr, .slice Av nv cv, .slice Ap np cp, .slice Ad nd cd, .slice Ac nc cc, .slice Af nf cf], .agg #[.string sn, .slice A1 n1 c1, .slice A2 n2 c2]] w _
  go_enter Try.func60, Try.ntmps60
  go_wp2_with fail
  clear k3 l2
  go_loopw [6, 7, 11] (fun _ _ v wq => ∃ i : Nat, v = .int .i64 i ∧ i ≤ n2 ∧ (sets.take i).all (fun s => vars.any (setV s)) = true ∧ Below ((w.alloc (.cells #[.string nm, .int .i64 ln, .slice Ar nr cr, .slice Av nv cv, .slice Ap np cp, .slice Ad nd cd, .slice Ac nc cc, .slice Af nf cf] 45)).alloc (.cells #[.string sn, .slice A1 n1 c1, .slice A2 n2 c2] 70)).heap.size ((w.alloc (.cells #[.string nm, .int .i64 ln, .slice Ar nr cr, .slice Av nv cv, .slice Ap np cp, .slice Ad nd cd, .slice Ac nc cc, .slice Af nf cf] 45)).alloc (.cells #[.string sn, .slice A1 n1 c1, .slice A2 n2 c2] 70)) wq) (fun _ _ v _ => n2 - (intOf v).toNat)
  case atStart => exact ⟨0, rfl, Nat.zero_le _, rfl, Below.refl _ _⟩
  case round =>
    obtain ⟨i, rfl, hi, hq, hbw⟩ := hrel
    have HQ := Lib.hid hq
    have BW := Lib.hid hbw
    have BE : Hid (Below w.heap.size w wr) := Lib.hid (B0.out.trans (hbw.mono (Nat.le_of_lt LT.out)))
    clear hq hbw
    by_cases hlt : i < n2
    · have hlt' : (i : Int) < (n2 : Int) := by omega
      obtain ⟨⟨s, u⟩, b, o, t1, rfl, t3, x00, x01, -, -⟩ := pr2_at ST.out hlt
      simp only [] at x00 x01
      have T1 := Lib.hid t1
      have x0 := (BW.out.cell (p := ⟨b, o + i * 2, none⟩) (Nat.lt_of_lt_of_le t3 HB.out)).trans x00
      have x1 := (BW.out.cell (p := ⟨b, o + i * 2 + 1, none⟩) (Nat.lt_of_lt_of_le t3 HB.out)).trans x01
      have BA := Lib.hid (BW.out.alloc BW.out.size (.cells #[.string s, .string u] 75))
      have k3 := (BA.out.cell (p := ⟨w.heap.size, 3, none⟩) LT.out).trans K3.out
      have e1 := heap_alloc_new wr (.cells #[.string s, .string u] 75)
      obtain ⟨g, hg⟩ : ∃ g, g = vars.any (setV (s, u)) := ⟨_, rfl⟩
      have CC := Lib.hid (containsC_any (SV.out.below vr_stays (Nat.le_refl B) (BA.out.mono HB.out)) (Nat.le_trans HB.out BA.out.size) s u wr.heap.size (by simp) (blk_cell (j := 0) e1 rfl) (blk_cell (j := 1) e1 rfl))
      rw [← hg] at CC
      have BF : Hid (Below w.heap.size w (wr.alloc (.cells #[.string s, .string u] 75))) := Lib.hid (BE.out.alloc BE.out.size _)
      have hmf := HMF.out
      have HG := Lib.hid hg
      clear t1 t3 x00 x01 e1 hg
      cases g
      case false =>
        have R : Hid (condC vars sets = 8) := Lib.hid (by unfold condC condB; rw [all_hit T1.out HG.out.symm]; rfl)
        go_wp2_with (go_at_call 79; refine CC.out.mono ?_; rintro e w1 ⟨rfl, hb1⟩; have BZ := Lib.hid (bstep BF.out hb1 BF.out.size); clear hb1)
        go_ret
        rw [R.out]
        exact ⟨rfl, BZ.out⟩
      have HQ2 : Hid ((sets.take (i + 1)).all (fun s => vars.any (setV s)) = true) := Lib.hid (all_next T1.out HQ.out HG.out.symm)
      go_wp2_with (go_at_call 79; refine CC.out.mono ?_; rintro e w1 ⟨rfl, hb1⟩; have BZ := Lib.hid (bstep BA.out hb1 BA.out.size); clear hb1)
      go_roundw
      case rel => exact ⟨i + 1, by go_num, by omega, HQ2.out, BZ.out⟩
      case measure => simp [intOf]; omega
    · have R : Hid (condC vars sets = 0) := Lib.hid (by
        have h := HQ.out
        rw [take_all (by have := HN.out; omega)] at h
        unfold condC condB; rw [h]; rfl)
      go_wp2_with fail
      go_ret
      rw [R.out]
      exact ⟨rfl, BE.out⟩

end Go.Proofs.Ytccmgaibikiedaa.Dc
