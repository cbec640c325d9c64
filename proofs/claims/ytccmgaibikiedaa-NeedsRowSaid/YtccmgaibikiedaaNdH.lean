/- Ranks of releases. -/
import Derived.Test.YtccmgaibikiedaaNdG
import Derived.Test.YtccmgaibikiedaaVerLawA
namespace Go.Proofs.Ytccmgaibikiedaa.Dc
open Go.RowKit
set_option linter.unusedVariables false
set_option linter.unusedSimpArgs false
def newB (v : ByteArray) (r : Rel) : Bool := decide (0 < Ver.cmpV r.1.data.toList v.data.toList)
def hasV (v : ByteArray) (r : Rel) : Bool := eqB r.1 v
def rankF (p : Pk) (v : ByteArray) : Int := if p.rels.any (hasV v) = true then ((p.rels.countP (newB v) : Nat) : Int) else -1
theorem count_next {α : Type} {l : List α} {f : α → Bool} {i : Nat} {y : α} (h : l[i]? = some y) : (l.take (i + 1)).countP f = (l.take i).countP f + (if f y = true then 1 else 0) := by
  rw [take_next h, List.countP_append]
  simp [List.countP_cons]
theorem any_more {α : Type} {l : List α} {f : α → Bool} {i : Nat} {y : α} (h : l[i]? = some y) : (l.take (i + 1)).any f = ((l.take i).any f || f y) := by
  rw [take_next h, List.any_append]
  simp
theorem count_le {α : Type} {l : List α} {f : α → Bool} {i : Nat} : (l.take i).countP f ≤ i := Nat.le_trans List.countP_le_length (List.length_take_le _ _)
theorem swap_new (a b : ByteArray) : decide (Ver.cmpV a.data.toList b.data.toList < 0) = decide (0 < Ver.cmpV b.data.toList a.data.toList) := by
  have h := Ver.ord_v.anti a.data.toList b.data.toList
  rw [Bool.eq_iff_iff]
  simp only [decide_eq_true_eq]
  omega
set_option maxHeartbeats 4000000 in
set_option maxRecDepth 100000 in
theorem rank_any {w : World} {B : Nat} {p : Pk} {ps : List Value} (h : pkD w B ps p) (hB : B ≤ w.heap.size) (v : ByteArray) (hv : v.size ≤ maxLen) : Calls Try.prog 22 #[.agg ps.toArray, .string v] w fun e w' => e = .returned (.int .i64 (rankF p v)) ∧ Below w.heap.size w w' := by
  obtain ⟨Ar, nr, cr, Av, nv, cv, Ap, np, cp, Ad, nd, cd, Ac, nc, cc, Af, nf, cf, hps, hc⟩ := pk_cells h
  obtain ⟨nm, hnm⟩ : ∃ y, y = p.name := ⟨_, rfl⟩
  obtain ⟨ln, hln⟩ : ∃ y, y = p.line := ⟨_, rfl⟩
  rw [← hnm, ← hln] at hps
  have n5 := hc.rels.le
  have HN := Lib.hid hc.rels.len
  have SR : Hid (∀ W, Below w.heap.size w W → Sl Rel 2 relD W B Ar nr cr p.rels) := Lib.hid (fun W hb => hc.rels.below rel_stays (Nat.le_refl B) (hb.mono hB))
  have HV := Lib.hid hv
  have R := Lib.hid (show Bxs w [(#[.string nm, .int .i64 ln, .slice Ar nr cr, .slice Av nv cv, .slice Ap np cp, .slice Ad nd cd, .slice Ac nc cc, .slice Af nf cf], 45)] _ from (Bxs.nil w).push (by simp) #[.string nm, .int .i64 ln, .slice Ar nr cr, .slice Av nv cv, .slice Ap np cp, .slice Ad nd cd, .slice Ac nc cc, .slice Af nf cf] 45)
  have KC : Hid (∀ W, Bxs w [(#[.string nm, .int .i64 ln, .slice Ar nr cr, .slice Av nv cv, .slice Ap np cp, .slice Ad nd cd, .slice Ac nc cc, .slice Af nf cf], 45)] W → W.cell? ⟨w.heap.size, 0, none⟩ = some (.string nm) ∧ W.cell? ⟨w.heap.size, 1, none⟩ = some (.int .i64 ln) ∧ W.cell? ⟨w.heap.size, 2, none⟩ = some (.slice Ar nr cr) ∧ W.cell? ⟨w.heap.size, 3, none⟩ = some (.slice Av nv cv) ∧ W.cell? ⟨w.heap.size, 4, none⟩ = some (.slice Ap np cp) ∧ W.cell? ⟨w.heap.size, 5, none⟩ = some (.slice Ad nd cd) ∧ W.cell? ⟨w.heap.size, 6, none⟩ = some (.slice Ac nc cc) ∧ W.cell? ⟨w.heap.size, 7, none⟩ = some (.slice Af nf cf)) := Lib.hid (fun W hR => ⟨blk_cell (j := 0) (hR.box 0 _ rfl) rfl, blk_cell (j := 1) (hR.box 0 _ rfl) rfl, blk_cell (j := 2) (hR.box 0 _ rfl) rfl, blk_cell (j := 3) (hR.box 0 _ rfl) rfl, blk_cell (j := 4) (hR.box 0 _ rfl) rfl, blk_cell (j := 5) (hR.box 0 _ rfl) rfl, blk_cell (j := 6) (hR.box 0 _ rfl) rfl, blk_cell (j := 7) (hR.box 0 _ rfl) rfl⟩)
  rw [hps]
  clear h hc hps hnm hln hB hv
  obtain ⟨k0, k1, k2, k3, k4, k5, k6, k7⟩ := KC.out _ R.out
  show Calls Try.prog _ #[.agg #[.string nm, .int .i64 ln, .slice Ar nr cr, .slice Av nv cv, .slice Ap np cp, .slice Ad nd cd, .slice Ac nc cc, .slice Af nf cf], .string v] w _
  go_enter Try.func22, Try.ntmps22
  go_wp2_with fail
  clear k0 k1 k2 k3 k4 k5 k6 k7
  go_loopw [5, 6, 8, 12] (fun fo nw _ vi wq => ∃ i : Nat, vi = .int .i64 i ∧ i ≤ nr ∧ fo = .bool ((p.rels.take i).any (hasV v)) ∧ nw = .int .i64 (((p.rels.take i).countP (newB v) : Nat) : Int) ∧ Bxs w [(#[.string nm, .int .i64 ln, .slice Ar nr cr, .slice Av nv cv, .slice Ap np cp, .slice Ad nd cd, .slice Ac nc cc, .slice Af nf cf], 45)] wq) (fun _ _ _ v _ => nr - (RowKit.intOf v).toNat)
  case atStart => exact ⟨0, rfl, Nat.zero_le _, rfl, rfl, R.out⟩
  case round =>
    obtain ⟨i, rfl, hi, rfl, rfl, hr⟩ := hrel
    have R := Lib.hid hr
    clear hr
    have CL := Lib.hid (count_le (l := p.rels) (f := newB v) (i := i))
    by_cases hlt : i < nr
    · have hlt' : (i : Int) < (nr : Int) := by omega
      obtain ⟨⟨s, old⟩, b, o, t1, hA, t3, x0, x1, s5⟩ := rel_at (SR.out _ R.out.below) hlt
      simp only [] at x0 x1 s5
      have AM := Lib.hid (any_more (f := hasV v) t1)
      have CN := Lib.hid (count_next (f := newB v) t1)
      obtain ⟨f, hf⟩ : ∃ f, f = (p.rels.take i).any (hasV v) := ⟨_, rfl⟩
      obtain ⟨c, hcc⟩ : ∃ c, c = (p.rels.take i).countP (newB v) := ⟨_, rfl⟩
      rw [← hf] at AM ⊢
      rw [← hcc] at CN CL ⊢
      have hc0 : (0 : Int) ≤ (c : Int) := by omega
      have hc1 : (c : Int) < (nr : Int) := by have := CL.out; omega
      obtain ⟨z, hz⟩ : ∃ z : Int, z = Ver.cmpV s.data.toList v.data.toList := ⟨_, rfl⟩
      obtain ⟨gn, hgn⟩ : ∃ g, g = decide (0 < z) := ⟨_, rfl⟩
      have GN : Hid (gn = newB v (s, old)) := Lib.hid (by rw [hgn, hz]; rfl)
      have HQ : Hid (hasV v (s, old) = (s.toList == v.toList)) := Lib.hid rfl
      have C1 : Hid (∀ W, Calls Try.prog 47 #[.string s, .string v] W fun e w' => e = .returned (.int .i64 z) ∧ Below W.heap.size W w') := Lib.hid (fun W => by
        rw [hz]; exact Ver.compare_any s v W s5 HV.out)
      have R := Lib.hid (R.out.alloc (.cells #[.string s, .bool old] 55))
      have y0 := blk_cell (j := 0) (heap_alloc_new wr (.cells #[.string s, .bool old] 55)) rfl
      have HGN := Lib.hid hgn
      clear hz hgn
      subst hA
      clear t1 t3 s5 hf hcc
      obtain ⟨k0, k1, k2, k3, k4, k5, k6, k7⟩ := KC.out _ R.out
      cases gn
      · have C2 : Hid ((p.rels.take (i + 1)).countP (newB v) = c) := Lib.hid (by rw [CN.out, ← GN.out]; rfl)
        cases f
        · cases q : (s.toList == v.toList)
          · have A2 : Hid ((p.rels.take (i + 1)).any (hasV v) = false) := Lib.hid (by rw [AM.out, HQ.out, q]; rfl)
            have zz := (show ¬ 0 < z from of_decide_eq_false HGN.out.symm)
            go_wp2_with (go_at_call 47; (with_reducible refine (C1.out _).mono ?_); rintro e v1 ⟨rfl, hb⟩; have R := Lib.hid (R.out.step hb); clear hb; obtain ⟨k0, k1, k2, k3, k4, k5, k6, k7⟩ := KC.out _ R.out)
            go_roundw
            case rel => exact ⟨i + 1, by go_num, by omega, by rw [A2.out], by first | (rw [C2.out]; done) | (rw [C2.out]; go_num), R.out⟩
            case measure => simp [RowKit.intOf]; omega
          · have A2 : Hid ((p.rels.take (i + 1)).any (hasV v) = true) := Lib.hid (by rw [AM.out, HQ.out, q]; rfl)
            have zz := (show ¬ 0 < z from of_decide_eq_false HGN.out.symm)
            go_wp2_with (go_at_call 47; (with_reducible refine (C1.out _).mono ?_); rintro e v1 ⟨rfl, hb⟩; have R := Lib.hid (R.out.step hb); clear hb; obtain ⟨k0, k1, k2, k3, k4, k5, k6, k7⟩ := KC.out _ R.out)
            go_roundw
            case rel => exact ⟨i + 1, by go_num, by omega, by rw [A2.out], by first | (rw [C2.out]; done) | (rw [C2.out]; go_num), R.out⟩
            case measure => simp [RowKit.intOf]; omega
        · have A2 : Hid ((p.rels.take (i + 1)).any (hasV v) = true) := Lib.hid (by rw [AM.out]; rfl)
          have zz := (show ¬ 0 < z from of_decide_eq_false HGN.out.symm)
          go_wp2_with (go_at_call 47; (with_reducible refine (C1.out _).mono ?_); rintro e v1 ⟨rfl, hb⟩; have R := Lib.hid (R.out.step hb); clear hb; obtain ⟨k0, k1, k2, k3, k4, k5, k6, k7⟩ := KC.out _ R.out)
          go_roundw
          case rel => exact ⟨i + 1, by go_num, by omega, by rw [A2.out], by first | (rw [C2.out]; done) | (rw [C2.out]; go_num), R.out⟩
          case measure => simp [RowKit.intOf]; omega
      · have C2 : Hid ((p.rels.take (i + 1)).countP (newB v) = c + 1) := Lib.hid (by rw [CN.out, ← GN.out]; rfl)
        cases f
        · cases q : (s.toList == v.toList)
          · have A2 : Hid ((p.rels.take (i + 1)).any (hasV v) = false) := Lib.hid (by rw [AM.out, HQ.out, q]; rfl)
            have zz := (show 0 < z from of_decide_eq_true HGN.out.symm)
            go_wp2_with (go_at_call 47; (with_reducible refine (C1.out _).mono ?_); rintro e v1 ⟨rfl, hb⟩; have R := Lib.hid (R.out.step hb); clear hb; obtain ⟨k0, k1, k2, k3, k4, k5, k6, k7⟩ := KC.out _ R.out)
            go_roundw
            case rel => exact ⟨i + 1, by go_num, by omega, by rw [A2.out], by first | (rw [C2.out]; done) | (rw [C2.out]; go_num), R.out⟩
            case measure => simp [RowKit.intOf]; omega
          · have A2 : Hid ((p.rels.take (i + 1)).any (hasV v) = true) := Lib.hid (by rw [AM.out, HQ.out, q]; rfl)
            have zz := (show 0 < z from of_decide_eq_true HGN.out.symm)
            go_wp2_with (go_at_call 47; (with_reducible refine (C1.out _).mono ?_); rintro e v1 ⟨rfl, hb⟩; have R := Lib.hid (R.out.step hb); clear hb; obtain ⟨k0, k1, k2, k3, k4, k5, k6, k7⟩ := KC.out _ R.out)
            go_roundw
            case rel => exact ⟨i + 1, by go_num, by omega, by rw [A2.out], by first | (rw [C2.out]; done) | (rw [C2.out]; go_num), R.out⟩
            case measure => simp [RowKit.intOf]; omega
        · have A2 : Hid ((p.rels.take (i + 1)).any (hasV v) = true) := Lib.hid (by rw [AM.out]; rfl)
          have zz := (show 0 < z from of_decide_eq_true HGN.out.symm)
          go_wp2_with (go_at_call 47; (with_reducible refine (C1.out _).mono ?_); rintro e v1 ⟨rfl, hb⟩; have R := Lib.hid (R.out.step hb); clear hb; obtain ⟨k0, k1, k2, k3, k4, k5, k6, k7⟩ := KC.out _ R.out)
          go_roundw
          case rel => exact ⟨i + 1, by go_num, by omega, by rw [A2.out], by first | (rw [C2.out]; done) | (rw [C2.out]; go_num), R.out⟩
          case measure => simp [RowKit.intOf]; omega
    · have E1 : Hid (p.rels.take i = p.rels) := Lib.hid (take_all (by have := HN.out; omega))
      obtain ⟨f, hf⟩ : ∃ f, f = p.rels.any (hasV v) := ⟨_, rfl⟩
      have RF : Hid (rankF p v = if f = true then ((p.rels.countP (newB v) : Nat) : Int) else -1) := Lib.hid (by rw [hf]; rfl)
      rw [E1.out, ← hf]
      clear hf
      cases f
      · go_wp2_with fail
        go_ret
        rw [RF.out]
        exact ⟨rfl, R.out.below⟩
      · go_wp2_with fail
        go_ret
        rw [RF.out]
        exact ⟨rfl, R.out.below⟩
set_option maxHeartbeats 4000000 in
set_option maxRecDepth 100000 in
theorem rrank_any {w : World} {B : Nat} {p : Pk} {ps : List Value} (h : pkD w B ps p) (hB : B ≤ w.heap.size) (v : ByteArray) (hv : v.size ≤ maxLen) : Calls Try.prog 23 #[.agg ps.toArray, .string v] w fun e w' => e = .returned (.int .i64 (rankF p v)) ∧ Below w.heap.size w w' := by
  obtain ⟨Ar, nr, cr, Av, nv, cv, Ap, np, cp, Ad, nd, cd, Ac, nc, cc, Af, nf, cf, hps, hc⟩ := pk_cells h
  obtain ⟨nm, hnm⟩ : ∃ y, y = p.name := ⟨_, rfl⟩
  obtain ⟨ln, hln⟩ : ∃ y, y = p.line := ⟨_, rfl⟩
  rw [← hnm, ← hln] at hps
  have n5 := hc.rels.le
  have HN := Lib.hid hc.rels.len
  have SR : Hid (∀ W, Below w.heap.size w W → Sl Rel 2 relD W B Ar nr cr p.rels) := Lib.hid (fun W hb => hc.rels.below rel_stays (Nat.le_refl B) (hb.mono hB))
  have HV := Lib.hid hv
  have R := Lib.hid (show Bxs w [(#[.string nm, .int .i64 ln, .slice Ar nr cr, .slice Av nv cv, .slice Ap np cp, .slice Ad nd cd, .slice Ac nc cc, .slice Af nf cf], 45)] _ from (Bxs.nil w).push (by simp) #[.string nm, .int .i64 ln, .slice Ar nr cr, .slice Av nv cv, .slice Ap np cp, .slice Ad nd cd, .slice Ac nc cc, .slice Af nf cf] 45)
  have KC : Hid (∀ W, Bxs w [(#[.string nm, .int .i64 ln, .slice Ar nr cr, .slice Av nv cv, .slice Ap np cp, .slice Ad nd cd, .slice Ac nc cc, .slice Af nf cf], 45)] W → W.cell? ⟨w.heap.size, 0, none⟩ = some (.string nm) ∧ W.cell? ⟨w.heap.size, 1, none⟩ = some (.int .i64 ln) ∧ W.cell? ⟨w.heap.size, 2, none⟩ = some (.slice Ar nr cr) ∧ W.cell? ⟨w.heap.size, 3, none⟩ = some (.slice Av nv cv) ∧ W.cell? ⟨w.heap.size, 4, none⟩ = some (.slice Ap np cp) ∧ W.cell? ⟨w.heap.size, 5, none⟩ = some (.slice Ad nd cd) ∧ W.cell? ⟨w.heap.size, 6, none⟩ = some (.slice Ac nc cc) ∧ W.cell? ⟨w.heap.size, 7, none⟩ = some (.slice Af nf cf)) := Lib.hid (fun W hR => ⟨blk_cell (j := 0) (hR.box 0 _ rfl) rfl, blk_cell (j := 1) (hR.box 0 _ rfl) rfl, blk_cell (j := 2) (hR.box 0 _ rfl) rfl, blk_cell (j := 3) (hR.box 0 _ rfl) rfl, blk_cell (j := 4) (hR.box 0 _ rfl) rfl, blk_cell (j := 5) (hR.box 0 _ rfl) rfl, blk_cell (j := 6) (hR.box 0 _ rfl) rfl, blk_cell (j := 7) (hR.box 0 _ rfl) rfl⟩)
  rw [hps]
  clear h hc hps hnm hln hB hv
  obtain ⟨k0, k1, k2, k3, k4, k5, k6, k7⟩ := KC.out _ R.out
  show Calls Try.prog _ #[.agg #[.string nm, .int .i64 ln, .slice Ar nr cr, .slice Av nv cv, .slice Ap np cp, .slice Ad nd cd, .slice Ac nc cc, .slice Af nf cf], .string v] w _
  go_enter Try.func23, Try.ntmps23
  go_wp2_with fail
  clear k0 k1 k2 k3 k4 k5 k6 k7
  go_loopw [5, 6, 7, 11] (fun nw fo _ vi wq => ∃ i : Nat, vi = .int .i64 i ∧ i ≤ nr ∧ nw = .int .i64 (((p.rels.take i).countP (newB v) : Nat) : Int) ∧ fo = .bool ((p.rels.take i).any (hasV v)) ∧ Bxs w [(#[.string nm, .int .i64 ln, .slice Ar nr cr, .slice Av nv cv, .slice Ap np cp, .slice Ad nd cd, .slice Ac nc cc, .slice Af nf cf], 45)] wq) (fun _ _ _ v _ => nr - (RowKit.intOf v).toNat)
  case atStart => exact ⟨0, rfl, Nat.zero_le _, rfl, rfl, R.out⟩
  case round =>
    obtain ⟨i, rfl, hi, rfl, rfl, hr⟩ := hrel
    have R := Lib.hid hr
    clear hr
    have CL := Lib.hid (count_le (l := p.rels) (f := newB v) (i := i))
    by_cases hlt : i < nr
    · have hlt' : (i : Int) < (nr : Int) := by omega
      obtain ⟨⟨s, old⟩, b, o, t1, hA, t3, x0, x1, s5⟩ := rel_at (SR.out _ R.out.below) hlt
      simp only [] at x0 x1 s5
      have AM := Lib.hid (any_more (f := hasV v) t1)
      have CN := Lib.hid (count_next (f := newB v) t1)
      obtain ⟨f, hf⟩ : ∃ f, f = (p.rels.take i).any (hasV v) := ⟨_, rfl⟩
      obtain ⟨c, hcc⟩ : ∃ c, c = (p.rels.take i).countP (newB v) := ⟨_, rfl⟩
      rw [← hf] at AM ⊢
      rw [← hcc] at CN CL ⊢
      have hc0 : (0 : Int) ≤ (c : Int) := by omega
      have hc1 : (c : Int) < (nr : Int) := by have := CL.out; omega
      obtain ⟨gn, hgn⟩ : ∃ g, g = newB v (s, old) := ⟨_, rfl⟩
      have GN := Lib.hid hgn
      have HQ : Hid (hasV v (s, old) = (s.toList == v.toList)) := Lib.hid rfl
      have C1 : Hid (∀ W, Calls Try.prog 30 #[.string v, .string s] W fun e w' => e = .returned (.bool gn) ∧ Below W.heap.size W w') := Lib.hid (fun W => by
        have hl := Ver.less_any v s W HV.out s5
        rw [swap_new] at hl
        rw [hgn]; exact hl)
      clear hgn
      subst hA
      clear t1 t3 s5 hf hcc
      obtain ⟨k0, k1, k2, k3, k4, k5, k6, k7⟩ := KC.out _ R.out
      cases gn
      · have C2 : Hid ((p.rels.take (i + 1)).countP (newB v) = c) := Lib.hid (by rw [CN.out, ← GN.out]; rfl)
        cases f
        · cases q : (s.toList == v.toList)
          · have A2 : Hid ((p.rels.take (i + 1)).any (hasV v) = false) := Lib.hid (by rw [AM.out, HQ.out, q]; rfl)
            go_wp2_with (go_at_call 30; (with_reducible refine (C1.out _).mono ?_); rintro e v1 ⟨rfl, hb⟩; have R := Lib.hid (R.out.step hb); clear hb; obtain ⟨k0, k1, k2, k3, k4, k5, k6, k7⟩ := KC.out _ R.out)
            go_roundw
            case rel => exact ⟨i + 1, by go_num, by omega, by first | (rw [C2.out]; done) | (rw [C2.out]; go_num), by rw [A2.out], R.out⟩
            case measure => simp [RowKit.intOf]; omega
          · have A2 : Hid ((p.rels.take (i + 1)).any (hasV v) = true) := Lib.hid (by rw [AM.out, HQ.out, q]; rfl)
            go_wp2_with (go_at_call 30; (with_reducible refine (C1.out _).mono ?_); rintro e v1 ⟨rfl, hb⟩; have R := Lib.hid (R.out.step hb); clear hb; obtain ⟨k0, k1, k2, k3, k4, k5, k6, k7⟩ := KC.out _ R.out)
            go_roundw
            case rel => exact ⟨i + 1, by go_num, by omega, by first | (rw [C2.out]; done) | (rw [C2.out]; go_num), by rw [A2.out], R.out⟩
            case measure => simp [RowKit.intOf]; omega
        · have A2 : Hid ((p.rels.take (i + 1)).any (hasV v) = true) := Lib.hid (by rw [AM.out]; rfl)
          go_wp2_with (go_at_call 30; (with_reducible refine (C1.out _).mono ?_); rintro e v1 ⟨rfl, hb⟩; have R := Lib.hid (R.out.step hb); clear hb; obtain ⟨k0, k1, k2, k3, k4, k5, k6, k7⟩ := KC.out _ R.out)
          go_roundw
          case rel => exact ⟨i + 1, by go_num, by omega, by first | (rw [C2.out]; done) | (rw [C2.out]; go_num), by rw [A2.out], R.out⟩
          case measure => simp [RowKit.intOf]; omega
      · have C2 : Hid ((p.rels.take (i + 1)).countP (newB v) = c + 1) := Lib.hid (by rw [CN.out, ← GN.out]; rfl)
        cases f
        · cases q : (s.toList == v.toList)
          · have A2 : Hid ((p.rels.take (i + 1)).any (hasV v) = false) := Lib.hid (by rw [AM.out, HQ.out, q]; rfl)
            go_wp2_with (go_at_call 30; (with_reducible refine (C1.out _).mono ?_); rintro e v1 ⟨rfl, hb⟩; have R := Lib.hid (R.out.step hb); clear hb; obtain ⟨k0, k1, k2, k3, k4, k5, k6, k7⟩ := KC.out _ R.out)
            go_roundw
            case rel => exact ⟨i + 1, by go_num, by omega, by first | (rw [C2.out]; done) | (rw [C2.out]; go_num), by rw [A2.out], R.out⟩
            case measure => simp [RowKit.intOf]; omega
          · have A2 : Hid ((p.rels.take (i + 1)).any (hasV v) = true) := Lib.hid (by rw [AM.out, HQ.out, q]; rfl)
            go_wp2_with (go_at_call 30; (with_reducible refine (C1.out _).mono ?_); rintro e v1 ⟨rfl, hb⟩; have R := Lib.hid (R.out.step hb); clear hb; obtain ⟨k0, k1, k2, k3, k4, k5, k6, k7⟩ := KC.out _ R.out)
            go_roundw
            case rel => exact ⟨i + 1, by go_num, by omega, by first | (rw [C2.out]; done) | (rw [C2.out]; go_num), by rw [A2.out], R.out⟩
            case measure => simp [RowKit.intOf]; omega
        · have A2 : Hid ((p.rels.take (i + 1)).any (hasV v) = true) := Lib.hid (by rw [AM.out]; rfl)
          go_wp2_with (go_at_call 30; (with_reducible refine (C1.out _).mono ?_); rintro e v1 ⟨rfl, hb⟩; have R := Lib.hid (R.out.step hb); clear hb; obtain ⟨k0, k1, k2, k3, k4, k5, k6, k7⟩ := KC.out _ R.out)
          go_roundw
          case rel => exact ⟨i + 1, by go_num, by omega, by first | (rw [C2.out]; done) | (rw [C2.out]; go_num), by rw [A2.out], R.out⟩
          case measure => simp [RowKit.intOf]; omega
    · have E1 : Hid (p.rels.take i = p.rels) := Lib.hid (take_all (by have := HN.out; omega))
      obtain ⟨f, hf⟩ : ∃ f, f = p.rels.any (hasV v) := ⟨_, rfl⟩
      have RF : Hid (rankF p v = if f = true then ((p.rels.countP (newB v) : Nat) : Int) else -1) := Lib.hid (by rw [hf]; rfl)
      rw [E1.out, ← hf]
      clear hf
      cases f
      · go_wp2_with fail
        go_ret
        rw [RF.out]
        exact ⟨rfl, R.out.below⟩
      · go_wp2_with fail
        go_ret
        rw [RF.out]
        exact ⟨rfl, R.out.below⟩

end Go.Proofs.Ytccmgaibikiedaa.Dc
