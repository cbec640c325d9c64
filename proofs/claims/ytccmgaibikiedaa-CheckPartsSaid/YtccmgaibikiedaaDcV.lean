/- Recipes: what is wrong with a wish. -/
import Derived.Test.YtccmgaibikiedaaDcU
namespace Go.Proofs.Ytccmgaibikiedaa.Dc
open Go.RowKit
set_option linter.unusedVariables false
set_option linter.unusedSimpArgs false
def varsAt (l : List Pk) (i : Nat) : List Vr := ((l[i]?).map (·.vars)).getD []
def wishF (x : Rc) (s : Sp) : Nat := if 0 ≤ findF x.packs s.name then condC (varsAt x.packs (findF x.packs s.name).toNat) s.sets else if virtB x s.name = true then (if freeB s.spans = true ∧ s.sets.length = 0 then 0 else 9) else 7
set_option maxHeartbeats 8000000 in
set_option maxRecDepth 100000 in
theorem wishCode_any {w : World} {B : Nat} {x : Rc} {s : Sp} {cs ss : List Value} (h : rcD w B cs x) (h2 : spD w B ss s) (hB : B ≤ w.heap.size) (hl : x.packs.length ≤ 1000) : Calls Try.prog 45 #[.agg cs.toArray, .agg ss.toArray] w fun e w' => e = .returned (.int .u8 (wishF x s)) ∧ Below w.heap.size w w' := by
  obtain ⟨A1, n1, c1, A2, n2, c2, hcs, s1, s2⟩ := rc_cells h
  obtain ⟨D1, m1, e1, D2, m2, e2, hss, -, u1, u2⟩ := sp_cells h2
  obtain ⟨sn, hsn⟩ : ∃ y, y = s.name := ⟨_, rfl⟩
  rw [← hsn] at hss
  have bb : Below B w ((w.alloc (.cells #[.slice A1 n1 c1, .slice A2 n2 c2] 25)).alloc (.cells #[.string sn, .slice D1 m1 e1, .slice D2 m2 e2] 70)) := ((Below.refl B w).alloc hB _).alloc (Nat.le_trans hB (by simp)) _
  have B0 : Hid (Below w.heap.size w ((w.alloc (.cells #[.slice A1 n1 c1, .slice A2 n2 c2] 25)).alloc (.cells #[.string sn, .slice D1 m1 e1, .slice D2 m2 e2] 70))) := Lib.hid (two_below _ _ _)
  have m0 : ((w.alloc (.cells #[.slice A1 n1 c1, .slice A2 n2 c2] 25)).alloc (.cells #[.string sn, .slice D1 m1 e1, .slice D2 m2 e2] 70)).heap[w.heap.size]? = some (.cells #[.slice A1 n1 c1, .slice A2 n2 c2] 25) := (Below.heap_alloc _ _ _ (by simp)).trans (heap_alloc_new w _)
  have mm1 : ((w.alloc (.cells #[.slice A1 n1 c1, .slice A2 n2 c2] 25)).alloc (.cells #[.string sn, .slice D1 m1 e1, .slice D2 m2 e2] 70)).heap[w.heap.size + 1]? = some (.cells #[.string sn, .slice D1 m1 e1, .slice D2 m2 e2] 70) := two_new _ _ _
  have k0 : ((w.alloc (.cells #[.slice A1 n1 c1, .slice A2 n2 c2] 25)).alloc (.cells #[.string sn, .slice D1 m1 e1, .slice D2 m2 e2] 70)).cell? ⟨w.heap.size, 0, none⟩ = some (.slice A1 n1 c1) := blk_cell m0 rfl
  have k1 : ((w.alloc (.cells #[.slice A1 n1 c1, .slice A2 n2 c2] 25)).alloc (.cells #[.string sn, .slice D1 m1 e1, .slice D2 m2 e2] 70)).cell? ⟨w.heap.size, 1, none⟩ = some (.slice A2 n2 c2) := blk_cell m0 rfl
  have l0 : ((w.alloc (.cells #[.slice A1 n1 c1, .slice A2 n2 c2] 25)).alloc (.cells #[.string sn, .slice D1 m1 e1, .slice D2 m2 e2] 70)).cell? ⟨w.heap.size + 1, 0, none⟩ = some (.string sn) := blk_cell mm1 rfl
  have l1 : ((w.alloc (.cells #[.slice A1 n1 c1, .slice A2 n2 c2] 25)).alloc (.cells #[.string sn, .slice D1 m1 e1, .slice D2 m2 e2] 70)).cell? ⟨w.heap.size + 1, 1, none⟩ = some (.slice D1 m1 e1) := blk_cell mm1 rfl
  have l2 : ((w.alloc (.cells #[.slice A1 n1 c1, .slice A2 n2 c2] 25)).alloc (.cells #[.string sn, .slice D1 m1 e1, .slice D2 m2 e2] 70)).cell? ⟨w.heap.size + 1, 2, none⟩ = some (.slice D2 m2 e2) := blk_cell mm1 rfl
  have LT : Hid (w.heap.size < ((w.alloc (.cells #[.slice A1 n1 c1, .slice A2 n2 c2] 25)).alloc (.cells #[.string sn, .slice D1 m1 e1, .slice D2 m2 e2] 70)).heap.size ∧ w.heap.size + 1 < ((w.alloc (.cells #[.slice A1 n1 c1, .slice A2 n2 c2] 25)).alloc (.cells #[.string sn, .slice D1 m1 e1, .slice D2 m2 e2] 70)).heap.size) := Lib.hid ⟨by simp; omega, by simp⟩
  have KC : Hid (∀ w2, Below ((w.alloc (.cells #[.slice A1 n1 c1, .slice A2 n2 c2] 25)).alloc (.cells #[.string sn, .slice D1 m1 e1, .slice D2 m2 e2] 70)).heap.size ((w.alloc (.cells #[.slice A1 n1 c1, .slice A2 n2 c2] 25)).alloc (.cells #[.string sn, .slice D1 m1 e1, .slice D2 m2 e2] 70)) w2 → w2.cell? ⟨w.heap.size, 0, none⟩ = some (.slice A1 n1 c1) ∧ w2.cell? ⟨w.heap.size, 1, none⟩ = some (.slice A2 n2 c2) ∧ w2.cell? ⟨w.heap.size + 1, 0, none⟩ = some (.string sn) ∧ w2.cell? ⟨w.heap.size + 1, 1, none⟩ = some (.slice D1 m1 e1) ∧ w2.cell? ⟨w.heap.size + 1, 2, none⟩ = some (.slice D2 m2 e2)) := Lib.hid (fun w2 hb =>
    ⟨(hb.cell (p := ⟨w.heap.size, 0, none⟩) LT.out.1).trans k0, (hb.cell (p := ⟨w.heap.size, 1, none⟩) LT.out.1).trans k1, (hb.cell (p := ⟨w.heap.size + 1, 0, none⟩) LT.out.2).trans l0, (hb.cell (p := ⟨w.heap.size + 1, 1, none⟩) LT.out.2).trans l1, (hb.cell (p := ⟨w.heap.size + 1, 2, none⟩) LT.out.2).trans l2⟩)
  have HB : Hid (B ≤ ((w.alloc (.cells #[.slice A1 n1 c1, .slice A2 n2 c2] 25)).alloc (.cells #[.string sn, .slice D1 m1 e1, .slice D2 m2 e2] 70)).heap.size) := Lib.hid (Nat.le_trans hB B0.out.size)
  have DD : Hid (∀ w2, Below ((w.alloc (.cells #[.slice A1 n1 c1, .slice A2 n2 c2] 25)).alloc (.cells #[.string sn, .slice D1 m1 e1, .slice D2 m2 e2] 70)).heap.size ((w.alloc (.cells #[.slice A1 n1 c1, .slice A2 n2 c2] 25)).alloc (.cells #[.string sn, .slice D1 m1 e1, .slice D2 m2 e2] 70)) w2 → rcD w2 B [.slice A1 n1 c1, .slice A2 n2 c2] x ∧ spD w2 B [.string sn, .slice D1 m1 e1, .slice D2 m2 e2] s ∧ B ≤ w2.heap.size) := Lib.hid (fun w2 hb => by
    have h3 := rc_stays _ _ _ _ _ _ h (Nat.le_refl B) (bb.trans (hb.mono HB.out))
    have h4 := sp_stays _ _ _ _ _ _ h2 (Nat.le_refl B) (bb.trans (hb.mono HB.out))
    rw [hcs] at h3
    rw [hss] at h4
    exact ⟨h3, h4, Nat.le_trans HB.out hb.size⟩)
  obtain ⟨z, hz⟩ : ∃ z, z = findF x.packs s.name := ⟨_, rfl⟩
  have HZ := Lib.hid hz
  have C1 : Hid (∀ w2, Below ((w.alloc (.cells #[.slice A1 n1 c1, .slice A2 n2 c2] 25)).alloc (.cells #[.string sn, .slice D1 m1 e1, .slice D2 m2 e2] 70)).heap.size ((w.alloc (.cells #[.slice A1 n1 c1, .slice A2 n2 c2] 25)).alloc (.cells #[.string sn, .slice D1 m1 e1, .slice D2 m2 e2] 70)) w2 → Calls Try.prog 14 #[.agg #[.slice A1 n1 c1, .slice A2 n2 c2], .string sn] w2 fun e w' => e = .returned (.int .i64 z) ∧ Below w2.heap.size w2 w') := Lib.hid (fun w2 hb => by
    rw [hz, ← hsn]; exact find_any (DD.out w2 hb).1 (DD.out w2 hb).2.2 sn)
  have R := Lib.hid (Below.refl ((w.alloc (.cells #[.slice A1 n1 c1, .slice A2 n2 c2] 25)).alloc (.cells #[.string sn, .slice D1 m1 e1, .slice D2 m2 e2] 70)).heap.size ((w.alloc (.cells #[.slice A1 n1 c1, .slice A2 n2 c2] 25)).alloc (.cells #[.string sn, .slice D1 m1 e1, .slice D2 m2 e2] 70)))
  rcases findG_lt (f := nmB s.name) x.packs 0 with hz1 | ⟨i, hi, hz1⟩
  · have hzz : z = -1 := hz.trans hz1
    obtain ⟨vb, hvb⟩ : ∃ v, v = virtB x s.name := ⟨_, rfl⟩
    have C2 : Hid (∀ w2, Below ((w.alloc (.cells #[.slice A1 n1 c1, .slice A2 n2 c2] 25)).alloc (.cells #[.string sn, .slice D1 m1 e1, .slice D2 m2 e2] 70)).heap.size ((w.alloc (.cells #[.slice A1 n1 c1, .slice A2 n2 c2] 25)).alloc (.cells #[.string sn, .slice D1 m1 e1, .slice D2 m2 e2] 70)) w2 → Calls Try.prog 16 #[.agg #[.slice A1 n1 c1, .slice A2 n2 c2], .string sn] w2 fun e w' => e = .returned (.bool vb) ∧ Below w2.heap.size w2 w') := Lib.hid (fun w2 hb => by
      rw [hvb, ← hsn]; exact virtual_any (DD.out w2 hb).1 (DD.out w2 hb).2.2 hl sn)
    have W0 : Hid (wishF x s = if vb = true then (if freeB s.spans = true ∧ s.sets.length = 0 then 0 else 9) else 7) := Lib.hid (by
      unfold wishF; rw [← hz, hzz, hvb, if_neg (by decide)])
    have HN := Lib.hid u2.len
    have n5 := u2.le
    rw [hcs, hss]
    subst hzz
    clear h h2 s1 s2 u1 hz hz1 hvb hsn bb m0 mm1 hl hcs hss hB
    show Calls Try.prog _ #[.agg #[.slice A1 n1 c1, .slice A2 n2 c2], .agg #[.string sn, .slice D1 m1 e1, .slice D2 m2 e2]] w _
    cases vb
    case false =>
      have R0 : Hid (wishF x s = 7) := Lib.hid (by rw [W0.out]; rfl)
      go_enter Try.func45, Try.ntmps45
      go_wp2_with (first | (go_at_call 14; (with_reducible refine (C1.out _ R.out).mono ?_); rintro e v1 ⟨rfl, hb⟩; have R := Lib.hid (bstep R.out hb R.out.size); clear hb; obtain ⟨k0, k1, l0, l1, l2⟩ := KC.out _ R.out) | (go_at_call 16; (with_reducible refine (C2.out _ R.out).mono ?_); rintro e v1 ⟨rfl, hb⟩; have R := Lib.hid (bstep R.out hb R.out.size); clear hb; obtain ⟨k0, k1, l0, l1, l2⟩ := KC.out _ R.out))
      go_ret
      rw [R0.out]
      exact ⟨rfl, B0.out.trans (R.out.mono (Nat.le_of_lt LT.out.1))⟩
    obtain ⟨fr, hfr⟩ : ∃ f, f = freeB s.spans := ⟨_, rfl⟩
    have CE : Hid (∀ w2, Below ((w.alloc (.cells #[.slice A1 n1 c1, .slice A2 n2 c2] 25)).alloc (.cells #[.string sn, .slice D1 m1 e1, .slice D2 m2 e2] 70)).heap.size ((w.alloc (.cells #[.slice A1 n1 c1, .slice A2 n2 c2] 25)).alloc (.cells #[.string sn, .slice D1 m1 e1, .slice D2 m2 e2] 70)) w2 → Calls Try.prog 68 #[.slice D1 m1 e1, .slice (some ⟨w2.heap.size, 0, none⟩) 1 1] (w2.alloc (.cells #[.string ⟨#[]⟩, .string ⟨#[]⟩] 96)) fun e w' => e = .returned (.bool fr) ∧ Below w2.heap.size w2 w') := Lib.hid (fun w2 hb => by
      have hb2 := hb.alloc hb.size (.cells #[.string ⟨#[]⟩, .string ⟨#[]⟩] 96)
      obtain ⟨_, h4, h5⟩ := DD.out _ hb2
      obtain ⟨X1, k1', g1', X2, k2', g2', hh, -, v1, -⟩ := sp_cells h4
      simp only [List.cons.injEq, and_true, Value.slice.injEq] at hh
      obtain ⟨-, ⟨rfl, rfl, rfl⟩, -⟩ := hh
      have e1 := heap_alloc_new w2 (.cells #[.string ⟨#[]⟩, .string ⟨#[]⟩] 96)
      refine (equal_any v1 h5 w2.heap.size (by simp) (blk_cell (j := 0) e1 rfl) (blk_cell (j := 1) e1 rfl)).mono ?_
      rintro e w' ⟨he, hb3⟩
      exact ⟨by rw [he, hfr], ((Below.refl _ _).alloc (Nat.le_refl _) _).trans (hb3.mono (by simp))⟩)
    have HF := Lib.hid hfr
    clear hfr
    cases fr
    case false =>
      have R0 : Hid (wishF x s = 9) := Lib.hid (by rw [W0.out, ← HF.out]; rfl)
      go_enter Try.func45, Try.ntmps45
      go_wp2_with (first | (go_at_call 14; (with_reducible refine (C1.out _ R.out).mono ?_); rintro e v1 ⟨rfl, hb⟩; have R := Lib.hid (bstep R.out hb R.out.size); clear hb; obtain ⟨k0, k1, l0, l1, l2⟩ := KC.out _ R.out) | (go_at_call 16; (with_reducible refine (C2.out _ R.out).mono ?_); rintro e v1 ⟨rfl, hb⟩; have R := Lib.hid (bstep R.out hb R.out.size); clear hb; obtain ⟨k0, k1, l0, l1, l2⟩ := KC.out _ R.out) | (go_at_call 68; (with_reducible refine (CE.out _ R.out).mono ?_); rintro e v1 ⟨rfl, hb⟩; have R := Lib.hid (bstep R.out hb R.out.size); clear hb; obtain ⟨k0, k1, l0, l1, l2⟩ := KC.out _ R.out))
      go_ret
      rw [R0.out]
      exact ⟨rfl, B0.out.trans (R.out.mono (Nat.le_of_lt LT.out.1))⟩
    by_cases h0 : (0 : Int) < (m2 : Int)
    · have R0 : Hid (wishF x s = 9) := Lib.hid (by rw [W0.out, ← HF.out, if_pos rfl, if_neg (by have := HN.out; omega)])
      go_enter Try.func45, Try.ntmps45
      go_wp2_with (first | (go_at_call 14; (with_reducible refine (C1.out _ R.out).mono ?_); rintro e v1 ⟨rfl, hb⟩; have R := Lib.hid (bstep R.out hb R.out.size); clear hb; obtain ⟨k0, k1, l0, l1, l2⟩ := KC.out _ R.out) | (go_at_call 16; (with_reducible refine (C2.out _ R.out).mono ?_); rintro e v1 ⟨rfl, hb⟩; have R := Lib.hid (bstep R.out hb R.out.size); clear hb; obtain ⟨k0, k1, l0, l1, l2⟩ := KC.out _ R.out) | (go_at_call 68; (with_reducible refine (CE.out _ R.out).mono ?_); rintro e v1 ⟨rfl, hb⟩; have R := Lib.hid (bstep R.out hb R.out.size); clear hb; obtain ⟨k0, k1, l0, l1, l2⟩ := KC.out _ R.out))
      go_ret
      rw [R0.out]
      exact ⟨rfl, B0.out.trans (R.out.mono (Nat.le_of_lt LT.out.1))⟩
    · have R0 : Hid (wishF x s = 0) := Lib.hid (by rw [W0.out, ← HF.out, if_pos rfl, if_pos ⟨rfl, by have := HN.out; omega⟩])
      go_enter Try.func45, Try.ntmps45
      go_wp2_with (first | (go_at_call 14; (with_reducible refine (C1.out _ R.out).mono ?_); rintro e v1 ⟨rfl, hb⟩; have R := Lib.hid (bstep R.out hb R.out.size); clear hb; obtain ⟨k0, k1, l0, l1, l2⟩ := KC.out _ R.out) | (go_at_call 16; (with_reducible refine (C2.out _ R.out).mono ?_); rintro e v1 ⟨rfl, hb⟩; have R := Lib.hid (bstep R.out hb R.out.size); clear hb; obtain ⟨k0, k1, l0, l1, l2⟩ := KC.out _ R.out) | (go_at_call 68; (with_reducible refine (CE.out _ R.out).mono ?_); rintro e v1 ⟨rfl, hb⟩; have R := Lib.hid (bstep R.out hb R.out.size); clear hb; obtain ⟨k0, k1, l0, l1, l2⟩ := KC.out _ R.out))
      go_ret
      rw [R0.out]
      exact ⟨rfl, B0.out.trans (R.out.mono (Nat.le_of_lt LT.out.1))⟩
  · have hzz : z = (i : Int) := by rw [hz]; unfold findF; rw [hz1, Nat.zero_add]
    have hin : i < n1 := by rw [s1.len]; exact hi
    have n5 := s1.le
    obtain ⟨p, b, o, Ar, nr, cr, Av, nv, cv, Ap, np, cp, Ad, nd, cd, Ac, nc, cc, Af, nf, cf, t1, hA1, t3, x0, x1, x2, x3, x4, x5, x6, x7, -, d1⟩ := pk_at s1 hin
    obtain ⟨y1, hy1⟩ : ∃ y, y = p.name := ⟨_, rfl⟩
    obtain ⟨y2, hy2⟩ : ∃ y, y = p.line := ⟨_, rfl⟩
    rw [← hy1] at x0 d1
    rw [← hy2] at x1 d1
    have hin' : (i : Int) < (n1 : Int) := by omega
    have XC : Hid (∀ W', Below ((w.alloc (.cells #[.slice A1 n1 c1, .slice A2 n2 c2] 25)).alloc (.cells #[.string sn, .slice D1 m1 e1, .slice D2 m2 e2] 70)).heap.size ((w.alloc (.cells #[.slice A1 n1 c1, .slice A2 n2 c2] 25)).alloc (.cells #[.string sn, .slice D1 m1 e1, .slice D2 m2 e2] 70)) W' → W'.cell? ⟨w.heap.size, 0, none⟩ = some (.slice A1 n1 c1) ∧ W'.cell? ⟨b, o + i * 8, none⟩ = some (.string y1) ∧ W'.cell? ⟨b, o + i * 8 + 1, none⟩ = some (.int .i64 y2) ∧ W'.cell? ⟨b, o + i * 8 + 2, none⟩ = some (.slice Ar nr cr) ∧ W'.cell? ⟨b, o + i * 8 + 3, none⟩ = some (.slice Av nv cv) ∧ W'.cell? ⟨b, o + i * 8 + 4, none⟩ = some (.slice Ap np cp) ∧ W'.cell? ⟨b, o + i * 8 + 5, none⟩ = some (.slice Ad nd cd) ∧ W'.cell? ⟨b, o + i * 8 + 6, none⟩ = some (.slice Ac nc cc) ∧ W'.cell? ⟨b, o + i * 8 + 7, none⟩ = some (.slice Af nf cf) ∧ W'.cell? ⟨w.heap.size + 1, 0, none⟩ = some (.string sn) ∧ W'.cell? ⟨w.heap.size + 1, 1, none⟩ = some (.slice D1 m1 e1) ∧ W'.cell? ⟨w.heap.size + 1, 2, none⟩ = some (.slice D2 m2 e2)) := Lib.hid (fun W' hb => by
      obtain ⟨q0, q1, q2, q3, q4⟩ := KC.out W' hb
      have b2 := bb.trans (hb.mono HB.out)
      exact ⟨q0, (b2.cell (p := ⟨b, o + i * 8, none⟩) t3).trans x0, (b2.cell (p := ⟨b, o + i * 8 + 1, none⟩) t3).trans x1, (b2.cell (p := ⟨b, o + i * 8 + 2, none⟩) t3).trans x2, (b2.cell (p := ⟨b, o + i * 8 + 3, none⟩) t3).trans x3, (b2.cell (p := ⟨b, o + i * 8 + 4, none⟩) t3).trans x4, (b2.cell (p := ⟨b, o + i * 8 + 5, none⟩) t3).trans x5, (b2.cell (p := ⟨b, o + i * 8 + 6, none⟩) t3).trans x6, (b2.cell (p := ⟨b, o + i * 8 + 7, none⟩) t3).trans x7, q2, q3, q4⟩)
    obtain ⟨cd0, hcd⟩ : ∃ k, k = condC p.vars s.sets := ⟨_, rfl⟩
    have C3 : Hid (∀ w2, Below ((w.alloc (.cells #[.slice A1 n1 c1, .slice A2 n2 c2] 25)).alloc (.cells #[.string sn, .slice D1 m1 e1, .slice D2 m2 e2] 70)).heap.size ((w.alloc (.cells #[.slice A1 n1 c1, .slice A2 n2 c2] 25)).alloc (.cells #[.string sn, .slice D1 m1 e1, .slice D2 m2 e2] 70)) w2 → Calls Try.prog 60 #[.agg #[.string y1, .int .i64 y2, .slice Ar nr cr, .slice Av nv cv, .slice Ap np cp, .slice Ad nd cd, .slice Ac nc cc, .slice Af nf cf], .agg #[.string sn, .slice D1 m1 e1, .slice D2 m2 e2]] w2 fun e w' => e = .returned (.int .u8 cd0) ∧ Below w2.heap.size w2 w') := Lib.hid (fun w2 hb => by
      rw [hcd]; exact condCode_any (pk_stays _ _ _ _ _ _ d1 (Nat.le_refl B) (bb.trans (hb.mono HB.out))) (DD.out w2 hb).2.1 (DD.out w2 hb).2.2)
    have R0 : Hid (wishF x s = cd0) := Lib.hid (by
      unfold wishF varsAt; rw [← hz, hzz, if_pos (by omega), hcd]
      simp [t1])
    rw [hcs, hss]
    subst hzz
    subst hA1
    clear h h2 s1 s2 u1 u2 hz hz1 hsn bb m0 mm1 hl hcs hss hB t1 t3 x0 x1 x2 x3 x4 x5 x6 x7 d1 hcd hy1 hy2 hi k0 k1 l0 l1 l2
    show Calls Try.prog _ #[.agg #[.slice (some ⟨b, o, none⟩) n1 c1, .slice A2 n2 c2], .agg #[.string sn, .slice D1 m1 e1, .slice D2 m2 e2]] w _
    obtain ⟨k0, k1, l0, l1, l2⟩ := KC.out _ R.out
    go_enter Try.func45, Try.ntmps45
    go_wp2_with (go_at_call 14; (with_reducible refine (C1.out _ R.out).mono ?_); rintro e v1 ⟨rfl, hb⟩; have R := Lib.hid (bstep R.out hb R.out.size); clear hb; obtain ⟨k0, k1, l0, l1, l2⟩ := KC.out _ R.out)
    have R := Lib.hid R.out.drew
    go_region_held3 (fun W' => W'.cell? ⟨w.heap.size, 0, none⟩ = some (.slice (some ⟨b, o, none⟩) n1 c1) ∧ W'.cell? ⟨b, o + i * 8, none⟩ = some (.string y1) ∧ W'.cell? ⟨b, o + i * 8 + 1, none⟩ = some (.int .i64 y2) ∧ W'.cell? ⟨b, o + i * 8 + 2, none⟩ = some (.slice Ar nr cr) ∧ W'.cell? ⟨b, o + i * 8 + 3, none⟩ = some (.slice Av nv cv) ∧ W'.cell? ⟨b, o + i * 8 + 4, none⟩ = some (.slice Ap np cp) ∧ W'.cell? ⟨b, o + i * 8 + 5, none⟩ = some (.slice Ad nd cd) ∧ W'.cell? ⟨b, o + i * 8 + 6, none⟩ = some (.slice Ac nc cc) ∧ W'.cell? ⟨b, o + i * 8 + 7, none⟩ = some (.slice Af nf cf) ∧ W'.cell? ⟨w.heap.size + 1, 0, none⟩ = some (.string sn) ∧ W'.cell? ⟨w.heap.size + 1, 1, none⟩ = some (.slice D1 m1 e1) ∧ W'.cell? ⟨w.heap.size + 1, 2, none⟩ = some (.slice D2 m2 e2))
      (first | exact XC.out _ R.out | go_keep)
      (first | (go_at_call 60; (with_reducible refine (C3.out _ R.out).mono ?_); rintro e v1 ⟨rfl, hb⟩; have R := Lib.hid (bstep R.out hb R.out.size); clear hb; obtain ⟨k0, k1, l0, l1, l2⟩ := KC.out _ R.out))
    go_wp2_with fail
    go_ret
    rw [R0.out]
    exact ⟨rfl, B0.out.trans (R.out.mono (Nat.le_of_lt LT.out.1))⟩

end Go.Proofs.Ytccmgaibikiedaa.Dc
