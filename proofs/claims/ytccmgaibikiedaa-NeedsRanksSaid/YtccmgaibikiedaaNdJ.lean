/- The law on ranks: walked. -/
import Derived.Test.YtccmgaibikiedaaNdI
namespace Go.Proofs.Ytccmgaibikiedaa.Dc
open Go.RowKit
set_option linter.unusedVariables false
set_option linter.unusedSimpArgs false
abbrev three (W : World) (a b c : ByteArray) : World := W.alloc (.cells #[.string a, .string b, .string c] 9)
theorem great3_any (W : World) (a b c : ByteArray) (ha : a.size ≤ maxLen) (hb : b.size ≤ maxLen) (hc : c.size ≤ maxLen) :
    Calls Try.prog 20 #[.slice (some ⟨W.heap.size, 0, none⟩) 3 3] (three W a b c) fun e w' => e = .returned (.bool (Ver.greatB [a.data.toList, b.data.toList, c.data.toList])) ∧ Below W.heap.size W w' := by
  have hh := heap_alloc_new W (.cells #[.string a, .string b, .string c] 9)
  refine (Ver.great_any (three W a b c) (B := W.heap.size + 1) (A := some ⟨W.heap.size, 0, none⟩) (l := [a.data.toList, b.data.toList, c.data.toList]) (fun i hi => ⟨⟨W.heap.size, 0, none⟩, rfl, Nat.lt_succ_self _, ?_⟩) 3 3 rfl (by unfold maxLen; omega) (fun i => ?_)).mono ?_
  · rw [add_at, Nat.zero_add]
    match i, hi with
    | 0, _ => exact blk_cell hh rfl
    | 1, _ => exact blk_cell hh rfl
    | 2, _ => exact blk_cell hh rfl
  · match i with
    | 0 => simpa using ha
    | 1 => simpa using hb
    | 2 => simpa using hc
    | k + 3 => simp
  · rintro e w' ⟨he, rfl⟩
    exact ⟨he, (Below.refl _ _).alloc (Nat.le_refl _) _⟩
set_option maxHeartbeats 16000000 in
set_option maxRecDepth 100000 in
theorem ranks_go {w : World} {x : Rc} {cs : List Value} (h : rcD w w.heap.size cs x) (i : Int) (ver virt nam : ByteArray) (hv1 : ver.size ≤ maxLen) (hv2 : virt.size ≤ maxLen) (hv3 : nam.size ≤ maxLen) :
    Calls Try.prog 6 #[.agg cs.toArray, .int .i64 i, .string ver, .string virt, .string nam] w fun e w' => e = .returned (.bool true) ∧ Below w.heap.size w w' := by
  obtain ⟨A1, n1, c1, A2, n2, c2, hcs, s1, s2⟩ := rc_cells h
  have n5 := s1.le
  have R := Lib.hid (show Bxs w [(#[.slice A1 n1 c1, .slice A2 n2 c2], 25)] _ from (Bxs.nil w).push (by simp) #[.slice A1 n1 c1, .slice A2 n2 c2] 25)
  have KC : Hid (∀ W, Bxs w [(#[.slice A1 n1 c1, .slice A2 n2 c2], 25)] W → W.cell? ⟨w.heap.size, 0, none⟩ = some (.slice A1 n1 c1) ∧ W.cell? ⟨w.heap.size, 1, none⟩ = some (.slice A2 n2 c2)) := Lib.hid (fun W hR => ⟨blk_cell (j := 0) (hR.box 0 _ rfl) rfl, blk_cell (j := 1) (hR.box 0 _ rfl) rfl⟩)
  have DR : Hid (∀ W, Bxs w [(#[.slice A1 n1 c1, .slice A2 n2 c2], 25)] W → rcD W w.heap.size [.slice A1 n1 c1, .slice A2 n2 c2] x ∧ w.heap.size ≤ W.heap.size ∧ Sl Pk 8 pkD W w.heap.size A1 n1 c1 x.packs) := Lib.hid (fun W hR => by
    have h3 := rc_stays _ _ _ _ _ _ h (Nat.le_refl _) hR.below
    rw [hcs] at h3
    exact ⟨h3, hR.below.size, s1.below pk_stays (Nat.le_refl _) hR.below⟩)
  obtain ⟨g1, hg1⟩ : ∃ g, g = gRc x := ⟨_, rfl⟩
  obtain ⟨g2, hg2⟩ : ∃ g, g = Ver.greatB [ver.data.toList, virt.data.toList, nam.data.toList] := ⟨_, rfl⟩
  have C0 : Hid (∀ W, Bxs w [(#[.slice A1 n1 c1, .slice A2 n2 c2], 25)] W → Calls Try.prog 8 #[.agg #[.slice A1 n1 c1, .slice A2 n2 c2]] W fun e w' => e = .returned (.bool g1) ∧ Below W.heap.size W w') := Lib.hid (fun W hR => by
    rw [hg1]; exact great_any (DR.out W hR).1 (DR.out W hR).2.1)
  have C8 : Hid (∀ W, Bxs w [(#[.slice A1 n1 c1, .slice A2 n2 c2], 25)] W → Calls Try.prog 20 #[.slice (some ⟨W.heap.size, 0, none⟩) 3 3] (three W ver virt nam) fun e w' => e = .returned (.bool g2) ∧ Below W.heap.size W w') := Lib.hid (fun W hR => by
    rw [hg2]; exact great3_any W ver virt nam hv1 hv2 hv3)
  have FX : Hid (∀ W, Bxs w [(#[.slice A1 n1 c1, .slice A2 n2 c2], 25)] W → Calls Try.prog 21 #[] W fun e w' => e = .returned (.bool true) ∧ Below W.heap.size W w') := Lib.hid (fun W _ => fixed10_any W)
  rw [hcs]
  show Calls Try.prog _ #[.agg #[.slice A1 n1 c1, .slice A2 n2 c2], .int .i64 i, .string ver, .string virt, .string nam] w _
  cases g1
  case true =>
    clear h s1 s2 hcs hg1 hg2
    obtain ⟨k0, k1⟩ := KC.out _ R.out
    go_enter Try.func6, Try.ntmps6
    go_wp2_with (first | (go_at_call 8; (with_reducible refine (C0.out _ R.out).mono ?_); rintro e v1 ⟨rfl, hb⟩; have R := Lib.hid (R.out.step hb); clear hb; obtain ⟨k0, k1⟩ := KC.out _ R.out) | (go_at_call 20; (with_reducible refine (C8.out _ R.out).mono ?_); rintro e v1 ⟨rfl, hb⟩; have R := Lib.hid (R.out.step hb); clear hb; obtain ⟨k0, k1⟩ := KC.out _ R.out) | (go_at_call 21; (with_reducible refine (FX.out _ R.out).mono ?_); rintro e v1 ⟨rfl, hb⟩; have R := Lib.hid (R.out.step hb); clear hb; obtain ⟨k0, k1⟩ := KC.out _ R.out))
    go_ret
    exact ⟨rfl, R.out.below⟩
  cases g2
  case true =>
    clear h s1 s2 hcs hg1 hg2
    obtain ⟨k0, k1⟩ := KC.out _ R.out
    go_enter Try.func6, Try.ntmps6
    go_wp2_with (first | (go_at_call 8; (with_reducible refine (C0.out _ R.out).mono ?_); rintro e v1 ⟨rfl, hb⟩; have R := Lib.hid (R.out.step hb); clear hb; obtain ⟨k0, k1⟩ := KC.out _ R.out) | (go_at_call 20; (with_reducible refine (C8.out _ R.out).mono ?_); rintro e v1 ⟨rfl, hb⟩; have R := Lib.hid (R.out.step hb); clear hb; obtain ⟨k0, k1⟩ := KC.out _ R.out) | (go_at_call 21; (with_reducible refine (FX.out _ R.out).mono ?_); rintro e v1 ⟨rfl, hb⟩; have R := Lib.hid (R.out.step hb); clear hb; obtain ⟨k0, k1⟩ := KC.out _ R.out))
    go_ret
    exact ⟨rfl, R.out.below⟩
  have HL : Hid (x.packs.length ≤ 1000) := Lib.hid (by have := gRc_len hg1.symm; omega)
  obtain ⟨z, hz⟩ : ∃ z, z = preferF x virt nam := ⟨_, rfl⟩
  have CP : Hid (∀ W, Bxs w [(#[.slice A1 n1 c1, .slice A2 n2 c2], 25)] W → Calls Try.prog 24 #[.agg #[.slice A1 n1 c1, .slice A2 n2 c2], .string virt, .string nam] W fun e w' => e = .returned (.int .i64 z) ∧ Below W.heap.size W w') := Lib.hid (fun W hR => by
    rw [hz]; exact prefer10_any (DR.out W hR).1 (DR.out W hR).2.1 virt nam)
  have CQ : Hid (∀ W, Bxs w [(#[.slice A1 n1 c1, .slice A2 n2 c2], 25)] W → Calls Try.prog 25 #[.agg #[.slice A1 n1 c1, .slice A2 n2 c2], .string virt, .string nam] W fun e w' => e = .returned (.int .i64 z) ∧ Below W.heap.size W w') := Lib.hid (fun W hR => by
    rw [hz]; exact rprefer10_any (DR.out W hR).1 (DR.out W hR).2.1 virt nam)
  obtain ⟨T, hT⟩ : ∃ T, T = tgtF x nam := ⟨_, rfl⟩
  have CT : Hid (∀ W, Bxs w [(#[.slice A1 n1 c1, .slice A2 n2 c2], 25)] W → Calls Try.prog 27 #[.agg #[.slice A1 n1 c1, .slice A2 n2 c2], .string nam] W (IntsEnd T W)) := Lib.hid (fun W hR => by
    rw [hT]; exact targets_any (DR.out W hR).1 (DR.out W hR).2.1 HL.out nam)
  have CU : Hid (∀ W, Bxs w [(#[.slice A1 n1 c1, .slice A2 n2 c2], 25)] W → Calls Try.prog 28 #[.agg #[.slice A1 n1 c1, .slice A2 n2 c2], .string nam] W (IntsEnd T W)) := Lib.hid (fun W hR => by
    rw [hT]; exact rtargets_any (DR.out W hR).1 (DR.out W hR).2.1 HL.out nam)
  have HV := Lib.hid hv1
  clear hz hT hg1 hg2 h s2 hcs hv1 hv2 hv3
  by_cases h0 : 0 ≤ i
  · obtain ⟨j, rfl⟩ := Int.eq_ofNat_of_zero_le h0
    by_cases h1 : j < n1
    · have h1' : (j : Int) < (n1 : Int) := by omega
      obtain ⟨p, b, o, Ar, nr, cr, Av, nv, cv, Ap, np, cp, Ad, nd, cd, Ac, nc, cc, Af, nf, cf, t1, hA, t3, x0, x1, x2, x3, x4, x5, x6, x7, pc, d1⟩ := pk_at s1 h1
      obtain ⟨nm, hnm⟩ : ∃ y, y = p.name := ⟨_, rfl⟩
      obtain ⟨ln, hln⟩ : ∃ y, y = p.line := ⟨_, rfl⟩
      rw [← hnm] at x0 d1
      rw [← hln] at x1 d1
      obtain ⟨rk, hrk⟩ : ∃ z, z = rankF p ver := ⟨_, rfl⟩
      have CA : Hid (∀ W, Bxs w [(#[.slice A1 n1 c1, .slice A2 n2 c2], 25)] W → Calls Try.prog 22 #[.agg #[.string nm, .int .i64 ln, .slice Ar nr cr, .slice Av nv cv, .slice Ap np cp, .slice Ad nd cd, .slice Ac nc cc, .slice Af nf cf], .string ver] W fun e w' => e = .returned (.int .i64 rk) ∧ Below W.heap.size W w') := Lib.hid (fun W hR => by
        rw [hrk]; exact rank_any (pk_stays _ _ _ _ _ _ d1 (Nat.le_refl _) hR.below) hR.below.size ver HV.out)
      have CB : Hid (∀ W, Bxs w [(#[.slice A1 n1 c1, .slice A2 n2 c2], 25)] W → Calls Try.prog 23 #[.agg #[.string nm, .int .i64 ln, .slice Ar nr cr, .slice Av nv cv, .slice Ap np cp, .slice Ad nd cd, .slice Ac nc cc, .slice Af nf cf], .string ver] W fun e w' => e = .returned (.int .i64 rk) ∧ Below W.heap.size W w') := Lib.hid (fun W hR => by
        rw [hrk]; exact rrank_any (pk_stays _ _ _ _ _ _ d1 (Nat.le_refl _) hR.below) hR.below.size ver HV.out)
      have XC : Hid (∀ W, Bxs w [(#[.slice A1 n1 c1, .slice A2 n2 c2], 25)] W → W.cell? ⟨w.heap.size, 0, none⟩ = some (.slice A1 n1 c1) ∧ W.cell? ⟨b, o + j * 8, none⟩ = some (.string nm) ∧ W.cell? ⟨b, o + j * 8 + 1, none⟩ = some (.int .i64 ln) ∧ W.cell? ⟨b, o + j * 8 + 2, none⟩ = some (.slice Ar nr cr) ∧ W.cell? ⟨b, o + j * 8 + 3, none⟩ = some (.slice Av nv cv) ∧ W.cell? ⟨b, o + j * 8 + 4, none⟩ = some (.slice Ap np cp) ∧ W.cell? ⟨b, o + j * 8 + 5, none⟩ = some (.slice Ad nd cd) ∧ W.cell? ⟨b, o + j * 8 + 6, none⟩ = some (.slice Ac nc cc) ∧ W.cell? ⟨b, o + j * 8 + 7, none⟩ = some (.slice Af nf cf)) := Lib.hid (fun W hR => ⟨(KC.out W hR).1, (hR.below.cell (p := ⟨b, o + j * 8, none⟩) t3).trans x0, (hR.below.cell (p := ⟨b, o + j * 8 + 1, none⟩) t3).trans x1, (hR.below.cell (p := ⟨b, o + j * 8 + 2, none⟩) t3).trans x2, (hR.below.cell (p := ⟨b, o + j * 8 + 3, none⟩) t3).trans x3, (hR.below.cell (p := ⟨b, o + j * 8 + 4, none⟩) t3).trans x4, (hR.below.cell (p := ⟨b, o + j * 8 + 5, none⟩) t3).trans x5, (hR.below.cell (p := ⟨b, o + j * 8 + 6, none⟩) t3).trans x6, (hR.below.cell (p := ⟨b, o + j * 8 + 7, none⟩) t3).trans x7⟩)
      subst hA
      clear t1 t3 pc d1 hnm hln hrk s1 x0 x1 x2 x3 x4 x5 x6 x7
      obtain ⟨k0, k1⟩ := KC.out _ R.out
      go_enter Try.func6, Try.ntmps6
      go_wp2_with (first | (go_at_call 8; (with_reducible refine (C0.out _ R.out).mono ?_); rintro e v1 ⟨rfl, hb⟩; have R := Lib.hid (R.out.step hb); clear hb; obtain ⟨k0, k1⟩ := KC.out _ R.out) | (go_at_call 20; (with_reducible refine (C8.out _ R.out).mono ?_); rintro e v1 ⟨rfl, hb⟩; have R := Lib.hid (R.out.step hb); clear hb; obtain ⟨k0, k1⟩ := KC.out _ R.out))
      have R := Lib.hid R.out.drew
      go_region_held3 (fun W => W.cell? ⟨w.heap.size, 0, none⟩ = some (.slice (some ⟨b, o, none⟩) n1 c1) ∧ W.cell? ⟨b, o + j * 8, none⟩ = some (.string nm) ∧ W.cell? ⟨b, o + j * 8 + 1, none⟩ = some (.int .i64 ln) ∧ W.cell? ⟨b, o + j * 8 + 2, none⟩ = some (.slice Ar nr cr) ∧ W.cell? ⟨b, o + j * 8 + 3, none⟩ = some (.slice Av nv cv) ∧ W.cell? ⟨b, o + j * 8 + 4, none⟩ = some (.slice Ap np cp) ∧ W.cell? ⟨b, o + j * 8 + 5, none⟩ = some (.slice Ad nd cd) ∧ W.cell? ⟨b, o + j * 8 + 6, none⟩ = some (.slice Ac nc cc) ∧ W.cell? ⟨b, o + j * 8 + 7, none⟩ = some (.slice Af nf cf)) (first | exact XC.out _ R.out | go_keep) (first | (go_at_call 22; (with_reducible refine (CA.out _ R.out).mono ?_); rintro e v1 ⟨rfl, hb⟩; have R := Lib.hid (R.out.step hb); clear hb; obtain ⟨k0, k1⟩ := KC.out _ R.out) | (go_at_call 23; (with_reducible refine (CB.out _ R.out).mono ?_); rintro e v1 ⟨rfl, hb⟩; have R := Lib.hid (R.out.step hb); clear hb; obtain ⟨k0, k1⟩ := KC.out _ R.out))
      go_wp2_with fail
      have R := Lib.hid R.out.drew
      go_region_held3 (fun W => W.cell? ⟨w.heap.size, 0, none⟩ = some (.slice (some ⟨b, o, none⟩) n1 c1) ∧ W.cell? ⟨w.heap.size, 1, none⟩ = some (.slice A2 n2 c2)) (first | exact KC.out _ R.out | go_keep) (first | (go_at_call 21; (with_reducible refine (FX.out _ R.out).mono ?_); rintro e v1 ⟨rfl, hb⟩; have R := Lib.hid (R.out.step hb); clear hb; obtain ⟨k0, k1⟩ := KC.out _ R.out) | (go_at_call 24; (with_reducible refine (CP.out _ R.out).mono ?_); rintro e v1 ⟨rfl, hb⟩; have R := Lib.hid (R.out.step hb); clear hb; obtain ⟨k0, k1⟩ := KC.out _ R.out) | (go_at_call 25; (with_reducible refine (CQ.out _ R.out).mono ?_); rintro e v1 ⟨rfl, hb⟩; have R := Lib.hid (R.out.step hb); clear hb; obtain ⟨k0, k1⟩ := KC.out _ R.out) | (go_at_call 27; (with_reducible refine (CT.out _ R.out).mono ?_); rintro e v3 ⟨P1, m1, d1, rfl, hn1, ho1, hb⟩; have R := Lib.hid (R.out.step hb); have O1 := Lib.hid ho1; have N1 := Lib.hid hn1; clear hb ho1 hn1; obtain ⟨k0, k1⟩ := KC.out _ R.out) | (go_at_call 28; (with_reducible refine (CU.out _ R.out).mono ?_); rintro e v4 ⟨P2, m2, d2, rfl, hn2, ho2, hb⟩; have R := Lib.hid (R.out.step hb); have O3 := Lib.hid (keep2 O1.out hb); obtain rfl : m2 = m1 := hn2.trans N1.out.symm; have O2 := Lib.hid ho2; clear hb ho2 hn2; obtain ⟨k0, k1⟩ := KC.out _ R.out) | (go_at_call 26; (with_reducible refine (same_any O3.out O2.out N1.out).mono ?_); rintro e v5 ⟨rfl, hb⟩; have R := Lib.hid (R.out.step hb); clear hb; obtain ⟨k0, k1⟩ := KC.out _ R.out))
      go_wp2_with fail
      go_ret
      exact ⟨rfl, R.out.below⟩
    · have h1' : (n1 : Int) ≤ (j : Int) := by omega
      have h2' : ¬ (j : Int) < (n1 : Int) := by omega
      clear s1
      obtain ⟨k0, k1⟩ := KC.out _ R.out
      go_enter Try.func6, Try.ntmps6
      go_wp2_with (first | (go_at_call 8; (with_reducible refine (C0.out _ R.out).mono ?_); rintro e v1 ⟨rfl, hb⟩; have R := Lib.hid (R.out.step hb); clear hb; obtain ⟨k0, k1⟩ := KC.out _ R.out) | (go_at_call 20; (with_reducible refine (C8.out _ R.out).mono ?_); rintro e v1 ⟨rfl, hb⟩; have R := Lib.hid (R.out.step hb); clear hb; obtain ⟨k0, k1⟩ := KC.out _ R.out))
      have R := Lib.hid R.out.drew
      first | (go_region) | fail
      go_wp2_with fail
      have R := Lib.hid R.out.drew
      go_region_held3 (fun W => W.cell? ⟨w.heap.size, 0, none⟩ = some (.slice A1 n1 c1) ∧ W.cell? ⟨w.heap.size, 1, none⟩ = some (.slice A2 n2 c2)) (first | exact KC.out _ R.out | go_keep) (first | (go_at_call 21; (with_reducible refine (FX.out _ R.out).mono ?_); rintro e v1 ⟨rfl, hb⟩; have R := Lib.hid (R.out.step hb); clear hb; obtain ⟨k0, k1⟩ := KC.out _ R.out) | (go_at_call 24; (with_reducible refine (CP.out _ R.out).mono ?_); rintro e v1 ⟨rfl, hb⟩; have R := Lib.hid (R.out.step hb); clear hb; obtain ⟨k0, k1⟩ := KC.out _ R.out) | (go_at_call 25; (with_reducible refine (CQ.out _ R.out).mono ?_); rintro e v1 ⟨rfl, hb⟩; have R := Lib.hid (R.out.step hb); clear hb; obtain ⟨k0, k1⟩ := KC.out _ R.out) | (go_at_call 27; (with_reducible refine (CT.out _ R.out).mono ?_); rintro e v3 ⟨P1, m1, d1, rfl, hn1, ho1, hb⟩; have R := Lib.hid (R.out.step hb); have O1 := Lib.hid ho1; have N1 := Lib.hid hn1; clear hb ho1 hn1; obtain ⟨k0, k1⟩ := KC.out _ R.out) | (go_at_call 28; (with_reducible refine (CU.out _ R.out).mono ?_); rintro e v4 ⟨P2, m2, d2, rfl, hn2, ho2, hb⟩; have R := Lib.hid (R.out.step hb); have O3 := Lib.hid (keep2 O1.out hb); obtain rfl : m2 = m1 := hn2.trans N1.out.symm; have O2 := Lib.hid ho2; clear hb ho2 hn2; obtain ⟨k0, k1⟩ := KC.out _ R.out) | (go_at_call 26; (with_reducible refine (same_any O3.out O2.out N1.out).mono ?_); rintro e v5 ⟨rfl, hb⟩; have R := Lib.hid (R.out.step hb); clear hb; obtain ⟨k0, k1⟩ := KC.out _ R.out))
      go_wp2_with fail
      go_ret
      exact ⟨rfl, R.out.below⟩
  · have h0' : i < 0 := by omega
    have h3 : decide (0 ≤ i) = false := decide_eq_false h0
    have h4 : decide (i < 0) = true := decide_eq_true h0'
    have h5 : (!decide (i < 0)) = false := by rw [h4]; rfl
    clear s1
    obtain ⟨k0, k1⟩ := KC.out _ R.out
    go_enter Try.func6, Try.ntmps6
    go_wp2_with (first | (go_at_call 8; (with_reducible refine (C0.out _ R.out).mono ?_); rintro e v1 ⟨rfl, hb⟩; have R := Lib.hid (R.out.step hb); clear hb; obtain ⟨k0, k1⟩ := KC.out _ R.out) | (go_at_call 20; (with_reducible refine (C8.out _ R.out).mono ?_); rintro e v1 ⟨rfl, hb⟩; have R := Lib.hid (R.out.step hb); clear hb; obtain ⟨k0, k1⟩ := KC.out _ R.out))
    have R := Lib.hid R.out.drew
    first | (go_region) | fail
    go_wp2_with fail
    have R := Lib.hid R.out.drew
    go_region_held3 (fun W => W.cell? ⟨w.heap.size, 0, none⟩ = some (.slice A1 n1 c1) ∧ W.cell? ⟨w.heap.size, 1, none⟩ = some (.slice A2 n2 c2)) (first | exact KC.out _ R.out | go_keep) (first | (go_at_call 21; (with_reducible refine (FX.out _ R.out).mono ?_); rintro e v1 ⟨rfl, hb⟩; have R := Lib.hid (R.out.step hb); clear hb; obtain ⟨k0, k1⟩ := KC.out _ R.out) | (go_at_call 24; (with_reducible refine (CP.out _ R.out).mono ?_); rintro e v1 ⟨rfl, hb⟩; have R := Lib.hid (R.out.step hb); clear hb; obtain ⟨k0, k1⟩ := KC.out _ R.out) | (go_at_call 25; (with_reducible refine (CQ.out _ R.out).mono ?_); rintro e v1 ⟨rfl, hb⟩; have R := Lib.hid (R.out.step hb); clear hb; obtain ⟨k0, k1⟩ := KC.out _ R.out) | (go_at_call 27; (with_reducible refine (CT.out _ R.out).mono ?_); rintro e v3 ⟨P1, m1, d1, rfl, hn1, ho1, hb⟩; have R := Lib.hid (R.out.step hb); have O1 := Lib.hid ho1; have N1 := Lib.hid hn1; clear hb ho1 hn1; obtain ⟨k0, k1⟩ := KC.out _ R.out) | (go_at_call 28; (with_reducible refine (CU.out _ R.out).mono ?_); rintro e v4 ⟨P2, m2, d2, rfl, hn2, ho2, hb⟩; have R := Lib.hid (R.out.step hb); have O3 := Lib.hid (keep2 O1.out hb); obtain rfl : m2 = m1 := hn2.trans N1.out.symm; have O2 := Lib.hid ho2; clear hb ho2 hn2; obtain ⟨k0, k1⟩ := KC.out _ R.out) | (go_at_call 26; (with_reducible refine (same_any O3.out O2.out N1.out).mono ?_); rintro e v5 ⟨rfl, hb⟩; have R := Lib.hid (R.out.step hb); clear hb; obtain ⟨k0, k1⟩ := KC.out _ R.out))
    go_wp2_with fail
    go_ret
    exact ⟨rfl, R.out.below⟩

end Go.Proofs.Ytccmgaibikiedaa.Dc
