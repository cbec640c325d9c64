/- Recipes: the document's own answer what is wrong with a package by itself. -/
import Derived.Test.YtccmgaibikiedaaDeC
namespace Go.Proofs.Ytccmgaibikiedaa.Dc
open Go.RowKit
set_option linter.unusedVariables false
set_option linter.unusedSimpArgs false
/-- a row that the call owns, as a slice. -/
theorem own_sl {α : Type} {w : World} {D : Dec α} {k n c base : Nat} {e : TypeId} {A : Option Addr} {l : List α} {xs : List Value} (h : w.ownsRow base e k (.slice A n c) n xs) (hn : n = l.length)
    (hx : ∀ j y, l[j]? = some y → ∃ vs : List Value, vs.length = k ∧ (∀ i, i < k → xs[j * k + i]? = vs[i]?) ∧ D w w.heap.size vs y) : Sl α k D w w.heap.size A n c l := by
  rcases h.2 with ⟨hv, h0⟩ | ⟨g, cap, cur, hv, hb, hh, hc, hm, -, -⟩
  · injection hv with hv1 hv2 hv3
    subst hv1 hv3
    exact ⟨hn, by omega, by unfold maxLen; omega, .inl (List.eq_nil_of_length_eq_zero (by omega))⟩
  · injection hv with hv1 hv2 hv3
    subst hv1 hv3
    refine ⟨hn, hc, hm, .inr ⟨g, 0, rfl, lt_of_block hh, fun j y hj => ?_⟩⟩
    obtain ⟨vs, h1, h2, h3⟩ := hx j y hj
    refine ⟨vs, h1, fun i hi => ?_, h3⟩
    have hjn : j < n := by
      rcases Nat.lt_or_ge j l.length with h' | h'
      · omega
      · rw [List.getElem?_eq_none h'] at hj; cases hj
    have hle : (j + 1) * k ≤ n * k := Nat.mul_le_mul_right k hjn
    rw [Nat.add_mul, Nat.one_mul] at hle
    rw [Nat.zero_add, h.cellAt (j * k + i) (by omega), h2 i hi]
def textsV (l : List ByteArray) : List Value := l.map Value.string
theorem own_texts {w : World} {n c base : Nat} {e : TypeId} {A : Option Addr} {l : List ByteArray} (h : w.ownsRow base e 1 (.slice A n c) n (textsV l)) (hn : n = l.length) (hf : ∀ s ∈ l, s.size ≤ maxLen) : Sl ByteArray 1 strD w w.heap.size A n c l :=
  own_sl h hn fun j y hj => ⟨[.string y], rfl, fun i hi => by
    obtain rfl : i = 0 := by omega
    rw [Nat.mul_one, Nat.add_zero]
    show (l.map Value.string)[j]? = _
    rw [List.getElem?_map, hj]; rfl, rfl, hf y (List.mem_of_getElem? hj)⟩
set_option maxHeartbeats 8000000 in
set_option maxRecDepth 100000 in
theorem alone_any {w : World} {B : Nat} {x : Rc} {cs : List Value} (h : rcD w B cs x) (hB : B ≤ w.heap.size) (hl : x.packs.length ≤ 1000) {i : Nat} {p : Pk} (hp : x.packs[i]? = some p) :
    Calls Try.prog 37 #[.agg cs.toArray, .int .i64 (i : Nat)] w fun e w' => e = .returned (.int .u8 (aloneF x i p)) ∧ Below w.heap.size w w' := by
  obtain ⟨A1, n1, c1, A2, n2, c2, hcs, s1, s2⟩ := rc_cells h
  have hi : i < n1 := by
    rw [s1.len]
    rcases Nat.lt_or_ge i x.packs.length with h' | h'
    · exact h'
    · rw [List.getElem?_eq_none h'] at hp; cases hp
  have hi' : (i : Int) < (n1 : Int) := by omega
  have n5 := s1.le
  obtain ⟨q, b, o, Ar, nr, cr, Av, nv, cv, Ap, np, cp, Ad, nd, cd, Ac, nc, cc, Af, nf, cf, t1, hA1, t3, x0, x1, x2, x3, x4, x5, x6, x7, pc, d1⟩ := pk_at s1 hi
  obtain rfl : p = q := by rw [t1] at hp; exact (Option.some.inj hp).symm
  obtain ⟨nm, hnm⟩ : ∃ y, y = p.name := ⟨_, rfl⟩
  obtain ⟨ln, hln⟩ : ∃ y, y = p.line := ⟨_, rfl⟩
  rw [← hnm] at x0 d1
  rw [← hln] at x1 d1
  have bw1 : Below B w (w.alloc (.cells #[.slice A1 n1 c1, .slice A2 n2 c2] 25)) := (Below.refl B w).alloc hB _
  have h0 : (w.alloc (.cells #[.slice A1 n1 c1, .slice A2 n2 c2] 25)).cell? ⟨w.heap.size, 0, none⟩ = some (.slice A1 n1 c1) := blk_cell (heap_alloc_new w _) rfl
  replace x0 := (bw1.cell (p := ⟨b, o + i * 8, none⟩) t3).trans x0
  replace x1 := (bw1.cell (p := ⟨b, o + i * 8 + 1, none⟩) t3).trans x1
  replace x2 := (bw1.cell (p := ⟨b, o + i * 8 + 2, none⟩) t3).trans x2
  replace x3 := (bw1.cell (p := ⟨b, o + i * 8 + 3, none⟩) t3).trans x3
  replace x4 := (bw1.cell (p := ⟨b, o + i * 8 + 4, none⟩) t3).trans x4
  replace x5 := (bw1.cell (p := ⟨b, o + i * 8 + 5, none⟩) t3).trans x5
  replace x6 := (bw1.cell (p := ⟨b, o + i * 8 + 6, none⟩) t3).trans x6
  replace x7 := (bw1.cell (p := ⟨b, o + i * 8 + 7, none⟩) t3).trans x7
  have R := Lib.hid (R2.start w #[.slice A1 n1 c1, .slice A2 n2 c2] #[.string nm, .int .i64 ln, .slice Ar nr cr, .slice Av nv cv, .slice Ap np cp, .slice Ad nd cd, .slice Ac nc cc, .slice Af nf cf])
  have KC : Hid (∀ W, R2 w #[.slice A1 n1 c1, .slice A2 n2 c2] #[.string nm, .int .i64 ln, .slice Ar nr cr, .slice Av nv cv, .slice Ap np cp, .slice Ad nd cd, .slice Ac nc cc, .slice Af nf cf] W → W.cell? ⟨w.heap.size, 0, none⟩ = some (.slice A1 n1 c1) ∧ W.cell? ⟨w.heap.size, 1, none⟩ = some (.slice A2 n2 c2) ∧ W.cell? ⟨w.heap.size + 1, 0, none⟩ = some (.string nm) ∧ W.cell? ⟨w.heap.size + 1, 1, none⟩ = some (.int .i64 ln) ∧ W.cell? ⟨w.heap.size + 1, 2, none⟩ = some (.slice Ar nr cr) ∧ W.cell? ⟨w.heap.size + 1, 3, none⟩ = some (.slice Av nv cv) ∧ W.cell? ⟨w.heap.size + 1, 4, none⟩ = some (.slice Ap np cp) ∧ W.cell? ⟨w.heap.size + 1, 5, none⟩ = some (.slice Ad nd cd) ∧ W.cell? ⟨w.heap.size + 1, 6, none⟩ = some (.slice Ac nc cc) ∧ W.cell? ⟨w.heap.size + 1, 7, none⟩ = some (.slice Af nf cf)) := Lib.hid (fun W hR => hR.cells)
  have DR : Hid (∀ W, R2 w #[.slice A1 n1 c1, .slice A2 n2 c2] #[.string nm, .int .i64 ln, .slice Ar nr cr, .slice Av nv cv, .slice Ap np cp, .slice Ad nd cd, .slice Ac nc cc, .slice Af nf cf] W → rcD W B [.slice A1 n1 c1, .slice A2 n2 c2] x ∧ pkD W B [.string nm, .int .i64 ln, .slice Ar nr cr, .slice Av nv cv, .slice Ap np cp, .slice Ad nd cd, .slice Ac nc cc, .slice Af nf cf] p ∧ B ≤ W.heap.size) := Lib.hid (fun W hR => by
    have h3 := rc_stays _ _ _ _ _ _ h (Nat.le_refl B) (hR.below.mono hB)
    rw [hcs] at h3
    exact ⟨h3, pk_stays _ _ _ _ _ _ d1 (Nat.le_refl B) (hR.below.mono hB), Nat.le_trans hB hR.below.size⟩)
  have PC : Hid (∀ W, R2 w #[.slice A1 n1 c1, .slice A2 n2 c2] #[.string nm, .int .i64 ln, .slice Ar nr cr, .slice Av nv cv, .slice Ap np cp, .slice Ad nd cd, .slice Ac nc cc, .slice Af nf cf] W → PkC W B p Ar nr cr Av nv cv Ap np cp Ad nd cd Ac nc cc Af nf cf) := Lib.hid (fun W hR => by
    have hb := hR.below.mono hB
    exact ⟨pc.name, pc.rels.below rel_stays (Nat.le_refl B) hb, pc.vars.below vr_stays (Nat.le_refl B) hb, pc.provs.below strD_stays (Nat.le_refl B) hb, pc.deps.below dep_stays (Nat.le_refl B) hb, pc.confs.below dep_stays (Nat.le_refl B) hb, pc.files.below strD_stays (Nat.le_refl B) hb⟩)
  obtain ⟨j, hj, hz⟩ := findF_le hp
  obtain ⟨pn, hpn⟩ : ∃ n : Nat, n = (provF x.packs p.name).length := ⟨_, rfl⟩
  obtain ⟨g1, hg1⟩ : ∃ g, g = manyB p := ⟨_, rfl⟩
  obtain ⟨g2, hg2⟩ : ∃ g, g = dupB (versF p) := ⟨_, rfl⟩
  obtain ⟨g3, hg3⟩ : ∃ g, g = Variant.mayL p.vars := ⟨_, rfl⟩
  obtain ⟨g4, hg4⟩ : ∃ g, g = dupB p.provs := ⟨_, rfl⟩
  obtain ⟨g5, hg5⟩ : ∃ g, g = dupB p.files := ⟨_, rfl⟩
  have W0 : Hid (aloneF x i p = if j < i then 2 else if 0 < pn then 3 else if nr = 0 then 4 else if g1 = true then 1 else if g2 = true then 5 else if g3 = true then (if g4 = true then 5 else if g5 = true then 5 else 0) else 6) := Lib.hid (by
    have e1 : (findF x.packs p.name < (i : Int)) = (j < i) := by rw [hz]; simp
    unfold aloneF
    simp only [e1, ← hpn, ← hg1, ← hg2, ← hg3, ← hg4, ← hg5, ← pc.rels.len])
  have C1 : Hid (∀ W, R2 w #[.slice A1 n1 c1, .slice A2 n2 c2] #[.string nm, .int .i64 ln, .slice Ar nr cr, .slice Av nv cv, .slice Ap np cp, .slice Ad nd cd, .slice Ac nc cc, .slice Af nf cf] W → Calls Try.prog 15 #[.agg #[.slice A1 n1 c1, .slice A2 n2 c2], .string nm] W fun e w' => e = .returned (.int .i64 j) ∧ Below W.heap.size W w') := Lib.hid (fun W hR => by
    rw [← hz, ← hnm]; exact rfind_any (DR.out W hR).1 (DR.out W hR).2.2 nm)
  have C2 : Hid (∀ W, R2 w #[.slice A1 n1 c1, .slice A2 n2 c2] #[.string nm, .int .i64 ln, .slice Ar nr cr, .slice Av nv cv, .slice Ap np cp, .slice Ad nd cd, .slice Ac nc cc, .slice Af nf cf] W → Calls Try.prog 13 #[.agg #[.slice A1 n1 c1, .slice A2 n2 c2], .string nm] W fun e w' => ∃ A c, e = .returned (.slice A pn c) ∧ Below W.heap.size W w') := Lib.hid (fun W hR => by
    refine (rproviders_any (DR.out W hR).1 (DR.out W hR).2.2 hl nm).mono ?_
    rintro e w' ⟨A, n, c, he, hn, -, -, hb⟩
    rw [hnm, ← hpn] at hn
    subst hn
    exact ⟨A, c, he, hb⟩)
  have NR10 : Hid (g1 = false → nr ≤ 10) := Lib.hid (fun hf => by
    rw [hf] at hg1
    unfold manyB at hg1
    have h := hg1.symm
    simp only [Bool.or_eq_false_iff, decide_eq_false_iff_not] at h
    rw [pc.rels.len]
    omega)
  have C6 : Hid (∀ W, R2 w #[.slice A1 n1 c1, .slice A2 n2 c2] #[.string nm, .int .i64 ln, .slice Ar nr cr, .slice Av nv cv, .slice Ap np cp, .slice Ad nd cd, .slice Ac nc cc, .slice Af nf cf] W → Calls Try.prog 65 #[.slice Av nv cv] W fun e w' => e = .returned (.bool g3) ∧ Below W.heap.size W w') := Lib.hid (fun W hR => by
    have sv := ((PC.out W hR).vars).below vr_stays (DR.out W hR).2.2 (Below.refl _ _)
    rw [hg3]; exact Variant.rmay_any Av p.vars nv cv W (vrow_of sv) sv.len (vars_fit sv))
  have C7 : Hid (∀ W, R2 w #[.slice A1 n1 c1, .slice A2 n2 c2] #[.string nm, .int .i64 ln, .slice Ar nr cr, .slice Av nv cv, .slice Ap np cp, .slice Ad nd cd, .slice Ac nc cc, .slice Af nf cf] W → Calls Try.prog 64 #[.slice Ap np cp] W fun e w' => e = .returned (.bool g4) ∧ Below W.heap.size W w') := Lib.hid (fun W hR => by
    rw [hg4]; exact twice_any (PC.out W hR).provs (DR.out W hR).2.2)
  have C8 : Hid (∀ W, R2 w #[.slice A1 n1 c1, .slice A2 n2 c2] #[.string nm, .int .i64 ln, .slice Ar nr cr, .slice Av nv cv, .slice Ap np cp, .slice Ad nd cd, .slice Ac nc cc, .slice Af nf cf] W → Calls Try.prog 64 #[.slice Af nf cf] W fun e w' => e = .returned (.bool g5) ∧ Below W.heap.size W w') := Lib.hid (fun W hR => by
    rw [hg5]; exact twice_any (PC.out W hR).files (DR.out W hR).2.2)
  have VF : Hid (∀ s ∈ versF p, s.size ≤ maxLen) := Lib.hid (fun s hs => by
    obtain ⟨r, hr, rfl⟩ := List.mem_map.1 hs
    exact rels_fit pc.rels r hr)
  have VL : Hid (nr = (versF p).length) := Lib.hid (by unfold versF; rw [List.length_map]; exact pc.rels.len)
  have HM : Hid (g1 = (decide (10 < nr) || decide (16 < nd) || decide (8 < nc) || decide (4 < np) || decide (8 < nf))) := Lib.hid (by
    rw [hg1, pc.rels.len, pc.deps.len, pc.confs.len, pc.provs.len, pc.files.len]; rfl)
  have C5 : Hid (∀ W A c, Sl ByteArray 1 strD W W.heap.size A nr c (versF p) → Calls Try.prog 64 #[.slice A nr c] W fun e w' => e = .returned (.bool g2) ∧ Below W.heap.size W w') := Lib.hid (fun W A c hs => by
    rw [hg2]; exact twice_any hs (Nat.le_refl _))
  obtain ⟨i0, hi0, hz9⟩ := Option.map_eq_some_iff.1 info_str
  simp only [Prod.mk.injEq] at hz9
  obtain ⟨hz0, hz1, hz2⟩ := hz9
  have INF := Lib.hid (And.intro hi0 (And.intro hz0 (And.intro hz1 hz2)))
  clear hi0 hz0 hz1 hz2
  have n7 := pc.deps.le
  have n8 := pc.confs.le
  have n9 := pc.provs.le
  have n10 := pc.files.le
  have HJ := Lib.hid hj
  have n6 := pc.rels.le
  subst hA1
  rw [hcs]
  clear h s1 s2 hp t1 hcs hnm hln t3 pc d1 hz hpn hg1 hg2 hg3 hg4 hg5 hB hl bw1 hi
  obtain ⟨k0, k1, k2, k3, k4, k5, k6, k7, k8, k9⟩ := KC.out _ R.out
  show Calls Try.prog _ #[.agg #[.slice (some ⟨b, o, none⟩) n1 c1, .slice A2 n2 c2], .int .i64 (i : Nat)] w _
  by_cases hji : j < i
  · have hji2 : ((j : Int) == (i : Int)) = false := by
      cases hb : ((j : Int) == (i : Int)) with
      | false => rfl
      | true => have := eq_of_beq hb; omega
    have hji3 : ((j : Int) != (i : Int)) = true := by unfold bne; rw [hji2]; rfl
    have Z0 : Hid (aloneF x i p = 2) := Lib.hid (by rw [W0.out]; exact if_pos hji)
    go_enter Try.func37, Try.ntmps37
    go_wp2_with (first | (go_at_call 15; (with_reducible refine (C1.out _ R.out).mono ?_); rintro e v1 ⟨rfl, hb⟩; have R := Lib.hid (R.out.step hb); clear hb; obtain ⟨k0, k1, k2, k3, k4, k5, k6, k7, k8, k9⟩ := KC.out _ R.out))
    go_ret
    rw [Z0.out]
    exact ⟨rfl, R.out.below⟩
  obtain rfl : i = j := by have := HJ.out; omega
  have HJL := Lib.hid hji
  clear hji
  by_cases hpn : 0 < pn
  · have hpn2 : (0 : Int) < (pn : Int) := by omega
    have Z0 : Hid (aloneF x i p = 3) := Lib.hid (by rw [W0.out]; rw [if_neg HJL.out, if_pos hpn])
    go_enter Try.func37, Try.ntmps37
    go_wp2_with (first | (go_at_call 15; (with_reducible refine (C1.out _ R.out).mono ?_); rintro e v1 ⟨rfl, hb⟩; have R := Lib.hid (R.out.step hb); clear hb; obtain ⟨k0, k1, k2, k3, k4, k5, k6, k7, k8, k9⟩ := KC.out _ R.out) | (go_at_call 13; (with_reducible refine (C2.out _ R.out).mono ?_); rintro e v1 ⟨PA, pcp, rfl, hb⟩; have R := Lib.hid (R.out.step hb); clear hb; obtain ⟨k0, k1, k2, k3, k4, k5, k6, k7, k8, k9⟩ := KC.out _ R.out))
    go_ret
    rw [Z0.out]
    exact ⟨rfl, R.out.below⟩
  obtain rfl : pn = 0 := by omega
  clear hpn
  by_cases hnr : nr = 0
  · subst hnr
    have Z0 : Hid (aloneF x i p = 4) := Lib.hid (by rw [W0.out]; rw [if_neg HJL.out, if_neg (by decide), if_pos rfl])
    go_enter Try.func37, Try.ntmps37
    go_wp2_with (first | (go_at_call 15; (with_reducible refine (C1.out _ R.out).mono ?_); rintro e v1 ⟨rfl, hb⟩; have R := Lib.hid (R.out.step hb); clear hb; obtain ⟨k0, k1, k2, k3, k4, k5, k6, k7, k8, k9⟩ := KC.out _ R.out) | (go_at_call 13; (with_reducible refine (C2.out _ R.out).mono ?_); rintro e v1 ⟨PA, pcp, rfl, hb⟩; have R := Lib.hid (R.out.step hb); clear hb; obtain ⟨k0, k1, k2, k3, k4, k5, k6, k7, k8, k9⟩ := KC.out _ R.out))
    go_ret
    rw [Z0.out]
    exact ⟨rfl, R.out.below⟩
  have HNR := Lib.hid hnr
  have hnr2 := nz_eq hnr
  clear hnr
  by_cases q0 : 10 < nr
  · have G1 : Hid (g1 = true) := Lib.hid (by rw [HM.out]; simp; omega)
    have q0x : (10 : Int) < (nr : Int) := by omega
    have Z0 : Hid (aloneF x i p = 1) := Lib.hid (by rw [W0.out]; rw [if_neg HJL.out, if_neg (by decide), if_neg HNR.out, if_pos G1.out])
    go_enter Try.func37, Try.ntmps37
    go_wp2_with (first | (go_at_call 15; (with_reducible refine (C1.out _ R.out).mono ?_); rintro e v1 ⟨rfl, hb⟩; have R := Lib.hid (R.out.step hb); clear hb; obtain ⟨k0, k1, k2, k3, k4, k5, k6, k7, k8, k9⟩ := KC.out _ R.out) | (go_at_call 13; (with_reducible refine (C2.out _ R.out).mono ?_); rintro e v1 ⟨PA, pcp, rfl, hb⟩; have R := Lib.hid (R.out.step hb); clear hb; obtain ⟨k0, k1, k2, k3, k4, k5, k6, k7, k8, k9⟩ := KC.out _ R.out))
    go_ret
    rw [Z0.out]
    exact ⟨rfl, R.out.below⟩
  have q0x : (nr : Int) ≤ 10 := by omega
  have Q0 := Lib.hid q0
  clear q0
  by_cases q1 : 16 < nd
  · have G1 : Hid (g1 = true) := Lib.hid (by rw [HM.out]; simp; omega)
    have q1x : (16 : Int) < (nd : Int) := by omega
    have Z0 : Hid (aloneF x i p = 1) := Lib.hid (by rw [W0.out]; rw [if_neg HJL.out, if_neg (by decide), if_neg HNR.out, if_pos G1.out])
    go_enter Try.func37, Try.ntmps37
    go_wp2_with (first | (go_at_call 15; (with_reducible refine (C1.out _ R.out).mono ?_); rintro e v1 ⟨rfl, hb⟩; have R := Lib.hid (R.out.step hb); clear hb; obtain ⟨k0, k1, k2, k3, k4, k5, k6, k7, k8, k9⟩ := KC.out _ R.out) | (go_at_call 13; (with_reducible refine (C2.out _ R.out).mono ?_); rintro e v1 ⟨PA, pcp, rfl, hb⟩; have R := Lib.hid (R.out.step hb); clear hb; obtain ⟨k0, k1, k2, k3, k4, k5, k6, k7, k8, k9⟩ := KC.out _ R.out))
    go_ret
    rw [Z0.out]
    exact ⟨rfl, R.out.below⟩
  have q1x : (nd : Int) ≤ 16 := by omega
  have Q1 := Lib.hid q1
  clear q1
  by_cases q2 : 8 < nc
  · have G1 : Hid (g1 = true) := Lib.hid (by rw [HM.out]; simp; omega)
    have q2x : (8 : Int) < (nc : Int) := by omega
    have Z0 : Hid (aloneF x i p = 1) := Lib.hid (by rw [W0.out]; rw [if_neg HJL.out, if_neg (by decide), if_neg HNR.out, if_pos G1.out])
    go_enter Try.func37, Try.ntmps37
    go_wp2_with (first | (go_at_call 15; (with_reducible refine (C1.out _ R.out).mono ?_); rintro e v1 ⟨rfl, hb⟩; have R := Lib.hid (R.out.step hb); clear hb; obtain ⟨k0, k1, k2, k3, k4, k5, k6, k7, k8, k9⟩ := KC.out _ R.out) | (go_at_call 13; (with_reducible refine (C2.out _ R.out).mono ?_); rintro e v1 ⟨PA, pcp, rfl, hb⟩; have R := Lib.hid (R.out.step hb); clear hb; obtain ⟨k0, k1, k2, k3, k4, k5, k6, k7, k8, k9⟩ := KC.out _ R.out))
    go_ret
    rw [Z0.out]
    exact ⟨rfl, R.out.below⟩
  have q2x : (nc : Int) ≤ 8 := by omega
  have Q2 := Lib.hid q2
  clear q2
  by_cases q3 : 4 < np
  · have G1 : Hid (g1 = true) := Lib.hid (by rw [HM.out]; simp; omega)
    have q3x : (4 : Int) < (np : Int) := by omega
    have Z0 : Hid (aloneF x i p = 1) := Lib.hid (by rw [W0.out]; rw [if_neg HJL.out, if_neg (by decide), if_neg HNR.out, if_pos G1.out])
    go_enter Try.func37, Try.ntmps37
    go_wp2_with (first | (go_at_call 15; (with_reducible refine (C1.out _ R.out).mono ?_); rintro e v1 ⟨rfl, hb⟩; have R := Lib.hid (R.out.step hb); clear hb; obtain ⟨k0, k1, k2, k3, k4, k5, k6, k7, k8, k9⟩ := KC.out _ R.out) | (go_at_call 13; (with_reducible refine (C2.out _ R.out).mono ?_); rintro e v1 ⟨PA, pcp, rfl, hb⟩; have R := Lib.hid (R.out.step hb); clear hb; obtain ⟨k0, k1, k2, k3, k4, k5, k6, k7, k8, k9⟩ := KC.out _ R.out))
    go_ret
    rw [Z0.out]
    exact ⟨rfl, R.out.below⟩
  have q3x : (np : Int) ≤ 4 := by omega
  have Q3 := Lib.hid q3
  clear q3
  by_cases q4 : 8 < nf
  · have G1 : Hid (g1 = true) := Lib.hid (by rw [HM.out]; simp; omega)
    have q4x : (8 : Int) < (nf : Int) := by omega
    have Z0 : Hid (aloneF x i p = 1) := Lib.hid (by rw [W0.out]; rw [if_neg HJL.out, if_neg (by decide), if_neg HNR.out, if_pos G1.out])
    go_enter Try.func37, Try.ntmps37
    go_wp2_with (first | (go_at_call 15; (with_reducible refine (C1.out _ R.out).mono ?_); rintro e v1 ⟨rfl, hb⟩; have R := Lib.hid (R.out.step hb); clear hb; obtain ⟨k0, k1, k2, k3, k4, k5, k6, k7, k8, k9⟩ := KC.out _ R.out) | (go_at_call 13; (with_reducible refine (C2.out _ R.out).mono ?_); rintro e v1 ⟨PA, pcp, rfl, hb⟩; have R := Lib.hid (R.out.step hb); clear hb; obtain ⟨k0, k1, k2, k3, k4, k5, k6, k7, k8, k9⟩ := KC.out _ R.out))
    go_ret
    rw [Z0.out]
    exact ⟨rfl, R.out.below⟩
  have q4x : (nf : Int) ≤ 8 := by omega
  have Q4 := Lib.hid q4
  clear q4
  have G1 : Hid (g1 = false) := Lib.hid (by rw [HM.out]; simp; have := Q0.out; have := Q1.out; have := Q2.out; have := Q3.out; have := Q4.out; omega)
  go_enter Try.func37, Try.ntmps37
  go_wp2_with (first | (go_at_call 15; (with_reducible refine (C1.out _ R.out).mono ?_); rintro e v1 ⟨rfl, hb⟩; have R := Lib.hid (R.out.step hb); clear hb; obtain ⟨k0, k1, k2, k3, k4, k5, k6, k7, k8, k9⟩ := KC.out _ R.out) | (go_at_call 13; (with_reducible refine (C2.out _ R.out).mono ?_); rintro e v1 ⟨PA, pcp, rfl, hb⟩; have R := Lib.hid (R.out.step hb); clear hb; obtain ⟨k0, k1, k2, k3, k4, k5, k6, k7, k8, k9⟩ := KC.out _ R.out; obtain ⟨e0, e1, e2, e3, e4, e5, e6, e7, e8, e9⟩ := KC.out _ (R.out.step ((Below.refl _ _).alloc (Nat.le_refl _) (.cells #[] 9)))))
  have B0 : Hid (Below v1.heap.size v1 (v1.alloc (.cells #[] 9))) := Lib.hid ((Below.refl _ _).alloc (Nat.le_refl _) _)
  have OW0 : Hid ((v1.alloc (.cells #[] 9)).ownsRow v1.heap.size 9 1 (.slice (some ⟨v1.heap.size, 0, none⟩) 0 0) 0 (textsV ((versF p).take 0))) := Lib.hid ⟨rfl, .inr ⟨v1.heap.size, 0, #[], rfl, Nat.le_refl _, heap_alloc_new v1 _, Nat.le_refl _, by unfold maxLen; omega, rfl, rfl⟩⟩
  clear k0 k1 k2 k3 k4 k5 k6 k7 k8 k9 e0 e1 e2 e3 e4 e5 e6 e7 e8 e9
  go_loopw [6, 7, 61] (fun row _ v wq => ∃ (k g c : Nat), v = .int .i64 k ∧ k ≤ nr ∧ row = .slice (some ⟨g, 0, none⟩) k c ∧ wq.ownsRow v1.heap.size 9 1 (.slice (some ⟨g, 0, none⟩) k c) k (textsV ((versF p).take k)) ∧ Below v1.heap.size v1 wq) (fun _ _ v _ => nr - (intOf v).toNat)
  case atStart => exact ⟨0, _, 0, rfl, Nat.zero_le _, rfl, OW0.out, B0.out⟩
  case round =>
    obtain ⟨k, g0, c, rfl, hk, rfl, hown, hbw⟩ := hrel
    have OW := Lib.hid hown
    have BW := Lib.hid hbw
    have RW := Lib.hid (R.out.step hbw)
    clear hown hbw
    obtain ⟨k0, k1, k2, k3, k4, k5, k6, k7, k8, k9⟩ := KC.out _ RW.out
    by_cases hlt : k < nr
    · have hlt' : (k : Int) < (nr : Int) := by omega
      obtain ⟨⟨s, old⟩, b2, o2, t1, hA, t3, y0, y1, -⟩ := rel_at (PC.out _ RW.out).rels hlt
      subst hA
      simp only [] at y0 y1
      have NX : Hid (textsV ((versF p).take (k + 1)) = textsV ((versF p).take k) ++ [.string s]) := Lib.hid (by
        have e : (versF p)[k]? = some s := by unfold versF; rw [List.getElem?_map, t1]; rfl
        rw [take_next e]; unfold textsV; rw [List.map_append]; rfl)
      clear t1 t3
      go_wp2_with (at_builtin; refine wp_append_one wr rfl (.tmp 64) (.tmp 71) 41 rfl v1.heap.size 9 i0 _ 16 Try.underlying41 INF.out.1 INF.out.2.1 INF.out.2.2.1 INF.out.2.2.2 rfl (.slice (some ⟨g0, 0, none⟩) k c) k _ rfl OW.out (.string s) rfl rfl ?c1 ?c2 ?c3 ?_)
      case c1 => unfold maxLen; omega
      case c2 => omega
      case c3 => exact BW.out.size
      intro g2 cap2 w2 hown2 _ _ hb2 _ hgr
      have OW2 := Lib.hid hown2
      have BW2 := Lib.hid (BW.out.trans hb2)
      clear hown2 hb2 hgr
      go_wp2_with fail
      go_roundw
      case rel => exact ⟨k + 1, g2, cap2, by go_num, by omega, rfl, by rw [NX.out]; exact OW2.out, BW2.out⟩
      case measure => simp [intOf]; omega
    · obtain rfl : k = nr := by omega
      have VS := Lib.hid (C5.out wr _ c (own_texts (by have h := OW.out; rw [take_all VL.out] at h; exact h) VL.out VF.out))
      have R := RW
      clear OW BW
      cases g2
      case true =>
        have Z0 : Hid (aloneF x i p = 5) := Lib.hid (by rw [W0.out]; rw [if_neg HJL.out, if_neg (by decide), if_neg HNR.out, if_neg (by rw [G1.out]; decide), if_pos rfl])
        go_wp2_with (first | (go_at_call 64; (with_reducible refine (VS.out).mono ?_); rintro e v1 ⟨rfl, hb⟩; have R := Lib.hid (R.out.step hb); clear hb; obtain ⟨k0, k1, k2, k3, k4, k5, k6, k7, k8, k9⟩ := KC.out _ R.out))
        go_ret
        rw [Z0.out]
        exact ⟨rfl, R.out.below⟩
      cases g3
      case false =>
        have Z0 : Hid (aloneF x i p = 6) := Lib.hid (by rw [W0.out]; rw [if_neg HJL.out, if_neg (by decide), if_neg HNR.out, if_neg (by rw [G1.out]; decide), if_neg (by decide), if_neg (by decide)])
        go_wp2_with (first | (go_at_call 64; (with_reducible refine (VS.out).mono ?_); rintro e v1 ⟨rfl, hb⟩; have R := Lib.hid (R.out.step hb); clear hb; obtain ⟨k0, k1, k2, k3, k4, k5, k6, k7, k8, k9⟩ := KC.out _ R.out) | (go_at_call 65; (with_reducible refine (C6.out _ R.out).mono ?_); rintro e v1 ⟨rfl, hb⟩; have R := Lib.hid (R.out.step hb); clear hb; obtain ⟨k0, k1, k2, k3, k4, k5, k6, k7, k8, k9⟩ := KC.out _ R.out))
        go_ret
        rw [Z0.out]
        exact ⟨rfl, R.out.below⟩
      cases g4
      case true =>
        have Z0 : Hid (aloneF x i p = 5) := Lib.hid (by rw [W0.out]; rw [if_neg HJL.out, if_neg (by decide), if_neg HNR.out, if_neg (by rw [G1.out]; decide), if_neg (by decide), if_pos rfl, if_pos rfl])
        go_wp2_with (first | (go_at_call 64; (with_reducible refine (VS.out).mono ?_); rintro e v1 ⟨rfl, hb⟩; have R := Lib.hid (R.out.step hb); clear hb; obtain ⟨k0, k1, k2, k3, k4, k5, k6, k7, k8, k9⟩ := KC.out _ R.out) | (go_at_call 65; (with_reducible refine (C6.out _ R.out).mono ?_); rintro e v1 ⟨rfl, hb⟩; have R := Lib.hid (R.out.step hb); clear hb; obtain ⟨k0, k1, k2, k3, k4, k5, k6, k7, k8, k9⟩ := KC.out _ R.out) | (go_at_call 64; (with_reducible refine (C7.out _ R.out).mono ?_); rintro e v1 ⟨rfl, hb⟩; have R := Lib.hid (R.out.step hb); clear hb; obtain ⟨k0, k1, k2, k3, k4, k5, k6, k7, k8, k9⟩ := KC.out _ R.out) | (go_at_call 64; (with_reducible refine (C8.out _ R.out).mono ?_); rintro e v1 ⟨rfl, hb⟩; have R := Lib.hid (R.out.step hb); clear hb; obtain ⟨k0, k1, k2, k3, k4, k5, k6, k7, k8, k9⟩ := KC.out _ R.out))
        go_ret
        rw [Z0.out]
        exact ⟨rfl, R.out.below⟩
      cases g5
      case true =>
        have Z0 : Hid (aloneF x i p = 5) := Lib.hid (by rw [W0.out]; rw [if_neg HJL.out, if_neg (by decide), if_neg HNR.out, if_neg (by rw [G1.out]; decide), if_neg (by decide), if_pos rfl, if_neg (by decide), if_pos rfl])
        go_wp2_with (first | (go_at_call 64; (with_reducible refine (VS.out).mono ?_); rintro e v1 ⟨rfl, hb⟩; have R := Lib.hid (R.out.step hb); clear hb; obtain ⟨k0, k1, k2, k3, k4, k5, k6, k7, k8, k9⟩ := KC.out _ R.out) | (go_at_call 65; (with_reducible refine (C6.out _ R.out).mono ?_); rintro e v1 ⟨rfl, hb⟩; have R := Lib.hid (R.out.step hb); clear hb; obtain ⟨k0, k1, k2, k3, k4, k5, k6, k7, k8, k9⟩ := KC.out _ R.out) | (go_at_call 64; (with_reducible refine (C7.out _ R.out).mono ?_); rintro e v1 ⟨rfl, hb⟩; have R := Lib.hid (R.out.step hb); clear hb; obtain ⟨k0, k1, k2, k3, k4, k5, k6, k7, k8, k9⟩ := KC.out _ R.out) | (go_at_call 64; (with_reducible refine (C8.out _ R.out).mono ?_); rintro e v1 ⟨rfl, hb⟩; have R := Lib.hid (R.out.step hb); clear hb; obtain ⟨k0, k1, k2, k3, k4, k5, k6, k7, k8, k9⟩ := KC.out _ R.out))
        go_ret
        rw [Z0.out]
        exact ⟨rfl, R.out.below⟩
      case false =>
        have Z0 : Hid (aloneF x i p = 0) := Lib.hid (by rw [W0.out]; rw [if_neg HJL.out, if_neg (by decide), if_neg HNR.out, if_neg (by rw [G1.out]; decide), if_neg (by decide), if_pos rfl, if_neg (by decide), if_neg (by decide)])
        go_wp2_with (first | (go_at_call 64; (with_reducible refine (VS.out).mono ?_); rintro e v1 ⟨rfl, hb⟩; have R := Lib.hid (R.out.step hb); clear hb; obtain ⟨k0, k1, k2, k3, k4, k5, k6, k7, k8, k9⟩ := KC.out _ R.out) | (go_at_call 65; (with_reducible refine (C6.out _ R.out).mono ?_); rintro e v1 ⟨rfl, hb⟩; have R := Lib.hid (R.out.step hb); clear hb; obtain ⟨k0, k1, k2, k3, k4, k5, k6, k7, k8, k9⟩ := KC.out _ R.out) | (go_at_call 64; (with_reducible refine (C7.out _ R.out).mono ?_); rintro e v1 ⟨rfl, hb⟩; have R := Lib.hid (R.out.step hb); clear hb; obtain ⟨k0, k1, k2, k3, k4, k5, k6, k7, k8, k9⟩ := KC.out _ R.out) | (go_at_call 64; (with_reducible refine (C8.out _ R.out).mono ?_); rintro e v1 ⟨rfl, hb⟩; have R := Lib.hid (R.out.step hb); clear hb; obtain ⟨k0, k1, k2, k3, k4, k5, k6, k7, k8, k9⟩ := KC.out _ R.out))
        go_ret
        rw [Z0.out]
        exact ⟨rfl, R.out.below⟩

end Go.Proofs.Ytccmgaibikiedaa.Dc
