/- Recipes: what is wrong with a package by itself. -/
import Derived.Test.YtccmgaibikiedaaDeB
import Derived.Test.YtccmgaibikiedaaVariantI0
namespace Go.Proofs.Ytccmgaibikiedaa.Dc
open Go.RowKit
set_option linter.unusedVariables false
set_option linter.unusedSimpArgs false
section
variable {w : World} {B : Nat}
theorem srow_of {A : Option Addr} {n c : Nat} {l : List ByteArray} (h : Sl ByteArray 1 strD w B A n c l) : Variant.SRow w B A l := by
  rcases h.row with h' | ⟨b, o, e, hb, hc⟩
  · exact .inl h'
  · refine .inr ⟨b, o, e, hb, fun j hj => ?_⟩
    obtain ⟨vs, h1, h2, h3⟩ := hc j _ (List.getElem?_eq_getElem hj)
    have e2 : l.getD j ByteArray.empty = l[j] := by rw [List.getD_eq_getElem?_getD, List.getElem?_eq_getElem hj]; rfl
    rw [e2]
    obtain ⟨rfl, -⟩ := h3
    have h4 := h2 0 (by decide)
    rw [Nat.mul_one] at h4
    exact h4
theorem vrow_of {A : Option Addr} {n c : Nat} {l : List Vr} (h : Sl Vr 2 vrD w B A n c l) : Variant.VRow w B A l := by
  rcases h.row with h' | ⟨b, o, e, hb, hc⟩
  · exact .inl h'
  · refine .inr ⟨b, o, e, hb, fun j hj => ?_⟩
    obtain ⟨vs, h1, h2, h3⟩ := hc j _ (List.getElem?_eq_getElem hj)
    have e2 : l.getD j Variant.vr0 = l[j] := by rw [List.getD_eq_getElem?_getD, List.getElem?_eq_getElem hj]; rfl
    rw [e2]
    obtain ⟨A', n', c', rfl, -, z2⟩ := vr_cells h3
    exact ⟨A', n', c', z2.len, z2.cap, z2.max, srow_of z2, h2 0 (by decide), h2 1 (by decide)⟩
theorem texts_fit {A : Option Addr} {n c : Nat} {l : List ByteArray} (h : Sl ByteArray 1 strD w B A n c l) (i : Nat) : (l.getD i ByteArray.empty).size ≤ maxLen := by
  rcases Nat.lt_or_ge i n with hi | hi
  · obtain ⟨s, b, o, t1, -, -, -, t4⟩ := text_at h hi
    rw [List.getD_eq_getElem?_getD, t1]
    exact t4
  · rw [List.getD_eq_getElem?_getD, List.getElem?_eq_none (by rw [← h.len]; exact hi)]
    exact Nat.zero_le _
theorem vars_fit {A : Option Addr} {n c : Nat} {l : List Vr} (h : Sl Vr 2 vrD w B A n c l) : Variant.Fit l := fun j i => by
  rcases Nat.lt_or_ge j n with hj | hj
  · obtain ⟨s, b, o, A', n', c', t1, -, -, -, -, -, t4⟩ := vr_at h hj
    have e2 : l.getD j Variant.vr0 = s := by rw [List.getD_eq_getElem?_getD, t1]; rfl
    rw [e2]
    exact texts_fit t4 i
  · have e2 : l.getD j Variant.vr0 = Variant.vr0 := by rw [List.getD_eq_getElem?_getD, List.getElem?_eq_none (by rw [← h.len]; exact hj)]; rfl
    rw [e2]
    show (([] : List ByteArray).getD i ByteArray.empty).size ≤ maxLen
    simp
theorem rels_fit {A : Option Addr} {n c : Nat} {l : List Rel} (h : Sl Rel 2 relD w B A n c l) : ∀ r ∈ l, r.1.size ≤ maxLen := fun r hr => by
  obtain ⟨i, hi, rfl⟩ := List.getElem_of_mem hr
  obtain ⟨s, b, o, t1, -, -, -, -, t4⟩ := rel_at h (show i < n by rw [h.len]; exact hi)
  rw [List.getElem?_eq_getElem hi] at t1
  rw [Option.some.inj t1]
  exact t4
end
theorem findG_le {α : Type} {f : α → Bool} : ∀ (l : List α) (k i : Nat) (y : α), l[i]? = some y → f y = true → ∃ j, j ≤ i ∧ findG f l k = ((k + j : Nat) : Int)
  | [], _, _, _, h, _ => by simp at h
  | z :: l, k, i, y, h, hy => by
    unfold findG
    by_cases hz : f z = true
    · rw [if_pos hz]; exact ⟨0, Nat.zero_le _, rfl⟩
    · rw [if_neg hz]
      cases i with
      | zero =>
        simp only [List.getElem?_cons_zero, Option.some.injEq] at h
        rw [h] at hz
        exact absurd hy hz
      | succ i =>
        obtain ⟨j, hj, e⟩ := findG_le l (k + 1) i y (by simpa using h) hy
        exact ⟨j + 1, by omega, by rw [e]; congr 1; omega⟩
theorem findF_le {l : List Pk} {i : Nat} {p : Pk} (h : l[i]? = some p) : ∃ j : Nat, j ≤ i ∧ findF l p.name = (j : Int) := by
  obtain ⟨j, hj, e⟩ := findG_le (f := nmB p.name) l 0 i p h ((eqB_iff _ _).2 rfl)
  exact ⟨j, hj, by unfold findF; rw [e, Nat.zero_add]⟩
def versF (p : Pk) : List ByteArray := p.rels.map (·.1)
def aloneF (x : Rc) (i : Nat) (p : Pk) : Nat :=
  if findF x.packs p.name < (i : Int) then 2 else if 0 < (provF x.packs p.name).length then 3 else if p.rels.length = 0 then 4 else if manyB p = true then 1 else if dupB (versF p) = true then 5
  else if Variant.mayL p.vars = true then (if dupB p.provs = true then 5 else if dupB p.files = true then 5 else 0) else 6
/-- the boxes of a recipe and a package. -/
structure R2 (w : World) (RC PK : Array Value) (W : World) : Prop where
  b0 : W.heap[w.heap.size]? = some (.cells RC 25 (0, 0))
  b1 : W.heap[w.heap.size + 1]? = some (.cells PK 45 (0, 0))
  below : Below w.heap.size w W
theorem R2.start (w : World) (RC PK : Array Value) : R2 w RC PK ((w.alloc (.cells RC 25)).alloc (.cells PK 45)) :=
  ⟨(Below.heap_alloc _ _ _ (by simp)).trans (heap_alloc_new w _), two_new w _ _, two_below w _ _⟩
theorem R2.step {w W W' : World} {RC PK : Array Value} (h : R2 w RC PK W) (hb : Below W.heap.size W W') : R2 w RC PK W' :=
  ⟨(hb.block _ (lt_of_block h.b0)).trans h.b0, (hb.block _ (lt_of_block h.b1)).trans h.b1, h.below.trans (hb.mono h.below.size)⟩
theorem R2.cells {w W : World} {A1 A2 Ar Av Ap Ad Ac Af : Option Addr} {n1 c1 n2 c2 nr cr nv cv np cp nd cd nc cc nf cf : Nat} {nm : ByteArray} {ln : Int} (hR : R2 w #[.slice A1 n1 c1, .slice A2 n2 c2] #[.string nm, .int .i64 ln, .slice Ar nr cr, .slice Av nv cv, .slice Ap np cp, .slice Ad nd cd, .slice Ac nc cc, .slice Af nf cf] W) : W.cell? ⟨w.heap.size, 0, none⟩ = some (.slice A1 n1 c1) ∧ W.cell? ⟨w.heap.size, 1, none⟩ = some (.slice A2 n2 c2) ∧ W.cell? ⟨w.heap.size + 1, 0, none⟩ = some (.string nm) ∧ W.cell? ⟨w.heap.size + 1, 1, none⟩ = some (.int .i64 ln) ∧ W.cell? ⟨w.heap.size + 1, 2, none⟩ = some (.slice Ar nr cr) ∧ W.cell? ⟨w.heap.size + 1, 3, none⟩ = some (.slice Av nv cv) ∧ W.cell? ⟨w.heap.size + 1, 4, none⟩ = some (.slice Ap np cp) ∧ W.cell? ⟨w.heap.size + 1, 5, none⟩ = some (.slice Ad nd cd) ∧ W.cell? ⟨w.heap.size + 1, 6, none⟩ = some (.slice Ac nc cc) ∧ W.cell? ⟨w.heap.size + 1, 7, none⟩ = some (.slice Af nf cf) := ⟨blk_cell (j := 0) hR.b0 rfl, blk_cell (j := 1) hR.b0 rfl, blk_cell (j := 0) hR.b1 rfl, blk_cell (j := 1) hR.b1 rfl, blk_cell (j := 2) hR.b1 rfl, blk_cell (j := 3) hR.b1 rfl, blk_cell (j := 4) hR.b1 rfl, blk_cell (j := 5) hR.b1 rfl, blk_cell (j := 6) hR.b1 rfl, blk_cell (j := 7) hR.b1 rfl⟩
set_option maxHeartbeats 8000000 in
set_option maxRecDepth 100000 in
theorem packageCode_any {w : World} {B : Nat} {x : Rc} {cs : List Value} (h : rcD w B cs x) (hB : B ≤ w.heap.size) (hl : x.packs.length ≤ 1000) {i : Nat} {p : Pk} (hp : x.packs[i]? = some p) :
    Calls Try.prog 34 #[.agg cs.toArray, .int .i64 (i : Nat)] w fun e w' => e = .returned (.int .u8 (aloneF x i p)) ∧ Below w.heap.size w w' := by
  obtain ⟨A1, n1, c1, A2, n2, c2, hcs, s1, s2⟩ := rc_cells h
  have hi : i < n1 := by
    rw [s1.len]
    rcases Nat.lt_or_ge i x.packs.length with h' | h'
    · exact h'
    · rw [List.getElem?_eq_none h'] at hp; cases hp
  have hi' : (i : Int) < (n1 : Int) := by omega
  have n5 := s1.le
  obtain ⟨q, b, o, Ar, nr, cr, Av, nv, cv, Ap, np, cp, Ad, nd, cd, Ac, nc, cc, Af, nf, cf, t1, hA1, t3, x0, x1, x2, x3, x4, x5, x6, x7, pc, d1⟩ := pk_at s1 hi
  obtain rfl : p = q := by rw [t1] at hp; exact (Option.some.inj hp).symm
  obtain ⟨nm, hnm⟩ : ∃ y, y = p.name := ⟨_, rfl⟩
  obtain ⟨ln, hln⟩ : ∃ y, y = p.line := ⟨_, rfl⟩
  rw [← hnm] at x0 d1
  rw [← hln] at x1 d1
  have bw1 : Below B w (w.alloc (.cells #[.slice A1 n1 c1, .slice A2 n2 c2] 25)) := (Below.refl B w).alloc hB _
  have h0 : (w.alloc (.cells #[.slice A1 n1 c1, .slice A2 n2 c2] 25)).cell? ⟨w.heap.size, 0, none⟩ = some (.slice A1 n1 c1) := blk_cell (heap_alloc_new w _) rfl
  replace x0 := (bw1.cell (p := ⟨b, o + i * 8, none⟩) t3).trans x0
  replace x1 := (bw1.cell (p := ⟨b, o + i * 8 + 1, none⟩) t3).trans x1
  replace x2 := (bw1.cell (p := ⟨b, o + i * 8 + 2, none⟩) t3).trans x2
  replace x3 := (bw1.cell (p := ⟨b, o + i * 8 + 3, none⟩) t3).trans x3
  replace x4 := (bw1.cell (p := ⟨b, o + i * 8 + 4, none⟩) t3).trans x4
  replace x5 := (bw1.cell (p := ⟨b, o + i * 8 + 5, none⟩) t3).trans x5
  replace x6 := (bw1.cell (p := ⟨b, o + i * 8 + 6, none⟩) t3).trans x6
  replace x7 := (bw1.cell (p := ⟨b, o + i * 8 + 7, none⟩) t3).trans x7
  have R := Lib.hid (R2.start w #[.slice A1 n1 c1, .slice A2 n2 c2] #[.string nm, .int .i64 ln, .slice Ar nr cr, .slice Av nv cv, .slice Ap np cp, .slice Ad nd cd, .slice Ac nc cc, .slice Af nf cf])
  have KC : Hid (∀ W, R2 w #[.slice A1 n1 c1, .slice A2 n2 c2] #[.string nm, .int .i64 ln, .slice Ar nr cr, .slice Av nv cv, .slice Ap np cp, .slice Ad nd cd, .slice Ac nc cc, .slice Af nf cf] W → W.cell? ⟨w.heap.size, 0, none⟩ = some (.slice A1 n1 c1) ∧ W.cell? ⟨w.heap.size, 1, none⟩ = some (.slice A2 n2 c2) ∧ W.cell? ⟨w.heap.size + 1, 0, none⟩ = some (.string nm) ∧ W.cell? ⟨w.heap.size + 1, 1, none⟩ = some (.int .i64 ln) ∧ W.cell? ⟨w.heap.size + 1, 2, none⟩ = some (.slice Ar nr cr) ∧ W.cell? ⟨w.heap.size + 1, 3, none⟩ = some (.slice Av nv cv) ∧ W.cell? ⟨w.heap.size + 1, 4, none⟩ = some (.slice Ap np cp) ∧ W.cell? ⟨w.heap.size + 1, 5, none⟩ = some (.slice Ad nd cd) ∧ W.cell? ⟨w.heap.size + 1, 6, none⟩ = some (.slice Ac nc cc) ∧ W.cell? ⟨w.heap.size + 1, 7, none⟩ = some (.slice Af nf cf)) := Lib.hid (fun W hR => hR.cells)
  have DR : Hid (∀ W, R2 w #[.slice A1 n1 c1, .slice A2 n2 c2] #[.string nm, .int .i64 ln, .slice Ar nr cr, .slice Av nv cv, .slice Ap np cp, .slice Ad nd cd, .slice Ac nc cc, .slice Af nf cf] W → rcD W B [.slice A1 n1 c1, .slice A2 n2 c2] x ∧ pkD W B [.string nm, .int .i64 ln, .slice Ar nr cr, .slice Av nv cv, .slice Ap np cp, .slice Ad nd cd, .slice Ac nc cc, .slice Af nf cf] p ∧ B ≤ W.heap.size) := Lib.hid (fun W hR => by
    have h3 := rc_stays _ _ _ _ _ _ h (Nat.le_refl B) (hR.below.mono hB)
    rw [hcs] at h3
    exact ⟨h3, pk_stays _ _ _ _ _ _ d1 (Nat.le_refl B) (hR.below.mono hB), Nat.le_trans hB hR.below.size⟩)
  have PC : Hid (∀ W, R2 w #[.slice A1 n1 c1, .slice A2 n2 c2] #[.string nm, .int .i64 ln, .slice Ar nr cr, .slice Av nv cv, .slice Ap np cp, .slice Ad nd cd, .slice Ac nc cc, .slice Af nf cf] W → PkC W B p Ar nr cr Av nv cv Ap np cp Ad nd cd Ac nc cc Af nf cf) := Lib.hid (fun W hR => by
    have hb := hR.below.mono hB
    exact ⟨pc.name, pc.rels.below rel_stays (Nat.le_refl B) hb, pc.vars.below vr_stays (Nat.le_refl B) hb, pc.provs.below strD_stays (Nat.le_refl B) hb, pc.deps.below dep_stays (Nat.le_refl B) hb, pc.confs.below dep_stays (Nat.le_refl B) hb, pc.files.below strD_stays (Nat.le_refl B) hb⟩)
  obtain ⟨j, hj, hz⟩ := findF_le hp
  obtain ⟨pn, hpn⟩ : ∃ n : Nat, n = (provF x.packs p.name).length := ⟨_, rfl⟩
  obtain ⟨g1, hg1⟩ : ∃ g, g = manyB p := ⟨_, rfl⟩
  obtain ⟨g2, hg2⟩ : ∃ g, g = dupB (versF p) := ⟨_, rfl⟩
  obtain ⟨g3, hg3⟩ : ∃ g, g = Variant.mayL p.vars := ⟨_, rfl⟩
  obtain ⟨g4, hg4⟩ : ∃ g, g = dupB p.provs := ⟨_, rfl⟩
  obtain ⟨g5, hg5⟩ : ∃ g, g = dupB p.files := ⟨_, rfl⟩
  have W0 : Hid (aloneF x i p = if j < i then 2 else if 0 < pn then 3 else if nr = 0 then 4 else if g1 = true then 1 else if g2 = true then 5 else if g3 = true then (if g4 = true then 5 else if g5 = true then 5 else 0) else 6) := Lib.hid (by
    have e1 : (findF x.packs p.name < (i : Int)) = (j < i) := by rw [hz]; simp
    unfold aloneF
    simp only [e1, ← hpn, ← hg1, ← hg2, ← hg3, ← hg4, ← hg5, ← pc.rels.len])
  have C1 : Hid (∀ W, R2 w #[.slice A1 n1 c1, .slice A2 n2 c2] #[.string nm, .int .i64 ln, .slice Ar nr cr, .slice Av nv cv, .slice Ap np cp, .slice Ad nd cd, .slice Ac nc cc, .slice Af nf cf] W → Calls Try.prog 14 #[.agg #[.slice A1 n1 c1, .slice A2 n2 c2], .string nm] W fun e w' => e = .returned (.int .i64 j) ∧ Below W.heap.size W w') := Lib.hid (fun W hR => by
    rw [← hz, ← hnm]; exact find_any (DR.out W hR).1 (DR.out W hR).2.2 nm)
  have C2 : Hid (∀ W, R2 w #[.slice A1 n1 c1, .slice A2 n2 c2] #[.string nm, .int .i64 ln, .slice Ar nr cr, .slice Av nv cv, .slice Ap np cp, .slice Ad nd cd, .slice Ac nc cc, .slice Af nf cf] W → Calls Try.prog 12 #[.agg #[.slice A1 n1 c1, .slice A2 n2 c2], .string nm] W fun e w' => ∃ A c, e = .returned (.slice A pn c) ∧ Below W.heap.size W w') := Lib.hid (fun W hR => by
    refine (providers_any (DR.out W hR).1 (DR.out W hR).2.2 hl nm).mono ?_
    rintro e w' ⟨A, n, c, he, hn, -, -, hb⟩
    rw [hnm, ← hpn] at hn
    subst hn
    exact ⟨A, c, he, hb⟩)
  have NR10 : Hid (g1 = false → nr ≤ 10) := Lib.hid (fun hf => by
    rw [hf] at hg1
    unfold manyB at hg1
    have h := hg1.symm
    simp only [Bool.or_eq_false_iff, decide_eq_false_iff_not] at h
    rw [pc.rels.len]
    omega)
  have C6 : Hid (∀ W, R2 w #[.slice A1 n1 c1, .slice A2 n2 c2] #[.string nm, .int .i64 ln, .slice Ar nr cr, .slice Av nv cv, .slice Ap np cp, .slice Ad nd cd, .slice Ac nc cc, .slice Af nf cf] W → Calls Try.prog 59 #[.slice Av nv cv] W fun e w' => e = .returned (.bool g3) ∧ Below W.heap.size W w') := Lib.hid (fun W hR => by
    have sv := ((PC.out W hR).vars).below vr_stays (DR.out W hR).2.2 (Below.refl _ _)
    rw [hg3]; exact Variant.may_any Av p.vars nv cv W (vrow_of sv) sv.len sv.cap sv.max)
  have C7 : Hid (∀ W, R2 w #[.slice A1 n1 c1, .slice A2 n2 c2] #[.string nm, .int .i64 ln, .slice Ar nr cr, .slice Av nv cv, .slice Ap np cp, .slice Ad nd cd, .slice Ac nc cc, .slice Af nf cf] W → Calls Try.prog 57 #[.slice Ap np cp] W fun e w' => e = .returned (.bool g4) ∧ Below W.heap.size W w') := Lib.hid (fun W hR => by
    rw [hg4]; exact alike_any (PC.out W hR).provs (DR.out W hR).2.2)
  have C8 : Hid (∀ W, R2 w #[.slice A1 n1 c1, .slice A2 n2 c2] #[.string nm, .int .i64 ln, .slice Ar nr cr, .slice Av nv cv, .slice Ap np cp, .slice Ad nd cd, .slice Ac nc cc, .slice Af nf cf] W → Calls Try.prog 57 #[.slice Af nf cf] W fun e w' => e = .returned (.bool g5) ∧ Below W.heap.size W w') := Lib.hid (fun W hR => by
    rw [hg5]; exact alike_any (PC.out W hR).files (DR.out W hR).2.2)
  have C3 : Hid (∀ W, R2 w #[.slice A1 n1 c1, .slice A2 n2 c2] #[.string nm, .int .i64 ln, .slice Ar nr cr, .slice Av nv cv, .slice Ap np cp, .slice Ad nd cd, .slice Ac nc cc, .slice Af nf cf] W → Calls Try.prog 56 #[.agg #[.string nm, .int .i64 ln, .slice Ar nr cr, .slice Av nv cv, .slice Ap np cp, .slice Ad nd cd, .slice Ac nc cc, .slice Af nf cf]] W fun e w' => e = .returned (.bool g1) ∧ Below W.heap.size W w') := Lib.hid (fun W hR => by
    rw [hg1]; exact many_any (DR.out W hR).2.1)
  have C4 : Hid (g1 = false → ∀ W, R2 w #[.slice A1 n1 c1, .slice A2 n2 c2] #[.string nm, .int .i64 ln, .slice Ar nr cr, .slice Av nv cv, .slice Ap np cp, .slice Ad nd cd, .slice Ac nc cc, .slice Af nf cf] W → Calls Try.prog 58 #[.agg #[.string nm, .int .i64 ln, .slice Ar nr cr, .slice Av nv cv, .slice Ap np cp, .slice Ad nd cd, .slice Ac nc cc, .slice Af nf cf]] W fun e w' => ∃ o n, e = .returned (.slice (some ⟨o, 0, none⟩) n n) ∧ Below W.heap.size W w' ∧ Calls Try.prog 57 #[.slice (some ⟨o, 0, none⟩) n n] w' fun e2 w2 => e2 = .returned (.bool g2) ∧ Below w'.heap.size w' w2) := Lib.hid (fun hf W hR => by
    refine (versions_any (DR.out W hR).2.1 (DR.out W hR).2.2 (by have := NR10.out hf; have := pc.rels.len; omega) (rels_fit pc.rels)).mono ?_
    rintro e w' ⟨o, n, he, hs, hb⟩
    refine ⟨o, n, he, hb, ?_⟩
    rw [hg2]
    exact alike_any hs (Nat.le_refl _))
  have HJ := Lib.hid hj
  have n6 := pc.rels.le
  subst hA1
  rw [hcs]
  clear h s1 s2 hp t1 hcs hnm hln t3 pc d1 hz hpn hg1 hg2 hg3 hg4 hg5 hB hl bw1 hi
  obtain ⟨k0, k1, k2, k3, k4, k5, k6, k7, k8, k9⟩ := KC.out _ R.out
  show Calls Try.prog _ #[.agg #[.slice (some ⟨b, o, none⟩) n1 c1, .slice A2 n2 c2], .int .i64 (i : Nat)] w _
  by_cases hji : j < i
  · have hji2 : (j : Int) < (i : Int) := by omega
    have Z0 : Hid (aloneF x i p = 2) := Lib.hid (by rw [W0.out]; exact if_pos hji)
    go_enter Try.func34, Try.ntmps34
    go_wp2_with (first | (go_at_call 14; (with_reducible refine (C1.out _ R.out).mono ?_); rintro e v1 ⟨rfl, hb⟩; have R := Lib.hid (R.out.step hb); clear hb; obtain ⟨k0, k1, k2, k3, k4, k5, k6, k7, k8, k9⟩ := KC.out _ R.out))
    go_ret
    rw [Z0.out]
    exact ⟨rfl, R.out.below⟩
  have HJL := Lib.hid hji
  have hji2 : ¬ (j : Int) < (i : Int) := by omega
  clear hji
  by_cases hpn : 0 < pn
  · have hpn2 : (0 : Int) < (pn : Int) := by omega
    have Z0 : Hid (aloneF x i p = 3) := Lib.hid (by rw [W0.out]; rw [if_neg HJL.out, if_pos hpn])
    go_enter Try.func34, Try.ntmps34
    go_wp2_with (first | (go_at_call 14; (with_reducible refine (C1.out _ R.out).mono ?_); rintro e v1 ⟨rfl, hb⟩; have R := Lib.hid (R.out.step hb); clear hb; obtain ⟨k0, k1, k2, k3, k4, k5, k6, k7, k8, k9⟩ := KC.out _ R.out) | (go_at_call 12; (with_reducible refine (C2.out _ R.out).mono ?_); rintro e v1 ⟨PA, pcp, rfl, hb⟩; have R := Lib.hid (R.out.step hb); clear hb; obtain ⟨k0, k1, k2, k3, k4, k5, k6, k7, k8, k9⟩ := KC.out _ R.out))
    go_ret
    rw [Z0.out]
    exact ⟨rfl, R.out.below⟩
  obtain rfl : pn = 0 := by omega
  clear hpn
  by_cases hnr : nr = 0
  · subst hnr
    have Z0 : Hid (aloneF x i p = 4) := Lib.hid (by rw [W0.out]; rw [if_neg HJL.out, if_neg (by decide), if_pos rfl])
    go_enter Try.func34, Try.ntmps34
    go_wp2_with (first | (go_at_call 14; (with_reducible refine (C1.out _ R.out).mono ?_); rintro e v1 ⟨rfl, hb⟩; have R := Lib.hid (R.out.step hb); clear hb; obtain ⟨k0, k1, k2, k3, k4, k5, k6, k7, k8, k9⟩ := KC.out _ R.out) | (go_at_call 12; (with_reducible refine (C2.out _ R.out).mono ?_); rintro e v1 ⟨PA, pcp, rfl, hb⟩; have R := Lib.hid (R.out.step hb); clear hb; obtain ⟨k0, k1, k2, k3, k4, k5, k6, k7, k8, k9⟩ := KC.out _ R.out))
    go_ret
    rw [Z0.out]
    exact ⟨rfl, R.out.below⟩
  have HNR := Lib.hid hnr
  have hnr2 := nz_eq hnr
  clear hnr
  cases g1
  case true =>
    have Z0 : Hid (aloneF x i p = 1) := Lib.hid (by rw [W0.out]; rw [if_neg HJL.out, if_neg (by decide), if_neg HNR.out, if_pos rfl])
    go_enter Try.func34, Try.ntmps34
    go_wp2_with (first | (go_at_call 14; (with_reducible refine (C1.out _ R.out).mono ?_); rintro e v1 ⟨rfl, hb⟩; have R := Lib.hid (R.out.step hb); clear hb; obtain ⟨k0, k1, k2, k3, k4, k5, k6, k7, k8, k9⟩ := KC.out _ R.out) | (go_at_call 12; (with_reducible refine (C2.out _ R.out).mono ?_); rintro e v1 ⟨PA, pcp, rfl, hb⟩; have R := Lib.hid (R.out.step hb); clear hb; obtain ⟨k0, k1, k2, k3, k4, k5, k6, k7, k8, k9⟩ := KC.out _ R.out) | (go_at_call 56; (with_reducible refine (C3.out _ R.out).mono ?_); rintro e v1 ⟨rfl, hb⟩; have R := Lib.hid (R.out.step hb); clear hb; obtain ⟨k0, k1, k2, k3, k4, k5, k6, k7, k8, k9⟩ := KC.out _ R.out))
    go_ret
    rw [Z0.out]
    exact ⟨rfl, R.out.below⟩
  have C5 := Lib.hid (C4.out rfl)
  clear C4
  cases g2
  case true =>
    have Z0 : Hid (aloneF x i p = 5) := Lib.hid (by rw [W0.out]; rw [if_neg HJL.out, if_neg (by decide), if_neg HNR.out, if_neg (by decide), if_pos rfl])
    go_enter Try.func34, Try.ntmps34
    go_wp2_with (first | (go_at_call 14; (with_reducible refine (C1.out _ R.out).mono ?_); rintro e v1 ⟨rfl, hb⟩; have R := Lib.hid (R.out.step hb); clear hb; obtain ⟨k0, k1, k2, k3, k4, k5, k6, k7, k8, k9⟩ := KC.out _ R.out) | (go_at_call 12; (with_reducible refine (C2.out _ R.out).mono ?_); rintro e v1 ⟨PA, pcp, rfl, hb⟩; have R := Lib.hid (R.out.step hb); clear hb; obtain ⟨k0, k1, k2, k3, k4, k5, k6, k7, k8, k9⟩ := KC.out _ R.out) | (go_at_call 56; (with_reducible refine (C3.out _ R.out).mono ?_); rintro e v1 ⟨rfl, hb⟩; have R := Lib.hid (R.out.step hb); clear hb; obtain ⟨k0, k1, k2, k3, k4, k5, k6, k7, k8, k9⟩ := KC.out _ R.out) | (go_at_call 58; (with_reducible refine (C5.out _ R.out).mono ?_); rintro e v1 ⟨vo, vn, rfl, hb, hc⟩; have VS := Lib.hid hc; have R := Lib.hid (R.out.step hb); clear hb hc; obtain ⟨k0, k1, k2, k3, k4, k5, k6, k7, k8, k9⟩ := KC.out _ R.out) | (go_at_call 57; (with_reducible refine (VS.out).mono ?_); rintro e v1 ⟨rfl, hb⟩; have R := Lib.hid (R.out.step hb); clear hb; obtain ⟨k0, k1, k2, k3, k4, k5, k6, k7, k8, k9⟩ := KC.out _ R.out))
    go_ret
    rw [Z0.out]
    exact ⟨rfl, R.out.below⟩
  cases g3
  case false =>
    have Z0 : Hid (aloneF x i p = 6) := Lib.hid (by rw [W0.out]; rw [if_neg HJL.out, if_neg (by decide), if_neg HNR.out, if_neg (by decide), if_neg (by decide), if_neg (by decide)])
    go_enter Try.func34, Try.ntmps34
    go_wp2_with (first | (go_at_call 14; (with_reducible refine (C1.out _ R.out).mono ?_); rintro e v1 ⟨rfl, hb⟩; have R := Lib.hid (R.out.step hb); clear hb; obtain ⟨k0, k1, k2, k3, k4, k5, k6, k7, k8, k9⟩ := KC.out _ R.out) | (go_at_call 12; (with_reducible refine (C2.out _ R.out).mono ?_); rintro e v1 ⟨PA, pcp, rfl, hb⟩; have R := Lib.hid (R.out.step hb); clear hb; obtain ⟨k0, k1, k2, k3, k4, k5, k6, k7, k8, k9⟩ := KC.out _ R.out) | (go_at_call 56; (with_reducible refine (C3.out _ R.out).mono ?_); rintro e v1 ⟨rfl, hb⟩; have R := Lib.hid (R.out.step hb); clear hb; obtain ⟨k0, k1, k2, k3, k4, k5, k6, k7, k8, k9⟩ := KC.out _ R.out) | (go_at_call 58; (with_reducible refine (C5.out _ R.out).mono ?_); rintro e v1 ⟨vo, vn, rfl, hb, hc⟩; have VS := Lib.hid hc; have R := Lib.hid (R.out.step hb); clear hb hc; obtain ⟨k0, k1, k2, k3, k4, k5, k6, k7, k8, k9⟩ := KC.out _ R.out) | (go_at_call 57; (with_reducible refine (VS.out).mono ?_); rintro e v1 ⟨rfl, hb⟩; have R := Lib.hid (R.out.step hb); clear hb; obtain ⟨k0, k1, k2, k3, k4, k5, k6, k7, k8, k9⟩ := KC.out _ R.out) | (go_at_call 59; (with_reducible refine (C6.out _ R.out).mono ?_); rintro e v1 ⟨rfl, hb⟩; have R := Lib.hid (R.out.step hb); clear hb; obtain ⟨k0, k1, k2, k3, k4, k5, k6, k7, k8, k9⟩ := KC.out _ R.out))
    go_ret
    rw [Z0.out]
    exact ⟨rfl, R.out.below⟩
  cases g4
  case true =>
    have Z0 : Hid (aloneF x i p = 5) := Lib.hid (by rw [W0.out]; rw [if_neg HJL.out, if_neg (by decide), if_neg HNR.out, if_neg (by decide), if_neg (by decide), if_pos rfl, if_pos rfl])
    go_enter Try.func34, Try.ntmps34
    go_wp2_with (first | (go_at_call 14; (with_reducible refine (C1.out _ R.out).mono ?_); rintro e v1 ⟨rfl, hb⟩; have R := Lib.hid (R.out.step hb); clear hb; obtain ⟨k0, k1, k2, k3, k4, k5, k6, k7, k8, k9⟩ := KC.out _ R.out) | (go_at_call 12; (with_reducible refine (C2.out _ R.out).mono ?_); rintro e v1 ⟨PA, pcp, rfl, hb⟩; have R := Lib.hid (R.out.step hb); clear hb; obtain ⟨k0, k1, k2, k3, k4, k5, k6, k7, k8, k9⟩ := KC.out _ R.out) | (go_at_call 56; (with_reducible refine (C3.out _ R.out).mono ?_); rintro e v1 ⟨rfl, hb⟩; have R := Lib.hid (R.out.step hb); clear hb; obtain ⟨k0, k1, k2, k3, k4, k5, k6, k7, k8, k9⟩ := KC.out _ R.out) | (go_at_call 58; (with_reducible refine (C5.out _ R.out).mono ?_); rintro e v1 ⟨vo, vn, rfl, hb, hc⟩; have VS := Lib.hid hc; have R := Lib.hid (R.out.step hb); clear hb hc; obtain ⟨k0, k1, k2, k3, k4, k5, k6, k7, k8, k9⟩ := KC.out _ R.out) | (go_at_call 57; (with_reducible refine (VS.out).mono ?_); rintro e v1 ⟨rfl, hb⟩; have R := Lib.hid (R.out.step hb); clear hb; obtain ⟨k0, k1, k2, k3, k4, k5, k6, k7, k8, k9⟩ := KC.out _ R.out) | (go_at_call 59; (with_reducible refine (C6.out _ R.out).mono ?_); rintro e v1 ⟨rfl, hb⟩; have R := Lib.hid (R.out.step hb); clear hb; obtain ⟨k0, k1, k2, k3, k4, k5, k6, k7, k8, k9⟩ := KC.out _ R.out) | (go_at_call 57; (with_reducible refine (C7.out _ R.out).mono ?_); rintro e v1 ⟨rfl, hb⟩; have R := Lib.hid (R.out.step hb); clear hb; obtain ⟨k0, k1, k2, k3, k4, k5, k6, k7, k8, k9⟩ := KC.out _ R.out) | (go_at_call 57; (with_reducible refine (C8.out _ R.out).mono ?_); rintro e v1 ⟨rfl, hb⟩; have R := Lib.hid (R.out.step hb); clear hb; obtain ⟨k0, k1, k2, k3, k4, k5, k6, k7, k8, k9⟩ := KC.out _ R.out))
    go_ret
    rw [Z0.out]
    exact ⟨rfl, R.out.below⟩
  cases g5
  case true =>
    have Z0 : Hid (aloneF x i p = 5) := Lib.hid (by rw [W0.out]; rw [if_neg HJL.out, if_neg (by decide), if_neg HNR.out, if_neg (by decide), if_neg (by decide), if_pos rfl, if_neg (by decide), if_pos rfl])
    go_enter Try.func34, Try.ntmps34
    go_wp2_with (first | (go_at_call 14; (with_reducible refine (C1.out _ R.out).mono ?_); rintro e v1 ⟨rfl, hb⟩; have R := Lib.hid (R.out.step hb); clear hb; obtain ⟨k0, k1, k2, k3, k4, k5, k6, k7, k8, k9⟩ := KC.out _ R.out) | (go_at_call 12; (with_reducible refine (C2.out _ R.out).mono ?_); rintro e v1 ⟨PA, pcp, rfl, hb⟩; have R := Lib.hid (R.out.step hb); clear hb; obtain ⟨k0, k1, k2, k3, k4, k5, k6, k7, k8, k9⟩ := KC.out _ R.out) | (go_at_call 56; (with_reducible refine (C3.out _ R.out).mono ?_); rintro e v1 ⟨rfl, hb⟩; have R := Lib.hid (R.out.step hb); clear hb; obtain ⟨k0, k1, k2, k3, k4, k5, k6, k7, k8, k9⟩ := KC.out _ R.out) | (go_at_call 58; (with_reducible refine (C5.out _ R.out).mono ?_); rintro e v1 ⟨vo, vn, rfl, hb, hc⟩; have VS := Lib.hid hc; have R := Lib.hid (R.out.step hb); clear hb hc; obtain ⟨k0, k1, k2, k3, k4, k5, k6, k7, k8, k9⟩ := KC.out _ R.out) | (go_at_call 57; (with_reducible refine (VS.out).mono ?_); rintro e v1 ⟨rfl, hb⟩; have R := Lib.hid (R.out.step hb); clear hb; obtain ⟨k0, k1, k2, k3, k4, k5, k6, k7, k8, k9⟩ := KC.out _ R.out) | (go_at_call 59; (with_reducible refine (C6.out _ R.out).mono ?_); rintro e v1 ⟨rfl, hb⟩; have R := Lib.hid (R.out.step hb); clear hb; obtain ⟨k0, k1, k2, k3, k4, k5, k6, k7, k8, k9⟩ := KC.out _ R.out) | (go_at_call 57; (with_reducible refine (C7.out _ R.out).mono ?_); rintro e v1 ⟨rfl, hb⟩; have R := Lib.hid (R.out.step hb); clear hb; obtain ⟨k0, k1, k2, k3, k4, k5, k6, k7, k8, k9⟩ := KC.out _ R.out) | (go_at_call 57; (with_reducible refine (C8.out _ R.out).mono ?_); rintro e v1 ⟨rfl, hb⟩; have R := Lib.hid (R.out.step hb); clear hb; obtain ⟨k0, k1, k2, k3, k4, k5, k6, k7, k8, k9⟩ := KC.out _ R.out))
    go_ret
    rw [Z0.out]
    exact ⟨rfl, R.out.below⟩
  case false =>
    have Z0 : Hid (aloneF x i p = 0) := Lib.hid (by rw [W0.out]; rw [if_neg HJL.out, if_neg (by decide), if_neg HNR.out, if_neg (by decide), if_neg (by decide), if_pos rfl, if_neg (by decide), if_neg (by decide)])
    go_enter Try.func34, Try.ntmps34
    go_wp2_with (first | (go_at_call 14; (with_reducible refine (C1.out _ R.out).mono ?_); rintro e v1 ⟨rfl, hb⟩; have R := Lib.hid (R.out.step hb); clear hb; obtain ⟨k0, k1, k2, k3, k4, k5, k6, k7, k8, k9⟩ := KC.out _ R.out) | (go_at_call 12; (with_reducible refine (C2.out _ R.out).mono ?_); rintro e v1 ⟨PA, pcp, rfl, hb⟩; have R := Lib.hid (R.out.step hb); clear hb; obtain ⟨k0, k1, k2, k3, k4, k5, k6, k7, k8, k9⟩ := KC.out _ R.out) | (go_at_call 56; (with_reducible refine (C3.out _ R.out).mono ?_); rintro e v1 ⟨rfl, hb⟩; have R := Lib.hid (R.out.step hb); clear hb; obtain ⟨k0, k1, k2, k3, k4, k5, k6, k7, k8, k9⟩ := KC.out _ R.out) | (go_at_call 58; (with_reducible refine (C5.out _ R.out).mono ?_); rintro e v1 ⟨vo, vn, rfl, hb, hc⟩; have VS := Lib.hid hc; have R := Lib.hid (R.out.step hb); clear hb hc; obtain ⟨k0, k1, k2, k3, k4, k5, k6, k7, k8, k9⟩ := KC.out _ R.out) | (go_at_call 57; (with_reducible refine (VS.out).mono ?_); rintro e v1 ⟨rfl, hb⟩; have R := Lib.hid (R.out.step hb); clear hb; obtain ⟨k0, k1, k2, k3, k4, k5, k6, k7, k8, k9⟩ := KC.out _ R.out) | (go_at_call 59; (with_reducible refine (C6.out _ R.out).mono ?_); rintro e v1 ⟨rfl, hb⟩; have R := Lib.hid (R.out.step hb); clear hb; obtain ⟨k0, k1, k2, k3, k4, k5, k6, k7, k8, k9⟩ := KC.out _ R.out) | (go_at_call 57; (with_reducible refine (C7.out _ R.out).mono ?_); rintro e v1 ⟨rfl, hb⟩; have R := Lib.hid (R.out.step hb); clear hb; obtain ⟨k0, k1, k2, k3, k4, k5, k6, k7, k8, k9⟩ := KC.out _ R.out) | (go_at_call 57; (with_reducible refine (C8.out _ R.out).mono ?_); rintro e v1 ⟨rfl, hb⟩; have R := Lib.hid (R.out.step hb); clear hb; obtain ⟨k0, k1, k2, k3, k4, k5, k6, k7, k8, k9⟩ := KC.out _ R.out))
    go_ret
    rw [Z0.out]
    exact ⟨rfl, R.out.below⟩

end Go.Proofs.Ytccmgaibikiedaa.Dc
