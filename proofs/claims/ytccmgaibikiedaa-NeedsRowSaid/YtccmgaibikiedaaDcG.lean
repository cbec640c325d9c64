/- Recipes as arguments: which recipes are more than is gone through. -/
import Derived.Test.YtccmgaibikiedaaDcF
namespace Go.Proofs.Ytccmgaibikiedaa.Dc
open Go.RowKit
set_option linter.unusedVariables false
set_option linter.unusedSimpArgs false
/-- a package at a place: its cells, and what they say. -/
structure PkAt (w : World) (B : Nat) (A : Option Addr) (i : Nat) (p : Pk) (b o : Nat) (vs : List Value) : Prop where
  addr : A = some ⟨b, o, none⟩
  lt : b < B
  dec : pkD w B vs p
theorem pk_at {w : World} {B : Nat} {A : Option Addr} {n c i : Nat} {l : List Pk} (h : Sl Pk 8 pkD w B A n c l) (hi : i < n) : ∃ p b o Ar nr cr Av nv cv Ap np cp Ad nd cd Ac nc cc Af nf cf, l[i]? = some p ∧ A = some ⟨b, o, none⟩ ∧ b < B ∧
    w.cell? ⟨b, o + i * 8, none⟩ = some (.string p.name) ∧ w.cell? ⟨b, o + i * 8 + 1, none⟩ = some (.int .i64 p.line) ∧ w.cell? ⟨b, o + i * 8 + 2, none⟩ = some (.slice Ar nr cr) ∧ w.cell? ⟨b, o + i * 8 + 3, none⟩ = some (.slice Av nv cv) ∧ w.cell? ⟨b, o + i * 8 + 4, none⟩ = some (.slice Ap np cp) ∧
    w.cell? ⟨b, o + i * 8 + 5, none⟩ = some (.slice Ad nd cd) ∧ w.cell? ⟨b, o + i * 8 + 6, none⟩ = some (.slice Ac nc cc) ∧ w.cell? ⟨b, o + i * 8 + 7, none⟩ = some (.slice Af nf cf) ∧
    PkC w B p Ar nr cr Av nv cv Ap np cp Ad nd cd Ac nc cc Af nf cf ∧ pkD w B [.string p.name, .int .i64 p.line, .slice Ar nr cr, .slice Av nv cv, .slice Ap np cp, .slice Ad nd cd, .slice Ac nc cc, .slice Af nf cf] p := by
  obtain ⟨y, b, o, vs, h1, h2, h3, h4, h5, h6⟩ := h.at hi
  obtain ⟨Ar, nr, cr, Av, nv, cv, Ap, np, cp, Ad, nd, cd, Ac, nc, cc, Af, nf, cf, rfl, hc⟩ := pk_cells h6
  exact ⟨y, b, o, Ar, nr, cr, Av, nv, cv, Ap, np, cp, Ad, nd, cd, Ac, nc, cc, Af, nf, cf, h1, h2, h3, h5 0 (by decide), h5 1 (by decide), h5 2 (by decide), h5 3 (by decide), h5 4 (by decide), h5 5 (by decide), h5 6 (by decide), h5 7 (by decide), hc, h6⟩
def gPf (f : Pf) : Bool := gText f.virt || gTexts f.names
def gRc (x : Rc) : Bool := decide (30 < x.packs.length) || decide (20 < x.prefs.length) || (x.packs.any gPk || x.prefs.any gPf)
set_option maxHeartbeats 8000000 in
set_option maxRecDepth 100000 in
theorem great_any {w : World} {B : Nat} {x : Rc} {cs : List Value} (h : rcD w B cs x) (hB : B ≤ w.heap.size) : Calls Try.prog 8 #[.agg cs.toArray] w fun e w' => e = .returned (.bool (gRc x)) ∧ Below w.heap.size w w' := by
  obtain ⟨A1, n1, c1, A2, n2, c2, rfl, s1, s2⟩ := rc_cells h
  obtain ⟨packs, prefs⟩ := x
  simp only [] at s1 s2 ⊢
  have bb : Below B w (w.alloc (.cells #[.slice A1 n1 c1, .slice A2 n2 c2] 25)) := (Below.refl B w).alloc hB _
  have BB : Hid (B ≤ (w.alloc (.cells #[.slice A1 n1 c1, .slice A2 n2 c2] 25)).heap.size) := Lib.hid (Nat.le_trans hB bb.size)
  have S1 := Lib.hid (s1.below pk_stays (Nat.le_refl B) bb)
  have S2 := Lib.hid (s2.below pf_stays (Nat.le_refl B) bb)
  have B0 : Hid (Below w.heap.size w (w.alloc (.cells #[.slice A1 n1 c1, .slice A2 n2 c2] 25))) := Lib.hid ((Below.refl _ _).alloc (Nat.le_refl _) _)
  have LT : Hid (w.heap.size < (w.alloc (.cells #[.slice A1 n1 c1, .slice A2 n2 c2] 25)).heap.size) := Lib.hid (by simp)
  have k0 : (w.alloc (.cells #[.slice A1 n1 c1, .slice A2 n2 c2] 25)).cell? ⟨w.heap.size, 0, none⟩ = some (.slice A1 n1 c1) := blk_cell (heap_alloc_new w _) rfl
  have k1 : (w.alloc (.cells #[.slice A1 n1 c1, .slice A2 n2 c2] 25)).cell? ⟨w.heap.size, 1, none⟩ = some (.slice A2 n2 c2) := blk_cell (heap_alloc_new w _) rfl
  have m1 := s1.le
  have m2 := s2.le
  have N1 := Lib.hid s1.len
  have N2 := Lib.hid s2.len
  clear h s1 s2 bb hB
  show Calls Try.prog _ #[.agg #[.slice A1 n1 c1, .slice A2 n2 c2]] w _
  by_cases h1 : 30 < (n1 : Int)
  · have R : Hid (gRc ⟨packs, prefs⟩ = true) := Lib.hid (by unfold gRc; rw [decide_eq_true (p := 30 < packs.length) (by rw [← N1.out]; omega)]; simp only [Bool.true_or, Bool.or_true])
    go_enter Try.func8, Try.ntmps8
    go_wp2_with fail
    go_ret
    rw [R.out]
    exact ⟨rfl, B0.out⟩
  by_cases h2 : 20 < (n2 : Int)
  · have R : Hid (gRc ⟨packs, prefs⟩ = true) := Lib.hid (by unfold gRc; rw [decide_eq_true (p := 20 < prefs.length) (by rw [← N2.out]; omega)]; simp only [Bool.true_or, Bool.or_true])
    go_enter Try.func8, Try.ntmps8
    go_wp2_with fail
    go_ret
    rw [R.out]
    exact ⟨rfl, B0.out⟩
  have R3 : Hid (gRc ⟨packs, prefs⟩ = (packs.any gPk || prefs.any gPf)) := Lib.hid (by
    unfold gRc
    rw [decide_eq_false (p := 30 < packs.length) (by rw [← N1.out]; omega), decide_eq_false (p := 20 < prefs.length) (by rw [← N2.out]; omega)]
    rfl)
  go_enter Try.func8, Try.ntmps8
  go_wp2_with fail
  go_loopw [3, 18] (fun _ v wq => ∃ i : Nat, v = .int .i64 i ∧ i ≤ n1 ∧ (packs.take i).any gPk = false ∧ Below (w.alloc (.cells #[.slice A1 n1 c1, .slice A2 n2 c2] 25)).heap.size (w.alloc (.cells #[.slice A1 n1 c1, .slice A2 n2 c2] 25)) wq) (fun _ v _ => n1 - (intOf v).toNat)
  case atStart => exact ⟨0, rfl, Nat.zero_le _, rfl, Below.refl _ _⟩
  case round =>
    obtain ⟨i, rfl, hi, hp, hbw⟩ := hrel
    have HP := Lib.hid hp
    have BW := Lib.hid hbw
    have j0 := (hbw.cell (p := ⟨w.heap.size, 0, none⟩) LT.out).trans k0
    have j1 := (hbw.cell (p := ⟨w.heap.size, 1, none⟩) LT.out).trans k1
    have BE : Hid (Below w.heap.size w wr) := Lib.hid (B0.out.trans (hbw.mono (Nat.le_of_lt LT.out)))
    have SW := Lib.hid (S1.out.below pk_stays (Nat.le_refl B) (hbw.mono BB.out))
    have SV := Lib.hid (S2.out.below pf_stays (Nat.le_refl B) (hbw.mono BB.out))
    have BQ : Hid (B ≤ wr.heap.size) := Lib.hid (Nat.le_trans BB.out hbw.size)
    clear hbw hp
    by_cases hlt : i < n1
    · have hlt' : (i : Int) < (n1 : Int) := by omega
      obtain ⟨p, b, o, Ar, nr, cr, Av, nv, cv, Ap, np, cp, Ad, nd, cd, Ac, nc, cc, Af, nf, cf, t1, rfl, t3, x0, x1, x2, x3, x4, x5, x6, x7, -, d1⟩ := pk_at SW.out hlt
      have T1 := Lib.hid t1
      obtain ⟨g1, hg1⟩ : ∃ g, g = gPk p := ⟨_, rfl⟩
      obtain ⟨y1, hy1⟩ : ∃ y, y = p.name := ⟨_, rfl⟩
      obtain ⟨y2, hy2⟩ : ∃ y, y = p.line := ⟨_, rfl⟩
      have G1 := Lib.hid hg1.symm
      have C1 := Lib.hid (greatPackage_any d1 BQ.out)
      rw [← hg1, ← hy1, ← hy2] at C1
      rw [← hy1] at x0
      rw [← hy2] at x1
      clear t1 d1 hg1 hy1 hy2
      cases g1
      case true =>
        have R2 : Hid (gRc ⟨packs, prefs⟩ = true) := Lib.hid (by rw [R3.out, any_hit T1.out G1.out]; rfl)
        go_wp2_with (go_at_call 31; (with_reducible refine C1.out.mono ?_); rintro e w1 ⟨rfl, hb1⟩; have BZ := Lib.hid (BE.out.trans (hb1.mono BE.out.size)); clear hb1)
        go_ret
        rw [R2.out]
        exact ⟨rfl, BZ.out⟩
      have HP2 : Hid ((packs.take (i + 1)).any gPk = false) := Lib.hid (any_next T1.out HP.out G1.out)
      go_wp2_with (go_at_call 31; (with_reducible refine C1.out.mono ?_); rintro e w1 ⟨rfl, hb1⟩; have BZ := Lib.hid (BW.out.trans (hb1.mono BW.out.size)); clear hb1)
      go_roundw
      case rel => exact ⟨i + 1, by go_num, by omega, HP2.out, BZ.out⟩
      case measure => simp [intOf]; omega
    · have R4 : Hid (gRc ⟨packs, prefs⟩ = prefs.any gPf) := Lib.hid (by
        have h := HP.out
        rw [take_all (by have := N1.out; omega)] at h
        rw [R3.out, h]; rfl)
      clear HP R3 k0 k1 j0 SW S1 S2
      obtain ⟨w1, hw1⟩ : ∃ w1, w1 = wr := ⟨wr, rfl⟩
      subst hw1
      go_wp2_with fail
      go_loopw [4, 31] (fun _ v wq => ∃ k : Nat, v = .int .i64 k ∧ k ≤ n2 ∧ (prefs.take k).any gPf = false ∧ w1 = wq) (fun _ v _ => n2 - (intOf v).toNat)
      case atStart => exact ⟨0, rfl, Nat.zero_le _, rfl, by first | rfl | trivial⟩
      case round =>
        obtain ⟨k, rfl, hk, hp, hwq⟩ := hrel
        obtain rfl : w1 = wr := by first | exact hwq | rfl
        have HP := Lib.hid hp
        clear hp
        by_cases hlt2 : k < n2
        · have hlt2' : (k : Int) < (n2 : Int) := by omega
          obtain ⟨f, b, o, A', n', c', t1, rfl, t3, x0, x1, -, s5, st⟩ := pf_at SV.out hlt2
          have T1 := Lib.hid t1
          have ST := Lib.hid st
          obtain ⟨s, hs0⟩ : ∃ s, s = f.virt := ⟨_, rfl⟩
          have GV : Hid (gPf f = (gText s || gTexts f.names)) := Lib.hid (by rw [hs0]; rfl)
          rw [← hs0] at x0 s5
          clear t1 st hs0
          unfold maxLen at s5
          by_cases hs : 100 < (s.size : Int)
          · have R2 : Hid (gRc ⟨packs, prefs⟩ = true) := Lib.hid (by rw [R4.out, any_hit T1.out (by rw [GV.out]; unfold gText; rw [decide_eq_true (by omega)]; rfl)])
            go_wp2_with fail
            go_ret
            rw [R2.out]
            exact ⟨rfl, BE.out⟩
          · obtain ⟨gt, hgt⟩ : ∃ g, g = gTexts f.names := ⟨_, rfl⟩
            have CT := Lib.hid (greatTexts_any ST.out)
            rw [← hgt] at CT
            have VT : Hid (gPf f = gt) := Lib.hid (by rw [GV.out, hgt]; unfold gText; rw [decide_eq_false (by omega)]; rfl)
            clear hgt
            cases gt
            case true =>
              have R2 : Hid (gRc ⟨packs, prefs⟩ = true) := Lib.hid (by rw [R4.out, any_hit T1.out VT.out])
              go_wp2_with (go_at_call 32; refine CT.out.mono ?_; rintro e w1 ⟨rfl, rfl⟩)
              go_ret
              rw [R2.out]
              exact ⟨rfl, BE.out⟩
            have HP2 : Hid ((prefs.take (k + 1)).any gPf = false) := Lib.hid (any_next T1.out HP.out VT.out)
            go_wp2_with (go_at_call 32; refine CT.out.mono ?_; rintro e w1 ⟨rfl, rfl⟩)
            go_roundw
            case rel => exact ⟨k + 1, by go_num, by omega, HP2.out, by first | rfl | trivial⟩
            case measure => simp [intOf]; omega
        · have R5 : Hid (gRc ⟨packs, prefs⟩ = false) := Lib.hid (by
            have h := HP.out
            rw [take_all (by have := N2.out; omega)] at h
            rw [R4.out, h])
          go_wp2_with fail
          go_ret
          rw [R5.out]
          exact ⟨rfl, BE.out⟩

end Go.Proofs.Ytccmgaibikiedaa.Dc
