/- Recipes: the first problem. -/
import Derived.Test.YtccmgaibikiedaaDeF
namespace Go.Proofs.Ytccmgaibikiedaa.Dc
open Go.RowKit
set_option linter.unusedVariables false
set_option linter.unusedSimpArgs false
def packF (x : Rc) (i : Nat) : Nat × Int := ((x.packs[i]?).map fun p => (aloneF x i p, p.line)).getD (0, 0)
def relsF (x : Rc) (i : Nat) : Nat × Int := ((x.packs[i]?).map fun p => relF x p).getD (0, 0)
def prefF (x : Rc) (i : Nat) : Nat × Int := ((x.prefs[i]?).map fun f => (if preferB x i f = true then 0 else 10, f.line)).getD (0, 0)
def recF (x : Rc) : Nat × Int := if (countsF x).1 ≠ 0 then countsF x else if (firstN (packF x) x.packs.length).1 ≠ 0 then firstN (packF x) x.packs.length
  else if (firstN (relsF x) x.packs.length).1 ≠ 0 then firstN (relsF x) x.packs.length else firstN (prefF x) x.prefs.length
theorem Two.ends {w W : World} {c0 : Array Value} {t0 : TypeId} {z : Nat} {l : Int} (h : Two w c0 #[.int .u8 0, .int .i64 0] t0 29 W) :
    ((W.setCell ⟨w.heap.size + 1, 0, none⟩ (.int .u8 z)).setCell ⟨w.heap.size + 1, 1, none⟩ (.int .i64 l)).heap[w.heap.size + 1]? = some (.cells #[.int .u8 z, .int .i64 l] 29 (0, 0)) ∧
    Below w.heap.size w ((W.setCell ⟨w.heap.size + 1, 0, none⟩ (.int .u8 z)).setCell ⟨w.heap.size + 1, 1, none⟩ (.int .i64 l)) :=
  ⟨blk_set 1 _ (blk_set 0 _ h.b1), (h.below.setCell (p := ⟨w.heap.size + 1, 0, none⟩) (Nat.le_succ _) _).setCell (p := ⟨w.heap.size + 1, 1, none⟩) (Nat.le_succ _) _⟩
/-- two boxes and a third one of a round. -/
structure Tri (w wr : World) (c0 c1 : Array Value) (t0 t1 : TypeId) (c2 : Array Value) (t2 : TypeId) (W : World) : Prop where
  two : Two w c0 c1 t0 t1 W
  b2 : W.heap[wr.heap.size]? = some (.cells c2 t2 (0, 0))
theorem Tri.start {w wr : World} {c0 c1 : Array Value} {t0 t1 : TypeId} (h : Two w c0 c1 t0 t1 wr) (c2 : Array Value) (t2 : TypeId) : Tri w wr c0 c1 t0 t1 c2 t2 (wr.alloc (.cells c2 t2)) :=
  ⟨h.step ((Below.refl _ _).alloc (Nat.le_refl _) _), heap_alloc_new wr _⟩
theorem Tri.step {w wr W W' : World} {c0 c1 c2 : Array Value} {t0 t1 t2 : TypeId} (h : Tri w wr c0 c1 t0 t1 c2 t2 W) (hb : Below W.heap.size W W') : Tri w wr c0 c1 t0 t1 c2 t2 W' :=
  ⟨h.two.step hb, (hb.block _ (lt_of_block h.b2)).trans h.b2⟩
theorem pos_of {α : Type} {l : List α} {i : Nat} {y : α} (h : l[i]? = some y) : i < l.length := by
  rcases Nat.lt_or_ge i l.length with h' | h'
  · exact h'
  · rw [List.getElem?_eq_none h'] at h; cases h
set_option maxHeartbeats 8000000 in
set_option maxRecDepth 100000 in
theorem recipe_any {w : World} {B : Nat} {x : Rc} {cs : List Value} (h : rcD w B cs x) (hB : B ≤ w.heap.size) (hl : x.packs.length ≤ 1000) :
    Calls Try.prog 10 #[.agg cs.toArray] w fun e w' => e = .returned (probV (recF x).1 (recF x).2) ∧ Below w.heap.size w w' := by
  obtain ⟨A1, n1, c1, A2, n2, c2, hcs, s1, s2⟩ := rc_cells h
  have n5 := s1.le
  have n6 := s2.le
  have R := Lib.hid (Two.start w #[.slice A1 n1 c1, .slice A2 n2 c2] #[.int .u8 0, .int .i64 0] 25 29)
  have KC : Hid (∀ W, Two w #[.slice A1 n1 c1, .slice A2 n2 c2] #[.int .u8 0, .int .i64 0] 25 29 W → W.cell? ⟨w.heap.size, 0, none⟩ = some (.slice A1 n1 c1) ∧ W.cell? ⟨w.heap.size, 1, none⟩ = some (.slice A2 n2 c2) ∧ W.cell? ⟨w.heap.size + 1, 0, none⟩ = some (.int .u8 0) ∧ W.cell? ⟨w.heap.size + 1, 1, none⟩ = some (.int .i64 0) ∧ W.frozen? ⟨w.heap.size + 1, 0, none⟩ = false ∧ W.frozen? ⟨w.heap.size + 1, 1, none⟩ = false) := Lib.hid (fun W hR => ⟨blk_cell (j := 0) hR.b0 rfl, blk_cell (j := 1) hR.b0 rfl, blk_cell (j := 0) hR.b1 rfl, blk_cell (j := 1) hR.b1 rfl, blk_free 0 hR.b1, blk_free 1 hR.b1⟩)
  have DR : Hid (∀ W, Two w #[.slice A1 n1 c1, .slice A2 n2 c2] #[.int .u8 0, .int .i64 0] 25 29 W → rcD W B [.slice A1 n1 c1, .slice A2 n2 c2] x ∧ B ≤ W.heap.size) := Lib.hid (fun W hR => by
    have h3 := rc_stays _ _ _ _ _ _ h (Nat.le_refl B) (hR.below.mono hB)
    rw [hcs] at h3
    exact ⟨h3, Nat.le_trans hB hR.below.size⟩)
  have SP : Hid (∀ W, Two w #[.slice A1 n1 c1, .slice A2 n2 c2] #[.int .u8 0, .int .i64 0] 25 29 W → Sl Pk 8 pkD W B A1 n1 c1 x.packs ∧ Sl Pf 3 pfD W B A2 n2 c2 x.prefs) := Lib.hid (fun W hR => ⟨s1.below pk_stays (Nat.le_refl B) (hR.below.mono hB), s2.below pf_stays (Nat.le_refl B) (hR.below.mono hB)⟩)
  have HN := Lib.hid (And.intro s1.len s2.len)
  have W0 : Hid (recF x = if (countsF x).1 ≠ 0 then countsF x else if (firstN (packF x) n1).1 ≠ 0 then firstN (packF x) n1
    else if (firstN (relsF x) n1).1 ≠ 0 then firstN (relsF x) n1 else firstN (prefF x) n2) := Lib.hid (by rw [HN.out.1, HN.out.2]; rfl)
  have CP : Hid (∀ (i : Nat) (p : Pk), x.packs[i]? = some p → ∀ W, Two w #[.slice A1 n1 c1, .slice A2 n2 c2] #[.int .u8 0, .int .i64 0] 25 29 W → Calls Try.prog 34 #[.agg #[.slice A1 n1 c1, .slice A2 n2 c2], .int .i64 i] W fun e w' => e = .returned (.int .u8 (aloneF x i p)) ∧ Below W.heap.size W w') := Lib.hid (fun i p hp W hR => packageCode_any (DR.out W hR).1 (DR.out W hR).2 hl hp)
  have CR : Hid (∀ (p : Pk) (ps : List Value) (W : World), Two w #[.slice A1 n1 c1, .slice A2 n2 c2] #[.int .u8 0, .int .i64 0] 25 29 W → pkD W B ps p → Calls Try.prog 35 #[.agg #[.slice A1 n1 c1, .slice A2 n2 c2], .agg ps.toArray] W fun e w' => e = .returned (probV (relF x p).1 (relF x p).2) ∧ Below W.heap.size W w') := Lib.hid (fun p ps W hR hp => relations_any (DR.out W hR).1 hp (DR.out W hR).2 hl)
  have CQ : Hid (∀ (i : Nat) (f : Pf), x.prefs[i]? = some f → ∀ W, Two w #[.slice A1 n1 c1, .slice A2 n2 c2] #[.int .u8 0, .int .i64 0] 25 29 W → Calls Try.prog 36 #[.agg #[.slice A1 n1 c1, .slice A2 n2 c2], .int .i64 i] W fun e w' => e = .returned (.bool (preferB x i f)) ∧ Below W.heap.size W w') := Lib.hid (fun i f hp W hR => rightPrefer_any (DR.out W hR).1 (DR.out W hR).2 hl hp)
  obtain ⟨cz, hcz⟩ : ∃ z : Nat, z = (countsF x).1 := ⟨_, rfl⟩
  obtain ⟨cl, hcl⟩ : ∃ z : Int, z = (countsF x).2 := ⟨_, rfl⟩
  have CC : Hid (∀ W, Two w #[.slice A1 n1 c1, .slice A2 n2 c2] #[.int .u8 0, .int .i64 0] 25 29 W → Calls Try.prog 33 #[.agg #[.slice A1 n1 c1, .slice A2 n2 c2]] W fun e w' => e = .returned (probV cz cl) ∧ Below W.heap.size W w') := Lib.hid (fun W hR => by
    rw [hcz, hcl]; exact counts_any (DR.out W hR).1 (DR.out W hR).2)
  have CV : Hid (countsF x = (cz, cl)) := Lib.hid (by rw [hcz, hcl])
  clear hcz hcl
  rw [hcs]
  clear h s1 s2 hcs hB hl
  obtain ⟨k0, k1, g0, g1, g2, g3⟩ := KC.out _ R.out
  show Calls Try.prog _ #[.agg #[.slice A1 n1 c1, .slice A2 n2 c2]] w _
  by_cases hcz : cz = 0
  · subst hcz
    have FC : Hid ((countsF x).1 = 0) := Lib.hid (by rw [CV.out])
    go_enter Try.func10, Try.ntmps10
    go_wp2_with (go_at_call 33; (with_reducible refine (CC.out _ R.out).mono ?_); rintro e v1 ⟨rfl, hb⟩; have e1 := heap_alloc_new v1 (.cells #[.int .u8 0, .int .i64 cl] 29); have i0 := blk_cell (j := 0) e1 rfl; have i1 := blk_cell (j := 1) e1 rfl; have R := Lib.hid ((R.out.step hb).step ((Below.refl _ _).alloc (Nat.le_refl _) (.cells #[.int .u8 0, .int .i64 cl] 29))); clear hb e1; obtain ⟨k0, k1, g0, g1, g2, g3⟩ := KC.out _ R.out)
    clear k0 k1 g0 g1 g2 g3 i0 i1
    go_loopw [4, 5, 6, 21] (fun _ _ _ v wq => ∃ i : Nat, v = .int .i64 i ∧ i ≤ n1 ∧ Two w #[.slice A1 n1 c1, .slice A2 n2 c2] #[.int .u8 0, .int .i64 0] 25 29 wq ∧ ∀ j, j < i → (packF x j).1 = 0) (fun _ _ _ v _ => n1 - (intOf v).toNat)
    case atStart => exact ⟨0, rfl, Nat.zero_le _, R.out, fun j hj => absurd hj (Nat.not_lt_zero _)⟩
    case round =>
      obtain ⟨i, rfl, hi, hr, hall⟩ := hrel
      have R := Lib.hid hr
      have HALL := Lib.hid hall
      clear hr hall
      by_cases hlt : i < n1
      · have hlt' : (i : Int) < (n1 : Int) := by omega
        obtain ⟨p, b, o, Ar, nr, cr, Av, nv, cv, Ap, np, cp, Ad, nd, cd, Ac, nc, cc, Af, nf, cf, t1, hA, t3, x0, x1, x2, x3, x4, x5, x6, x7, pc, d1⟩ := pk_at (SP.out _ R.out).1 hlt
        obtain ⟨nm, hnm⟩ : ∃ y, y = p.name := ⟨_, rfl⟩
        obtain ⟨ln, hln⟩ : ∃ y, y = p.line := ⟨_, rfl⟩
        rw [← hnm] at x0
        rw [← hln] at x1
        obtain ⟨z, hz⟩ : ∃ z : Nat, z = aloneF x i p := ⟨_, rfl⟩
        have FV : Hid (packF x i = (z, ln)) := Lib.hid (by unfold packF; rw [t1, hz, hln]; rfl)
        have CP1 := Lib.hid (CP.out i p t1)
        rw [← hz] at CP1
        subst hA
        clear t1 t3 pc d1 hnm hln hz
        have R := Lib.hid (Tri.start R.out #[.string nm, .int .i64 ln, .slice Ar nr cr, .slice Av nv cv, .slice Ap np cp, .slice Ad nd cd, .slice Ac nc cc, .slice Af nf cf] 45)
        have KP : Hid (∀ W, Tri w wr #[.slice (some ⟨b, o, none⟩) n1 c1, .slice A2 n2 c2] #[.int .u8 0, .int .i64 0] 25 29 #[.string nm, .int .i64 ln, .slice Ar nr cr, .slice Av nv cv, .slice Ap np cp, .slice Ad nd cd, .slice Ac nc cc, .slice Af nf cf] 45 W → W.cell? ⟨w.heap.size, 0, none⟩ = some (.slice (some ⟨b, o, none⟩) n1 c1) ∧ W.cell? ⟨w.heap.size, 1, none⟩ = some (.slice A2 n2 c2) ∧ W.cell? ⟨w.heap.size + 1, 0, none⟩ = some (.int .u8 0) ∧ W.cell? ⟨w.heap.size + 1, 1, none⟩ = some (.int .i64 0) ∧ W.frozen? ⟨w.heap.size + 1, 0, none⟩ = false ∧ W.frozen? ⟨w.heap.size + 1, 1, none⟩ = false ∧ W.cell? ⟨wr.heap.size, 0, none⟩ = some (.string nm) ∧ W.cell? ⟨wr.heap.size, 1, none⟩ = some (.int .i64 ln) ∧ W.cell? ⟨wr.heap.size, 2, none⟩ = some (.slice Ar nr cr) ∧ W.cell? ⟨wr.heap.size, 3, none⟩ = some (.slice Av nv cv) ∧ W.cell? ⟨wr.heap.size, 4, none⟩ = some (.slice Ap np cp) ∧ W.cell? ⟨wr.heap.size, 5, none⟩ = some (.slice Ad nd cd) ∧ W.cell? ⟨wr.heap.size, 6, none⟩ = some (.slice Ac nc cc) ∧ W.cell? ⟨wr.heap.size, 7, none⟩ = some (.slice Af nf cf)) := Lib.hid (fun W hR => ⟨blk_cell (j := 0) hR.two.b0 rfl, blk_cell (j := 1) hR.two.b0 rfl, blk_cell (j := 0) hR.two.b1 rfl, blk_cell (j := 1) hR.two.b1 rfl, blk_free 0 hR.two.b1, blk_free 1 hR.two.b1, blk_cell (j := 0) hR.b2 rfl, blk_cell (j := 1) hR.b2 rfl, blk_cell (j := 2) hR.b2 rfl, blk_cell (j := 3) hR.b2 rfl, blk_cell (j := 4) hR.b2 rfl, blk_cell (j := 5) hR.b2 rfl, blk_cell (j := 6) hR.b2 rfl, blk_cell (j := 7) hR.b2 rfl⟩)
        obtain ⟨k0, k1, g0, g1, g2, g3, m0, m1, m2, m3, m4, m5, m6, m7⟩ := KP.out _ R.out
        by_cases hz : z = 0
        · subst hz
          have NX : Hid (∀ j, j < i + 1 → (packF x j).1 = 0) := Lib.hid (step_all HALL.out (by rw [FV.out]))
          go_wp2_with (go_at_call 34; (with_reducible refine (CP1.out _ R.out.two).mono ?_); rintro e v1 ⟨rfl, hb⟩; have R := Lib.hid (R.out.step hb); clear hb; obtain ⟨k0, k1, g0, g1, g2, g3, m0, m1, m2, m3, m4, m5, m6, m7⟩ := KP.out _ R.out)
          go_roundw
          case rel => exact ⟨i + 1, by go_num, by omega, R.out.two, NX.out⟩
          case measure => simp [intOf]; omega
        · have q1 := nz_eq hz
          have q2 := nz_ne hz
          have Z0 : Hid (recF x = (z, ln)) := Lib.hid (by
            have e := firstN_hit hlt HALL.out (by rw [FV.out]; exact hz)
            rw [FV.out] at e
            rw [W0.out, if_neg (by rw [FC.out]; decide), e, if_pos hz])
          have HH := Lib.hid hz
          clear hz
          go_wp2_with (go_at_call 34; (with_reducible refine (CP1.out _ R.out.two).mono ?_); rintro e v1 ⟨rfl, hb⟩; have R := Lib.hid (R.out.step hb); clear hb; obtain ⟨k0, k1, g0, g1, g2, g3, m0, m1, m2, m3, m4, m5, m6, m7⟩ := KP.out _ R.out)
          rw [Z0.out]
          exact bodyPost_ret (results_cell_row rfl _ _ (w.heap.size + 1) 29 _ (0, 0) _ rfl R.out.two.ends.1 Try.underlying29 rfl (by kernel_rfl)) rfl ⟨rfl, R.out.two.ends.2⟩
      · have FP : Hid ((firstN (packF x) n1).1 = 0) := Lib.hid (by
          obtain rfl : i = n1 := by omega
          rw [firstN_none HALL.out])
        obtain ⟨k0, k1, g0, g1, g2, g3⟩ := KC.out _ R.out
        clear HALL
        go_wp2_with fail
        clear k0 k1 g0 g1 g2 g3
        obtain ⟨wo, hwo⟩ : ∃ wo, wo = wr := ⟨_, rfl⟩
        go_loopw [8, 9, 39] (fun _ _ v wq => ∃ i : Nat, v = .int .i64 i ∧ i ≤ n1 ∧ Two w #[.slice A1 n1 c1, .slice A2 n2 c2] #[.int .u8 0, .int .i64 0] 25 29 wq ∧ ∀ j, j < i → (relsF x j).1 = 0) (fun _ _ v _ => n1 - (intOf v).toNat)
        case atStart => exact ⟨0, rfl, Nat.zero_le _, R.out, fun j hj => absurd hj (Nat.not_lt_zero _)⟩
        case round =>
          obtain ⟨i, rfl, hi, hr, hall⟩ := hrel
          have R := Lib.hid hr
          have HALL := Lib.hid hall
          clear hr hall
          by_cases hlt : i < n1
          · have hlt' : (i : Int) < (n1 : Int) := by omega
            obtain ⟨p, b, o, Ar, nr, cr, Av, nv, cv, Ap, np, cp, Ad, nd, cd, Ac, nc, cc, Af, nf, cf, t1, hA, t3, x0, x1, x2, x3, x4, x5, x6, x7, pc, d1⟩ := pk_at (SP.out _ R.out).1 hlt
            obtain ⟨nm, hnm⟩ : ∃ y, y = p.name := ⟨_, rfl⟩
            obtain ⟨ln, hln⟩ : ∃ y, y = p.line := ⟨_, rfl⟩
            rw [← hnm] at x0 d1
            rw [← hln] at x1 d1
            obtain ⟨z, hz⟩ : ∃ z : Nat, z = (relF x p).1 := ⟨_, rfl⟩
            obtain ⟨zl, hzl⟩ : ∃ z : Int, z = (relF x p).2 := ⟨_, rfl⟩
            have FV : Hid (relsF x i = (z, zl)) := Lib.hid (by unfold relsF; rw [t1, hz, hzl]; rfl)
            have CR1 : Hid (∀ W, Two w #[.slice A1 n1 c1, .slice A2 n2 c2] #[.int .u8 0, .int .i64 0] 25 29 W → Below wr.heap.size wr W → Calls Try.prog 35 #[.agg #[.slice A1 n1 c1, .slice A2 n2 c2], .agg #[.string nm, .int .i64 ln, .slice Ar nr cr, .slice Av nv cv, .slice Ap np cp, .slice Ad nd cd, .slice Ac nc cc, .slice Af nf cf]] W fun e w' => e = .returned (probV z zl) ∧ Below W.heap.size W w') := Lib.hid (fun W hR hb => by
              rw [hz, hzl]; exact CR.out p _ W hR (pk_stays _ _ _ _ _ _ d1 (Nat.le_refl B) (hb.mono (DR.out _ R.out).2)))
            subst hA
            clear t1 t3 pc d1 hnm hln hz hzl
            have R := Lib.hid (Tri.start R.out #[.string nm, .int .i64 ln, .slice Ar nr cr, .slice Av nv cv, .slice Ap np cp, .slice Ad nd cd, .slice Ac nc cc, .slice Af nf cf] 45)
            have KP : Hid (∀ W, Tri w wr #[.slice (some ⟨b, o, none⟩) n1 c1, .slice A2 n2 c2] #[.int .u8 0, .int .i64 0] 25 29 #[.string nm, .int .i64 ln, .slice Ar nr cr, .slice Av nv cv, .slice Ap np cp, .slice Ad nd cd, .slice Ac nc cc, .slice Af nf cf] 45 W → W.cell? ⟨w.heap.size, 0, none⟩ = some (.slice (some ⟨b, o, none⟩) n1 c1) ∧ W.cell? ⟨w.heap.size, 1, none⟩ = some (.slice A2 n2 c2) ∧ W.cell? ⟨w.heap.size + 1, 0, none⟩ = some (.int .u8 0) ∧ W.cell? ⟨w.heap.size + 1, 1, none⟩ = some (.int .i64 0) ∧ W.frozen? ⟨w.heap.size + 1, 0, none⟩ = false ∧ W.frozen? ⟨w.heap.size + 1, 1, none⟩ = false ∧ W.cell? ⟨wr.heap.size, 0, none⟩ = some (.string nm) ∧ W.cell? ⟨wr.heap.size, 1, none⟩ = some (.int .i64 ln) ∧ W.cell? ⟨wr.heap.size, 2, none⟩ = some (.slice Ar nr cr) ∧ W.cell? ⟨wr.heap.size, 3, none⟩ = some (.slice Av nv cv) ∧ W.cell? ⟨wr.heap.size, 4, none⟩ = some (.slice Ap np cp) ∧ W.cell? ⟨wr.heap.size, 5, none⟩ = some (.slice Ad nd cd) ∧ W.cell? ⟨wr.heap.size, 6, none⟩ = some (.slice Ac nc cc) ∧ W.cell? ⟨wr.heap.size, 7, none⟩ = some (.slice Af nf cf)) := Lib.hid (fun W hR => ⟨blk_cell (j := 0) hR.two.b0 rfl, blk_cell (j := 1) hR.two.b0 rfl, blk_cell (j := 0) hR.two.b1 rfl, blk_cell (j := 1) hR.two.b1 rfl, blk_free 0 hR.two.b1, blk_free 1 hR.two.b1, blk_cell (j := 0) hR.b2 rfl, blk_cell (j := 1) hR.b2 rfl, blk_cell (j := 2) hR.b2 rfl, blk_cell (j := 3) hR.b2 rfl, blk_cell (j := 4) hR.b2 rfl, blk_cell (j := 5) hR.b2 rfl, blk_cell (j := 6) hR.b2 rfl, blk_cell (j := 7) hR.b2 rfl⟩)
            obtain ⟨k0, k1, g0, g1, g2, g3, m0, m1, m2, m3, m4, m5, m6, m7⟩ := KP.out _ R.out
            by_cases hz : z = 0
            · subst hz
              have NX : Hid (∀ j, j < i + 1 → (relsF x j).1 = 0) := Lib.hid (step_all HALL.out (by rw [FV.out]))
              go_wp2_with (go_at_call 35; (with_reducible refine (CR1.out _ R.out.two ((Below.refl _ _).alloc (Nat.le_refl _) _)).mono ?_); rintro e v1 ⟨rfl, hb⟩; have e1 := heap_alloc_new v1 (.cells #[.int .u8 0, .int .i64 zl] 29); have i0 := blk_cell (j := 0) e1 rfl; have i1 := blk_cell (j := 1) e1 rfl; have R := Lib.hid ((R.out.step hb).step ((Below.refl _ _).alloc (Nat.le_refl _) (.cells #[.int .u8 0, .int .i64 zl] 29))); clear hb e1; obtain ⟨k0, k1, g0, g1, g2, g3, m0, m1, m2, m3, m4, m5, m6, m7⟩ := KP.out _ R.out)
              go_roundw
              case rel => exact ⟨i + 1, by go_num, by omega, R.out.two, NX.out⟩
              case measure => simp [intOf]; omega
            · have q1 := nz_eq hz
              have q2 := nz_ne hz
              have Z0 : Hid (recF x = (z, zl)) := Lib.hid (by
                have e := firstN_hit hlt HALL.out (by rw [FV.out]; exact hz)
                rw [FV.out] at e
                rw [W0.out, if_neg (by rw [FC.out]; decide), if_neg (by rw [FP.out]; decide), e, if_pos hz])
              have HH := Lib.hid hz
              clear hz
              go_wp2_with (go_at_call 35; (with_reducible refine (CR1.out _ R.out.two ((Below.refl _ _).alloc (Nat.le_refl _) _)).mono ?_); rintro e v1 ⟨rfl, hb⟩; have e1 := heap_alloc_new v1 (.cells #[.int .u8 z, .int .i64 zl] 29); have i0 := blk_cell (j := 0) e1 rfl; have i1 := blk_cell (j := 1) e1 rfl; have R := Lib.hid ((R.out.step hb).step ((Below.refl _ _).alloc (Nat.le_refl _) (.cells #[.int .u8 z, .int .i64 zl] 29))); clear hb e1; obtain ⟨k0, k1, g0, g1, g2, g3, m0, m1, m2, m3, m4, m5, m6, m7⟩ := KP.out _ R.out)
              rw [Z0.out]
              exact bodyPost_ret (results_cell_row rfl _ _ (w.heap.size + 1) 29 _ (0, 0) _ rfl R.out.two.ends.1 Try.underlying29 rfl (by kernel_rfl)) rfl ⟨rfl, R.out.two.ends.2⟩
          · have FR : Hid ((firstN (relsF x) n1).1 = 0) := Lib.hid (by
              obtain rfl : i = n1 := by omega
              rw [firstN_none HALL.out])
            obtain ⟨k0, k1, g0, g1, g2, g3⟩ := KC.out _ R.out
            clear HALL
            go_wp2_with fail
            clear k0 k1 g0 g1 g2 g3
            obtain ⟨wp, hwp⟩ : ∃ wp, wp = wr := ⟨_, rfl⟩
            go_loopw [10, 11, 54] (fun _ _ v wq => ∃ i : Nat, v = .int .i64 i ∧ i ≤ n2 ∧ Two w #[.slice A1 n1 c1, .slice A2 n2 c2] #[.int .u8 0, .int .i64 0] 25 29 wq ∧ ∀ j, j < i → (prefF x j).1 = 0) (fun _ _ v _ => n2 - (intOf v).toNat)
            case atStart => exact ⟨0, rfl, Nat.zero_le _, R.out, fun j hj => absurd hj (Nat.not_lt_zero _)⟩
            case round =>
              obtain ⟨i, rfl, hi, hr, hall⟩ := hrel
              have R := Lib.hid hr
              have HALL := Lib.hid hall
              clear hr hall
              by_cases hlt : i < n2
              · have hlt' : (i : Int) < (n2 : Int) := by omega
                obtain ⟨f, b, o, An, nn, cn, t1, hA, t3, x0, x1, x2, -, -⟩ := pf_at (SP.out _ R.out).2 hlt
                obtain ⟨nm, hnm⟩ : ∃ y, y = f.virt := ⟨_, rfl⟩
                obtain ⟨ln, hln⟩ : ∃ y, y = f.line := ⟨_, rfl⟩
                rw [← hnm] at x0
                rw [← hln] at x2
                obtain ⟨z, hz⟩ : ∃ z : Bool, z = preferB x i f := ⟨_, rfl⟩
                have FV : Hid (prefF x i = (if z = true then 0 else 10, ln)) := Lib.hid (by unfold prefF; rw [t1, hz, hln]; rfl)
                have CQ1 := Lib.hid (CQ.out i f t1)
                rw [← hz] at CQ1
                have SPX := Lib.hid t3
                have XX : Hid (∀ W, Below wr.heap.size wr W → W.cell? ⟨b, o + i * 3 + 2, none⟩ = some (.int .i64 ln)) := Lib.hid (fun W hb => (hb.cell (p := ⟨b, o + i * 3 + 2, none⟩) (Nat.lt_of_lt_of_le t3 (DR.out _ R.out).2)).trans x2)
                subst hA
                clear t1 t3 hnm hln hz
                have R := Lib.hid (Tri.start R.out #[.string nm, .slice An nn cn, .int .i64 ln] 60)
                have KQ : Hid (∀ W, Tri w wr #[.slice A1 n1 c1, .slice (some ⟨b, o, none⟩) n2 c2] #[.int .u8 0, .int .i64 0] 25 29 #[.string nm, .slice An nn cn, .int .i64 ln] 60 W → W.cell? ⟨w.heap.size, 0, none⟩ = some (.slice A1 n1 c1) ∧ W.cell? ⟨w.heap.size, 1, none⟩ = some (.slice (some ⟨b, o, none⟩) n2 c2) ∧ W.cell? ⟨w.heap.size + 1, 0, none⟩ = some (.int .u8 0) ∧ W.cell? ⟨w.heap.size + 1, 1, none⟩ = some (.int .i64 0) ∧ W.frozen? ⟨w.heap.size + 1, 0, none⟩ = false ∧ W.frozen? ⟨w.heap.size + 1, 1, none⟩ = false ∧ W.cell? ⟨wr.heap.size, 0, none⟩ = some (.string nm) ∧ W.cell? ⟨wr.heap.size, 1, none⟩ = some (.slice An nn cn) ∧ W.cell? ⟨wr.heap.size, 2, none⟩ = some (.int .i64 ln)) := Lib.hid (fun W hR => ⟨blk_cell (j := 0) hR.two.b0 rfl, blk_cell (j := 1) hR.two.b0 rfl, blk_cell (j := 0) hR.two.b1 rfl, blk_cell (j := 1) hR.two.b1 rfl, blk_free 0 hR.two.b1, blk_free 1 hR.two.b1, blk_cell (j := 0) hR.b2 rfl, blk_cell (j := 1) hR.b2 rfl, blk_cell (j := 2) hR.b2 rfl⟩)
                obtain ⟨k0, k1, g0, g1, g2, g3, m0, m1, m2⟩ := KQ.out _ R.out
                cases z
                case true =>
                  have NX : Hid (∀ j, j < i + 1 → (prefF x j).1 = 0) := Lib.hid (step_all HALL.out (by rw [FV.out]; rfl))
                  go_wp2_with (go_at_call 36; (with_reducible refine (CQ1.out _ R.out.two).mono ?_); rintro e v1 ⟨rfl, hb⟩; have R := Lib.hid (R.out.step hb); clear hb; obtain ⟨k0, k1, g0, g1, g2, g3, m0, m1, m2⟩ := KQ.out _ R.out)
                  go_roundw
                  case rel => exact ⟨i + 1, by go_num, by omega, R.out.two, NX.out⟩
                  case measure => simp [intOf]; omega
                case false =>
                  have Z0 : Hid (recF x = (10, ln)) := Lib.hid (by
                    have e := firstN_hit hlt HALL.out (by rw [FV.out]; simp)
                    rw [FV.out, if_neg (by decide)] at e
                    rw [W0.out, if_neg (by rw [FC.out]; decide), if_neg (by rw [FP.out]; decide), if_neg (by rw [FR.out]; decide), e])
                  go_wp2_with (go_at_call 36; (with_reducible refine (CQ1.out _ R.out.two).mono ?_); rintro e v1 ⟨rfl, hb⟩; have R := Lib.hid (R.out.step hb); clear hb; obtain ⟨k0, k1, g0, g1, g2, g3, m0, m1, m2⟩ := KQ.out _ R.out)
                  rw [Z0.out]
                  exact bodyPost_ret (results_cell_row rfl _ _ (w.heap.size + 1) 29 _ (0, 0) _ rfl R.out.two.ends.1 Try.underlying29 rfl (by kernel_rfl)) rfl ⟨rfl, R.out.two.ends.2⟩
              · have Z0 : Hid (recF x = (0, 0)) := Lib.hid (by
                  obtain rfl : i = n2 := by omega
                  rw [W0.out, if_neg (by rw [FC.out]; decide), if_neg (by rw [FP.out]; decide), if_neg (by rw [FR.out]; decide), firstN_none HALL.out])
                obtain ⟨k0, k1, g0, g1, g2, g3⟩ := KC.out _ R.out
                go_wp2_with fail
                rw [Z0.out]
                exact bodyPost_ret (results_cell_row rfl _ _ (w.heap.size + 1) 29 _ (0, 0) _ rfl R.out.ends.1 Try.underlying29 rfl (by kernel_rfl)) rfl ⟨rfl, R.out.ends.2⟩
  · have q1 := nz_eq hcz
    have q2 := nz_ne hcz
    have Z0 : Hid (recF x = (cz, cl)) := Lib.hid (by rw [W0.out, CV.out, if_pos hcz])
    have HH := Lib.hid hcz
    clear hcz
    go_enter Try.func10, Try.ntmps10
    go_wp2_with (go_at_call 33; (with_reducible refine (CC.out _ R.out).mono ?_); rintro e v1 ⟨rfl, hb⟩; have e1 := heap_alloc_new v1 (.cells #[.int .u8 cz, .int .i64 cl] 29); have i0 := blk_cell (j := 0) e1 rfl; have i1 := blk_cell (j := 1) e1 rfl; have R := Lib.hid ((R.out.step hb).step ((Below.refl _ _).alloc (Nat.le_refl _) (.cells #[.int .u8 cz, .int .i64 cl] 29))); clear hb e1; obtain ⟨k0, k1, g0, g1, g2, g3⟩ := KC.out _ R.out)
    rw [Z0.out]
    exact bodyPost_ret (results_cell_row rfl _ _ (w.heap.size + 1) 29 _ (0, 0) _ rfl R.out.ends.1 Try.underlying29 rfl (by kernel_rfl)) rfl ⟨rfl, R.out.ends.2⟩

end Go.Proofs.Ytccmgaibikiedaa.Dc
