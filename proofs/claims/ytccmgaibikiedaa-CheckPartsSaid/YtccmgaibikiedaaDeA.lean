/- Recipes: the first problem of what a package depends on, or may not be with. -/
import Derived.Test.YtccmgaibikiedaaDcY
namespace Go.Proofs.Ytccmgaibikiedaa.Dc
open Go.RowKit
set_option linter.unusedVariables false
set_option linter.unusedSimpArgs false
/-- the first one of so many that is bad. -/
def firstN (f : Nat → Nat × Int) (n : Nat) : Nat × Int := match (List.range n).find? (fun i => (f i).1 != 0) with
  | some i => f i
  | none => (0, 0)
theorem firstN_hit {f : Nat → Nat × Int} {n i : Nat} (hi : i < n) (h : ∀ j, j < i → (f j).1 = 0) (hb : (f i).1 ≠ 0) : firstN f n = f i := by
  have e : (List.range n).find? (fun i => (f i).1 != 0) = some i := by
    rw [List.find?_range_eq_some]
    exact ⟨by simpa using hb, by simpa using hi, fun j hj => by simpa using h j hj⟩
  unfold firstN
  rw [e]
theorem firstN_none {f : Nat → Nat × Int} {n : Nat} (h : ∀ j, j < n → (f j).1 = 0) : firstN f n = (0, 0) := by
  have e : (List.range n).find? (fun i => (f i).1 != 0) = none := by
    rw [List.find?_range_eq_none]
    exact fun j hj => by simpa using h j hj
  unfold firstN
  rw [e]
theorem step_all {P : Nat → Prop} {i : Nat} (h : ∀ j, j < i → P j) (h1 : P i) : ∀ j, j < i + 1 → P j := fun j hj => by
  rcases Nat.lt_or_ge j i with h2 | h2
  · exact h j h2
  · obtain rfl : j = i := by omega
    exact h1
def depC (x : Rc) (p : Pk) (d : Dep) : Nat := if wishF x d.on = 0 then condC p.vars d.cond.sets else wishF x d.on
def confC (x : Rc) (p : Pk) (d : Dep) : Nat := if condC p.vars d.on.sets = 0 then withF x d.cond else condC p.vars d.on.sets
def depF (x : Rc) (p : Pk) (i : Nat) : Nat × Int := ((p.deps[i]?).map fun d => (depC x p d, d.line)).getD (0, 0)
def confF (x : Rc) (p : Pk) (i : Nat) : Nat × Int := ((p.confs[i]?).map fun d => (confC x p d, d.line)).getD (0, 0)
def relF (x : Rc) (p : Pk) : Nat × Int := if (firstN (depF x p) p.deps.length).1 = 0 then firstN (confF x p) p.confs.length else firstN (depF x p) p.deps.length
theorem nz_eq {z : Nat} (h : z ≠ 0) : ((z : Int) == 0) = false := by
  cases hb : ((z : Int) == 0) with
  | false => rfl
  | true => have := eq_of_beq hb; omega
theorem nz_ne {z : Nat} (h : z ≠ 0) : ((z : Int) != 0) = true := by unfold bne; rw [nz_eq h]; rfl
/-- the boxes of a recipe, a package and a problem. -/
structure R3 (w : World) (RC PK : Array Value) (W : World) : Prop where
  b0 : W.heap[w.heap.size]? = some (.cells RC 25 (0, 0))
  b1 : W.heap[w.heap.size + 1]? = some (.cells PK 45 (0, 0))
  b2 : W.heap[w.heap.size + 1 + 1]? = some (.cells #[.int .u8 0, .int .i64 0] 29 (0, 0))
  below : Below w.heap.size w W
theorem R3.start (w : World) (RC PK : Array Value) : R3 w RC PK (((w.alloc (.cells RC 25)).alloc (.cells PK 45)).alloc (.cells #[.int .u8 0, .int .i64 0] 29)) :=
  ⟨(Below.heap_alloc _ _ _ (by simp; omega)).trans ((Below.heap_alloc _ _ _ (by simp)).trans (heap_alloc_new w _)), (Below.heap_alloc _ _ _ (by simp)).trans (two_new w _ _), by
    have h := heap_alloc_new ((w.alloc (.cells RC 25)).alloc (.cells PK 45)) (.cells #[.int .u8 0, .int .i64 0] 29)
    rw [World.size_alloc, World.size_alloc] at h
    exact h, (two_below w _ _).alloc (by simp; omega) _⟩
theorem R3.step {w W W' : World} {RC PK : Array Value} (h : R3 w RC PK W) (hb : Below W.heap.size W W') : R3 w RC PK W' :=
  ⟨(hb.block _ (lt_of_block h.b0)).trans h.b0, (hb.block _ (lt_of_block h.b1)).trans h.b1, (hb.block _ (lt_of_block h.b2)).trans h.b2, h.below.trans (hb.mono h.below.size)⟩
theorem R3.cells {w W : World} {A1 A2 Ar Av Ap Ad Ac Af : Option Addr} {n1 c1 n2 c2 nr cr nv cv np cp nd cd nc cc nf cf : Nat} {nm : ByteArray} {ln : Int} (hR : R3 w #[.slice A1 n1 c1, .slice A2 n2 c2] #[.string nm, .int .i64 ln, .slice Ar nr cr, .slice Av nv cv, .slice Ap np cp, .slice Ad nd cd, .slice Ac nc cc, .slice Af nf cf] W) : W.cell? ⟨w.heap.size, 0, none⟩ = some (.slice A1 n1 c1) ∧ W.cell? ⟨w.heap.size, 1, none⟩ = some (.slice A2 n2 c2) ∧ W.cell? ⟨w.heap.size + 1, 0, none⟩ = some (.string nm) ∧ W.cell? ⟨w.heap.size + 1, 1, none⟩ = some (.int .i64 ln) ∧ W.cell? ⟨w.heap.size + 1, 2, none⟩ = some (.slice Ar nr cr) ∧ W.cell? ⟨w.heap.size + 1, 3, none⟩ = some (.slice Av nv cv) ∧ W.cell? ⟨w.heap.size + 1, 4, none⟩ = some (.slice Ap np cp) ∧ W.cell? ⟨w.heap.size + 1, 5, none⟩ = some (.slice Ad nd cd) ∧ W.cell? ⟨w.heap.size + 1, 6, none⟩ = some (.slice Ac nc cc) ∧ W.cell? ⟨w.heap.size + 1, 7, none⟩ = some (.slice Af nf cf) := ⟨blk_cell (j := 0) hR.b0 rfl, blk_cell (j := 1) hR.b0 rfl, blk_cell (j := 0) hR.b1 rfl, blk_cell (j := 1) hR.b1 rfl, blk_cell (j := 2) hR.b1 rfl, blk_cell (j := 3) hR.b1 rfl, blk_cell (j := 4) hR.b1 rfl, blk_cell (j := 5) hR.b1 rfl, blk_cell (j := 6) hR.b1 rfl, blk_cell (j := 7) hR.b1 rfl⟩
/-- what stands above a number stays, if it is the call's own. -/
theorem R3.ends {w W : World} {RC PK : Array Value} {z : Nat} {l : Int} (h : R3 w RC PK W) :
    ((W.setCell ⟨w.heap.size + 1 + 1, 0, none⟩ (.int .u8 z)).setCell ⟨w.heap.size + 1 + 1, 1, none⟩ (.int .i64 l)).heap[w.heap.size + 1 + 1]? = some (.cells #[.int .u8 z, .int .i64 l] 29 (0, 0)) ∧
    Below w.heap.size w ((W.setCell ⟨w.heap.size + 1 + 1, 0, none⟩ (.int .u8 z)).setCell ⟨w.heap.size + 1 + 1, 1, none⟩ (.int .i64 l)) :=
  ⟨blk_set 1 _ (blk_set 0 _ h.b2), (h.below.setCell (p := ⟨w.heap.size + 1 + 1, 0, none⟩) (by show w.heap.size ≤ w.heap.size + 1 + 1; omega) _).setCell (p := ⟨w.heap.size + 1 + 1, 1, none⟩) (by show w.heap.size ≤ w.heap.size + 1 + 1; omega) _⟩
structure R4 (w wr : World) (RC PK DP : Array Value) (t : TypeId) (W : World) : Prop where
  r : R3 w RC PK W
  b3 : W.heap[wr.heap.size]? = some (.cells DP t (0, 0))
  b4 : Below wr.heap.size wr W
theorem R4.start {w wr : World} {RC PK : Array Value} (h : R3 w RC PK wr) (DP : Array Value) (t : TypeId) : R4 w wr RC PK DP t (wr.alloc (.cells DP t)) :=
  ⟨h.step ((Below.refl _ _).alloc (Nat.le_refl _) _), heap_alloc_new wr _, (Below.refl _ _).alloc (Nat.le_refl _) _⟩
theorem R4.step {w wr W W' : World} {RC PK DP : Array Value} {t : TypeId} (h : R4 w wr RC PK DP t W) (hb : Below W.heap.size W W') : R4 w wr RC PK DP t W' :=
  ⟨h.r.step hb, (hb.block _ (lt_of_block h.b3)).trans h.b3, h.b4.trans (hb.mono h.b4.size)⟩
theorem R4.cells {w wr W : World} {A1 A2 Ar Av Ap Ad Ac Af E1 E2 E3 E4 : Option Addr} {n1 c1 n2 c2 nr cr nv cv np cp nd cd nc cc nf cf m1 f1 m2 f2 m3 f3 m4 f4 : Nat} {nm a1 a2 : ByteArray} {ln dl : Int} {t : TypeId} (hR : R4 w wr #[.slice A1 n1 c1, .slice A2 n2 c2] #[.string nm, .int .i64 ln, .slice Ar nr cr, .slice Av nv cv, .slice Ap np cp, .slice Ad nd cd, .slice Ac nc cc, .slice Af nf cf] #[.string a1, .slice E1 m1 f1, .slice E2 m2 f2, .string a2, .slice E3 m3 f3, .slice E4 m4 f4, .int .i64 dl] t W) : W.cell? ⟨w.heap.size, 0, none⟩ = some (.slice A1 n1 c1) ∧ W.cell? ⟨w.heap.size, 1, none⟩ = some (.slice A2 n2 c2) ∧ W.cell? ⟨w.heap.size + 1, 0, none⟩ = some (.string nm) ∧ W.cell? ⟨w.heap.size + 1, 1, none⟩ = some (.int .i64 ln) ∧ W.cell? ⟨w.heap.size + 1, 2, none⟩ = some (.slice Ar nr cr) ∧ W.cell? ⟨w.heap.size + 1, 3, none⟩ = some (.slice Av nv cv) ∧ W.cell? ⟨w.heap.size + 1, 4, none⟩ = some (.slice Ap np cp) ∧ W.cell? ⟨w.heap.size + 1, 5, none⟩ = some (.slice Ad nd cd) ∧ W.cell? ⟨w.heap.size + 1, 6, none⟩ = some (.slice Ac nc cc) ∧ W.cell? ⟨w.heap.size + 1, 7, none⟩ = some (.slice Af nf cf) ∧ W.cell? ⟨wr.heap.size, 0, none⟩ = some (.string a1) ∧ W.cell? ⟨wr.heap.size, 1, none⟩ = some (.slice E1 m1 f1) ∧ W.cell? ⟨wr.heap.size, 2, none⟩ = some (.slice E2 m2 f2) ∧ W.cell? ⟨wr.heap.size, 3, none⟩ = some (.string a2) ∧ W.cell? ⟨wr.heap.size, 4, none⟩ = some (.slice E3 m3 f3) ∧ W.cell? ⟨wr.heap.size, 5, none⟩ = some (.slice E4 m4 f4) ∧ W.cell? ⟨wr.heap.size, 6, none⟩ = some (.int .i64 dl) := ⟨blk_cell (j := 0) hR.r.b0 rfl, blk_cell (j := 1) hR.r.b0 rfl, blk_cell (j := 0) hR.r.b1 rfl, blk_cell (j := 1) hR.r.b1 rfl, blk_cell (j := 2) hR.r.b1 rfl, blk_cell (j := 3) hR.r.b1 rfl, blk_cell (j := 4) hR.r.b1 rfl, blk_cell (j := 5) hR.r.b1 rfl, blk_cell (j := 6) hR.r.b1 rfl, blk_cell (j := 7) hR.r.b1 rfl, blk_cell (j := 0) hR.b3 rfl, blk_cell (j := 1) hR.b3 rfl, blk_cell (j := 2) hR.b3 rfl, blk_cell (j := 3) hR.b3 rfl, blk_cell (j := 4) hR.b3 rfl, blk_cell (j := 5) hR.b3 rfl, blk_cell (j := 6) hR.b3 rfl⟩
set_option maxHeartbeats 8000000 in
set_option maxRecDepth 100000 in
theorem relations_any {w : World} {B : Nat} {x : Rc} {p : Pk} {cs ps : List Value} (h : rcD w B cs x) (h2 : pkD w B ps p) (hB : B ≤ w.heap.size) (hl : x.packs.length ≤ 1000) : Calls Try.prog 35 #[.agg cs.toArray, .agg ps.toArray] w fun e w' => e = .returned (probV (relF x p).1 (relF x p).2) ∧ Below w.heap.size w w' := by
  obtain ⟨A1, n1, c1, A2, n2, c2, hcs, -, -⟩ := rc_cells h
  obtain ⟨Ar, nr, cr, Av, nv, cv, Ap, np, cp, Ad, nd, cd, Ac, nc, cc, Af, nf, cf, hps, hc⟩ := pk_cells h2
  obtain ⟨nm, hnm⟩ : ∃ y, y = p.name := ⟨_, rfl⟩
  obtain ⟨ln, hln⟩ : ∃ y, y = p.line := ⟨_, rfl⟩
  rw [← hnm, ← hln] at hps
  have DR : Hid (∀ W, Below w.heap.size w W → rcD W B [.slice A1 n1 c1, .slice A2 n2 c2] x ∧ pkD W B [.string nm, .int .i64 ln, .slice Ar nr cr, .slice Av nv cv, .slice Ap np cp, .slice Ad nd cd, .slice Ac nc cc, .slice Af nf cf] p ∧ Sl Dep 7 depD W B Ad nd cd p.deps ∧ Sl Dep 7 depD W B Ac nc cc p.confs ∧ B ≤ W.heap.size) := Lib.hid (fun W hb => by
    have h3 := rc_stays _ _ _ _ _ _ h (Nat.le_refl B) (hb.mono hB)
    have h4 := pk_stays _ _ _ _ _ _ h2 (Nat.le_refl B) (hb.mono hB)
    rw [hcs] at h3
    rw [hps] at h4
    exact ⟨h3, h4, hc.deps.below dep_stays (Nat.le_refl B) (hb.mono hB), hc.confs.below dep_stays (Nat.le_refl B) (hb.mono hB), Nat.le_trans hB hb.size⟩)
  have HL := Lib.hid hl
  have n5 := hc.deps.le
  have n6 := hc.confs.le
  have HN := Lib.hid (And.intro hc.deps.len hc.confs.len)
  have R0 := Lib.hid (R3.start w #[.slice A1 n1 c1, .slice A2 n2 c2] #[.string nm, .int .i64 ln, .slice Ar nr cr, .slice Av nv cv, .slice Ap np cp, .slice Ad nd cd, .slice Ac nc cc, .slice Af nf cf])
  have W0 : Hid (relF x p = if (firstN (depF x p) nd).1 = 0 then firstN (confF x p) nc else firstN (depF x p) nd) := Lib.hid (by rw [HN.out.1, HN.out.2]; rfl)
  obtain ⟨k0, k1, k2, k3, k4, k5, k6, k7, k8, k9⟩ := R0.out.cells
  rw [hcs, hps]
  clear h h2 hc hcs hps hnm hln hl hB
  show Calls Try.prog _ #[.agg #[.slice A1 n1 c1, .slice A2 n2 c2], .agg #[.string nm, .int .i64 ln, .slice Ar nr cr, .slice Av nv cv, .slice Ap np cp, .slice Ad nd cd, .slice Ac nc cc, .slice Af nf cf]] w _
  go_enter Try.func35, Try.ntmps35
  go_wp2_with fail
  clear k0 k1 k2 k3 k4 k5 k6 k7 k8 k9
  go_loopw [6, 7, 14] (fun _ _ v wq => ∃ i : Nat, v = .int .i64 i ∧ i ≤ nd ∧ R3 w #[.slice A1 n1 c1, .slice A2 n2 c2] #[.string nm, .int .i64 ln, .slice Ar nr cr, .slice Av nv cv, .slice Ap np cp, .slice Ad nd cd, .slice Ac nc cc, .slice Af nf cf] wq ∧ ∀ j, j < i → (depF x p j).1 = 0) (fun _ _ v _ => nd - (intOf v).toNat)
  case atStart => exact ⟨0, rfl, Nat.zero_le _, R0.out, fun j hj => absurd hj (Nat.not_lt_zero _)⟩
  case round =>
    obtain ⟨i, rfl, hi, hr, hall⟩ := hrel
    have HR := Lib.hid hr
    have HALL := Lib.hid hall
    clear hr hall
    by_cases hlt : i < nd
    · have hlt' : (i : Int) < (nd : Int) := by omega
      obtain ⟨d, b, o, E1, m1, f1, E2, m2, f2, E3, m3, f3, E4, m4, f4, t1, hA, t3, x0, x1, x2, x3, x4, x5, x6, d1, d2⟩ := dep_at (DR.out _ HR.out.below).2.2.1 hlt
      obtain ⟨a1, ha1⟩ : ∃ y, y = d.on.name := ⟨_, rfl⟩
      obtain ⟨a2, ha2⟩ : ∃ y, y = d.cond.name := ⟨_, rfl⟩
      obtain ⟨dl, hdl⟩ : ∃ y, y = d.line := ⟨_, rfl⟩
      rw [← ha1] at x0 d1
      rw [← ha2] at x3 d2
      rw [← hdl] at x6
      have FV : Hid (depF x p i = (depC x p d, dl)) := Lib.hid (by unfold depF; rw [t1, hdl]; rfl)
      have R := Lib.hid (R4.start HR.out #[.string a1, .slice E1 m1 f1, .slice E2 m2 f2, .string a2, .slice E3 m3 f3, .slice E4 m4 f4, .int .i64 dl] 77)
      have hBr : Hid (B ≤ wr.heap.size) := Lib.hid (DR.out _ HR.out.below).2.2.2.2
      have KC : Hid (∀ W, R4 w wr #[.slice A1 n1 c1, .slice A2 n2 c2] #[.string nm, .int .i64 ln, .slice Ar nr cr, .slice Av nv cv, .slice Ap np cp, .slice Ad nd cd, .slice Ac nc cc, .slice Af nf cf] #[.string a1, .slice E1 m1 f1, .slice E2 m2 f2, .string a2, .slice E3 m3 f3, .slice E4 m4 f4, .int .i64 dl] 77 W → W.cell? ⟨w.heap.size, 0, none⟩ = some (.slice A1 n1 c1) ∧ W.cell? ⟨w.heap.size, 1, none⟩ = some (.slice A2 n2 c2) ∧ W.cell? ⟨w.heap.size + 1, 0, none⟩ = some (.string nm) ∧ W.cell? ⟨w.heap.size + 1, 1, none⟩ = some (.int .i64 ln) ∧ W.cell? ⟨w.heap.size + 1, 2, none⟩ = some (.slice Ar nr cr) ∧ W.cell? ⟨w.heap.size + 1, 3, none⟩ = some (.slice Av nv cv) ∧ W.cell? ⟨w.heap.size + 1, 4, none⟩ = some (.slice Ap np cp) ∧ W.cell? ⟨w.heap.size + 1, 5, none⟩ = some (.slice Ad nd cd) ∧ W.cell? ⟨w.heap.size + 1, 6, none⟩ = some (.slice Ac nc cc) ∧ W.cell? ⟨w.heap.size + 1, 7, none⟩ = some (.slice Af nf cf) ∧ W.cell? ⟨wr.heap.size, 0, none⟩ = some (.string a1) ∧ W.cell? ⟨wr.heap.size, 1, none⟩ = some (.slice E1 m1 f1) ∧ W.cell? ⟨wr.heap.size, 2, none⟩ = some (.slice E2 m2 f2) ∧ W.cell? ⟨wr.heap.size, 3, none⟩ = some (.string a2) ∧ W.cell? ⟨wr.heap.size, 4, none⟩ = some (.slice E3 m3 f3) ∧ W.cell? ⟨wr.heap.size, 5, none⟩ = some (.slice E4 m4 f4) ∧ W.cell? ⟨wr.heap.size, 6, none⟩ = some (.int .i64 dl)) := Lib.hid (fun W hR => hR.cells)
      have DS : Hid (∀ W, R4 w wr #[.slice A1 n1 c1, .slice A2 n2 c2] #[.string nm, .int .i64 ln, .slice Ar nr cr, .slice Av nv cv, .slice Ap np cp, .slice Ad nd cd, .slice Ac nc cc, .slice Af nf cf] #[.string a1, .slice E1 m1 f1, .slice E2 m2 f2, .string a2, .slice E3 m3 f3, .slice E4 m4 f4, .int .i64 dl] 77 W → spD W B [.string a1, .slice E1 m1 f1, .slice E2 m2 f2] d.on ∧ spD W B [.string a2, .slice E3 m3 f3, .slice E4 m4 f4] d.cond) := Lib.hid (fun W hR => ⟨sp_stays _ _ _ _ _ _ d1 (Nat.le_refl B) (hR.b4.mono hBr.out), sp_stays _ _ _ _ _ _ d2 (Nat.le_refl B) (hR.b4.mono hBr.out)⟩)
      obtain ⟨z1, hz1⟩ : ∃ z : Nat, z = wishF x d.on := ⟨_, rfl⟩
      obtain ⟨z2, hz2⟩ : ∃ z : Nat, z = condC p.vars d.cond.sets := ⟨_, rfl⟩
      have CA : Hid (∀ W, R4 w wr #[.slice A1 n1 c1, .slice A2 n2 c2] #[.string nm, .int .i64 ln, .slice Ar nr cr, .slice Av nv cv, .slice Ap np cp, .slice Ad nd cd, .slice Ac nc cc, .slice Af nf cf] #[.string a1, .slice E1 m1 f1, .slice E2 m2 f2, .string a2, .slice E3 m3 f3, .slice E4 m4 f4, .int .i64 dl] 77 W → Calls Try.prog 45 #[.agg #[.slice A1 n1 c1, .slice A2 n2 c2], .agg #[.string a1, .slice E1 m1 f1, .slice E2 m2 f2]] W fun e w' => e = .returned (.int .u8 z1) ∧ Below W.heap.size W w') := Lib.hid (fun W hR => by rw [hz1]; exact wishCode_any (DR.out W hR.r.below).1 (DS.out W hR).1 (DR.out W hR.r.below).2.2.2.2 HL.out)
      have CB : Hid (∀ W, R4 w wr #[.slice A1 n1 c1, .slice A2 n2 c2] #[.string nm, .int .i64 ln, .slice Ar nr cr, .slice Av nv cv, .slice Ap np cp, .slice Ad nd cd, .slice Ac nc cc, .slice Af nf cf] #[.string a1, .slice E1 m1 f1, .slice E2 m2 f2, .string a2, .slice E3 m3 f3, .slice E4 m4 f4, .int .i64 dl] 77 W → Calls Try.prog 60 #[.agg #[.string nm, .int .i64 ln, .slice Ar nr cr, .slice Av nv cv, .slice Ap np cp, .slice Ad nd cd, .slice Ac nc cc, .slice Af nf cf], .agg #[.string a2, .slice E3 m3 f3, .slice E4 m4 f4]] W fun e w' => e = .returned (.int .u8 z2) ∧ Below W.heap.size W w') := Lib.hid (fun W hR => by rw [hz2]; exact condCode_any (DR.out W hR.r.below).2.1 (DS.out W hR).2 (DR.out W hR.r.below).2.2.2.2)
      have CV : Hid (depC x p d = if z1 = 0 then z2 else z1) := Lib.hid (by rw [hz1, hz2]; rfl)
      subst hA
      clear t1 d1 d2 t3 ha1 ha2 hdl hz1 hz2
      obtain ⟨k0, k1, k2, k3, k4, k5, k6, k7, k8, k9, k10, k11, k12, k13, k14, k15, k16⟩ := KC.out _ R.out
      by_cases h1 : z1 = 0
      · subst h1
        by_cases h2 : z2 = 0
        · subst h2
          have NX : Hid (∀ j, j < i + 1 → (depF x p j).1 = 0) := Lib.hid (step_all HALL.out (by rw [FV.out, CV.out]; rfl))
          go_wp2_with (first | (go_at_call 45; (with_reducible refine (CA.out _ R.out).mono ?_); rintro e v1 ⟨rfl, hb⟩; have R := Lib.hid (R.out.step hb); clear hb; obtain ⟨k0, k1, k2, k3, k4, k5, k6, k7, k8, k9, k10, k11, k12, k13, k14, k15, k16⟩ := KC.out _ R.out) | (go_at_call 60; (with_reducible refine (CB.out _ R.out).mono ?_); rintro e v1 ⟨rfl, hb⟩; have R := Lib.hid (R.out.step hb); clear hb; obtain ⟨k0, k1, k2, k3, k4, k5, k6, k7, k8, k9, k10, k11, k12, k13, k14, k15, k16⟩ := KC.out _ R.out))
          go_roundw
          case rel => exact ⟨i + 1, by go_num, by omega, R.out.r, NX.out⟩
          case measure => simp [intOf]; omega
        · have q1 := nz_eq h2
          have q2 := nz_ne h2
          have Z0 : Hid (relF x p = (z2, dl)) := Lib.hid (by
            have e := firstN_hit hlt HALL.out (by rw [FV.out, CV.out]; exact h2)
            rw [FV.out, CV.out, if_pos rfl] at e
            rw [W0.out, e, if_neg (by first | exact h2 | exact h1)])
          have HH := Lib.hid h2
          clear h2
          go_wp2_with (first | (go_at_call 45; (with_reducible refine (CA.out _ R.out).mono ?_); rintro e v1 ⟨rfl, hb⟩; have R := Lib.hid (R.out.step hb); clear hb; obtain ⟨k0, k1, k2, k3, k4, k5, k6, k7, k8, k9, k10, k11, k12, k13, k14, k15, k16⟩ := KC.out _ R.out) | (go_at_call 60; (with_reducible refine (CB.out _ R.out).mono ?_); rintro e v1 ⟨rfl, hb⟩; have R := Lib.hid (R.out.step hb); clear hb; obtain ⟨k0, k1, k2, k3, k4, k5, k6, k7, k8, k9, k10, k11, k12, k13, k14, k15, k16⟩ := KC.out _ R.out; have g0 := blk_cell (j := 0) R.out.r.b2 rfl; have g1 := blk_cell (j := 1) R.out.r.b2 rfl; have g2 := blk_free 0 R.out.r.b2; have g3 := blk_free 1 R.out.r.b2))
          rw [Z0.out]
          exact bodyPost_ret (results_cell_row rfl _ _ (w.heap.size + 1 + 1) 29 _ (0, 0) _ rfl R.out.r.ends.1 Try.underlying29 rfl (by kernel_rfl)) rfl ⟨rfl, R.out.r.ends.2⟩
      · have q1 := nz_eq h1
        have q2 := nz_ne h1
        have Z0 : Hid (relF x p = (z1, dl)) := Lib.hid (by
          have e := firstN_hit hlt HALL.out (by rw [FV.out, CV.out, if_neg h1]; exact h1)
          rw [FV.out, CV.out, if_neg h1] at e
          rw [W0.out, e, if_neg (by first | exact h2 | exact h1)])
        have HH := Lib.hid h1
        clear h1
        go_wp2_with (go_at_call 45; (with_reducible refine (CA.out _ R.out).mono ?_); rintro e v1 ⟨rfl, hb⟩; have R := Lib.hid (R.out.step hb); clear hb; obtain ⟨k0, k1, k2, k3, k4, k5, k6, k7, k8, k9, k10, k11, k12, k13, k14, k15, k16⟩ := KC.out _ R.out; have g0 := blk_cell (j := 0) R.out.r.b2 rfl; have g1 := blk_cell (j := 1) R.out.r.b2 rfl; have g2 := blk_free 0 R.out.r.b2; have g3 := blk_free 1 R.out.r.b2)
        rw [Z0.out]
        exact bodyPost_ret (results_cell_row rfl _ _ (w.heap.size + 1 + 1) 29 _ (0, 0) _ rfl R.out.r.ends.1 Try.underlying29 rfl (by kernel_rfl)) rfl ⟨rfl, R.out.r.ends.2⟩
    · have FD : Hid ((firstN (depF x p) nd).1 = 0) := Lib.hid (by
        obtain rfl : i = nd := by omega
        rw [firstN_none HALL.out])
      obtain ⟨k0, k1, k2, k3, k4, k5, k6, k7, k8, k9⟩ := HR.out.cells
      go_wp2_with fail
      clear k0 k1 k2 k3 k4 k5 k6 k7 k8 k9
      clear HALL
      obtain ⟨wo, hwo⟩ : ∃ wo, wo = wr := ⟨_, rfl⟩
      go_loopw [9, 10, 38] (fun _ _ v wq => ∃ i : Nat, v = .int .i64 i ∧ i ≤ nc ∧ R3 w #[.slice A1 n1 c1, .slice A2 n2 c2] #[.string nm, .int .i64 ln, .slice Ar nr cr, .slice Av nv cv, .slice Ap np cp, .slice Ad nd cd, .slice Ac nc cc, .slice Af nf cf] wq ∧ ∀ j, j < i → (confF x p j).1 = 0) (fun _ _ v _ => nc - (intOf v).toNat)
      case atStart => exact ⟨0, rfl, Nat.zero_le _, HR.out, fun j hj => absurd hj (Nat.not_lt_zero _)⟩
      case round =>
        obtain ⟨k, rfl, hk, hr, hall⟩ := hrel
        have HR := Lib.hid hr
        have HALL := Lib.hid hall
        clear hr hall
        by_cases hlt : k < nc
        · have hlt' : (k : Int) < (nc : Int) := by omega
          obtain ⟨d, b, o, E1, m1, f1, E2, m2, f2, E3, m3, f3, E4, m4, f4, t1, hA, t3, x0, x1, x2, x3, x4, x5, x6, d1, d2⟩ := dep_at (DR.out _ HR.out.below).2.2.2.1 hlt
          obtain ⟨a1, ha1⟩ : ∃ y, y = d.on.name := ⟨_, rfl⟩
          obtain ⟨a2, ha2⟩ : ∃ y, y = d.cond.name := ⟨_, rfl⟩
          obtain ⟨dl, hdl⟩ : ∃ y, y = d.line := ⟨_, rfl⟩
          rw [← ha1] at x0 d1
          rw [← ha2] at x3 d2
          rw [← hdl] at x6
          have FV : Hid (confF x p k = (confC x p d, dl)) := Lib.hid (by unfold confF; rw [t1, hdl]; rfl)
          have R := Lib.hid (R4.start HR.out #[.string a1, .slice E1 m1 f1, .slice E2 m2 f2, .string a2, .slice E3 m3 f3, .slice E4 m4 f4, .int .i64 dl] 88)
          have hBr : Hid (B ≤ wr.heap.size) := Lib.hid (DR.out _ HR.out.below).2.2.2.2
          have KC : Hid (∀ W, R4 w wr #[.slice A1 n1 c1, .slice A2 n2 c2] #[.string nm, .int .i64 ln, .slice Ar nr cr, .slice Av nv cv, .slice Ap np cp, .slice Ad nd cd, .slice Ac nc cc, .slice Af nf cf] #[.string a1, .slice E1 m1 f1, .slice E2 m2 f2, .string a2, .slice E3 m3 f3, .slice E4 m4 f4, .int .i64 dl] 88 W → W.cell? ⟨w.heap.size, 0, none⟩ = some (.slice A1 n1 c1) ∧ W.cell? ⟨w.heap.size, 1, none⟩ = some (.slice A2 n2 c2) ∧ W.cell? ⟨w.heap.size + 1, 0, none⟩ = some (.string nm) ∧ W.cell? ⟨w.heap.size + 1, 1, none⟩ = some (.int .i64 ln) ∧ W.cell? ⟨w.heap.size + 1, 2, none⟩ = some (.slice Ar nr cr) ∧ W.cell? ⟨w.heap.size + 1, 3, none⟩ = some (.slice Av nv cv) ∧ W.cell? ⟨w.heap.size + 1, 4, none⟩ = some (.slice Ap np cp) ∧ W.cell? ⟨w.heap.size + 1, 5, none⟩ = some (.slice Ad nd cd) ∧ W.cell? ⟨w.heap.size + 1, 6, none⟩ = some (.slice Ac nc cc) ∧ W.cell? ⟨w.heap.size + 1, 7, none⟩ = some (.slice Af nf cf) ∧ W.cell? ⟨wr.heap.size, 0, none⟩ = some (.string a1) ∧ W.cell? ⟨wr.heap.size, 1, none⟩ = some (.slice E1 m1 f1) ∧ W.cell? ⟨wr.heap.size, 2, none⟩ = some (.slice E2 m2 f2) ∧ W.cell? ⟨wr.heap.size, 3, none⟩ = some (.string a2) ∧ W.cell? ⟨wr.heap.size, 4, none⟩ = some (.slice E3 m3 f3) ∧ W.cell? ⟨wr.heap.size, 5, none⟩ = some (.slice E4 m4 f4) ∧ W.cell? ⟨wr.heap.size, 6, none⟩ = some (.int .i64 dl)) := Lib.hid (fun W hR => hR.cells)
          have DS : Hid (∀ W, R4 w wr #[.slice A1 n1 c1, .slice A2 n2 c2] #[.string nm, .int .i64 ln, .slice Ar nr cr, .slice Av nv cv, .slice Ap np cp, .slice Ad nd cd, .slice Ac nc cc, .slice Af nf cf] #[.string a1, .slice E1 m1 f1, .slice E2 m2 f2, .string a2, .slice E3 m3 f3, .slice E4 m4 f4, .int .i64 dl] 88 W → spD W B [.string a1, .slice E1 m1 f1, .slice E2 m2 f2] d.on ∧ spD W B [.string a2, .slice E3 m3 f3, .slice E4 m4 f4] d.cond) := Lib.hid (fun W hR => ⟨sp_stays _ _ _ _ _ _ d1 (Nat.le_refl B) (hR.b4.mono hBr.out), sp_stays _ _ _ _ _ _ d2 (Nat.le_refl B) (hR.b4.mono hBr.out)⟩)
          obtain ⟨z1, hz1⟩ : ∃ z : Nat, z = condC p.vars d.on.sets := ⟨_, rfl⟩
          obtain ⟨z2, hz2⟩ : ∃ z : Nat, z = withF x d.cond := ⟨_, rfl⟩
          have CA : Hid (∀ W, R4 w wr #[.slice A1 n1 c1, .slice A2 n2 c2] #[.string nm, .int .i64 ln, .slice Ar nr cr, .slice Av nv cv, .slice Ap np cp, .slice Ad nd cd, .slice Ac nc cc, .slice Af nf cf] #[.string a1, .slice E1 m1 f1, .slice E2 m2 f2, .string a2, .slice E3 m3 f3, .slice E4 m4 f4, .int .i64 dl] 88 W → Calls Try.prog 60 #[.agg #[.string nm, .int .i64 ln, .slice Ar nr cr, .slice Av nv cv, .slice Ap np cp, .slice Ad nd cd, .slice Ac nc cc, .slice Af nf cf], .agg #[.string a1, .slice E1 m1 f1, .slice E2 m2 f2]] W fun e w' => e = .returned (.int .u8 z1) ∧ Below W.heap.size W w') := Lib.hid (fun W hR => by rw [hz1]; exact condCode_any (DR.out W hR.r.below).2.1 (DS.out W hR).1 (DR.out W hR.r.below).2.2.2.2)
          have CB : Hid (∀ W, R4 w wr #[.slice A1 n1 c1, .slice A2 n2 c2] #[.string nm, .int .i64 ln, .slice Ar nr cr, .slice Av nv cv, .slice Ap np cp, .slice Ad nd cd, .slice Ac nc cc, .slice Af nf cf] #[.string a1, .slice E1 m1 f1, .slice E2 m2 f2, .string a2, .slice E3 m3 f3, .slice E4 m4 f4, .int .i64 dl] 88 W → Calls Try.prog 61 #[.agg #[.slice A1 n1 c1, .slice A2 n2 c2], .agg #[.string a2, .slice E3 m3 f3, .slice E4 m4 f4]] W fun e w' => e = .returned (.int .u8 z2) ∧ Below W.heap.size W w') := Lib.hid (fun W hR => by rw [hz2]; exact withCode_any (DR.out W hR.r.below).1 (DS.out W hR).2 (DR.out W hR.r.below).2.2.2.2 HL.out)
          have CV : Hid (confC x p d = if z1 = 0 then z2 else z1) := Lib.hid (by rw [hz1, hz2]; rfl)
          subst hA
          clear t1 d1 d2 t3 ha1 ha2 hdl hz1 hz2
          obtain ⟨k0, k1, k2, k3, k4, k5, k6, k7, k8, k9, k10, k11, k12, k13, k14, k15, k16⟩ := KC.out _ R.out
          by_cases h1 : z1 = 0
          · subst h1
            by_cases h2 : z2 = 0
            · subst h2
              have NX : Hid (∀ j, j < k + 1 → (confF x p j).1 = 0) := Lib.hid (step_all HALL.out (by rw [FV.out, CV.out]; rfl))
              go_wp2_with (first | (go_at_call 60; (with_reducible refine (CA.out _ R.out).mono ?_); rintro e v1 ⟨rfl, hb⟩; have R := Lib.hid (R.out.step hb); clear hb; obtain ⟨k0, k1, k2, k3, k4, k5, k6, k7, k8, k9, k10, k11, k12, k13, k14, k15, k16⟩ := KC.out _ R.out) | (go_at_call 61; (with_reducible refine (CB.out _ R.out).mono ?_); rintro e v1 ⟨rfl, hb⟩; have R := Lib.hid (R.out.step hb); clear hb; obtain ⟨k0, k1, k2, k3, k4, k5, k6, k7, k8, k9, k10, k11, k12, k13, k14, k15, k16⟩ := KC.out _ R.out))
              go_roundw
              case rel => exact ⟨k + 1, by go_num, by omega, R.out.r, NX.out⟩
              case measure => simp [intOf]; omega
            · have q1 := nz_eq h2
              have q2 := nz_ne h2
              have Z0 : Hid (relF x p = (z2, dl)) := Lib.hid (by
                have e := firstN_hit hlt HALL.out (by rw [FV.out, CV.out]; exact h2)
                rw [FV.out, CV.out, if_pos rfl] at e
                rw [W0.out, if_pos FD.out, e])
              have HH := Lib.hid h2
              clear h2
              go_wp2_with (first | (go_at_call 60; (with_reducible refine (CA.out _ R.out).mono ?_); rintro e v1 ⟨rfl, hb⟩; have R := Lib.hid (R.out.step hb); clear hb; obtain ⟨k0, k1, k2, k3, k4, k5, k6, k7, k8, k9, k10, k11, k12, k13, k14, k15, k16⟩ := KC.out _ R.out) | (go_at_call 61; (with_reducible refine (CB.out _ R.out).mono ?_); rintro e v1 ⟨rfl, hb⟩; have R := Lib.hid (R.out.step hb); clear hb; obtain ⟨k0, k1, k2, k3, k4, k5, k6, k7, k8, k9, k10, k11, k12, k13, k14, k15, k16⟩ := KC.out _ R.out; have g0 := blk_cell (j := 0) R.out.r.b2 rfl; have g1 := blk_cell (j := 1) R.out.r.b2 rfl; have g2 := blk_free 0 R.out.r.b2; have g3 := blk_free 1 R.out.r.b2))
              rw [Z0.out]
              exact bodyPost_ret (results_cell_row rfl _ _ (w.heap.size + 1 + 1) 29 _ (0, 0) _ rfl R.out.r.ends.1 Try.underlying29 rfl (by kernel_rfl)) rfl ⟨rfl, R.out.r.ends.2⟩
          · have q1 := nz_eq h1
            have q2 := nz_ne h1
            have Z0 : Hid (relF x p = (z1, dl)) := Lib.hid (by
              have e := firstN_hit hlt HALL.out (by rw [FV.out, CV.out, if_neg h1]; exact h1)
              rw [FV.out, CV.out, if_neg h1] at e
              rw [W0.out, if_pos FD.out, e])
            have HH := Lib.hid h1
            clear h1
            go_wp2_with (go_at_call 60; (with_reducible refine (CA.out _ R.out).mono ?_); rintro e v1 ⟨rfl, hb⟩; have R := Lib.hid (R.out.step hb); clear hb; obtain ⟨k0, k1, k2, k3, k4, k5, k6, k7, k8, k9, k10, k11, k12, k13, k14, k15, k16⟩ := KC.out _ R.out; have g0 := blk_cell (j := 0) R.out.r.b2 rfl; have g1 := blk_cell (j := 1) R.out.r.b2 rfl; have g2 := blk_free 0 R.out.r.b2; have g3 := blk_free 1 R.out.r.b2)
            rw [Z0.out]
            exact bodyPost_ret (results_cell_row rfl _ _ (w.heap.size + 1 + 1) 29 _ (0, 0) _ rfl R.out.r.ends.1 Try.underlying29 rfl (by kernel_rfl)) rfl ⟨rfl, R.out.r.ends.2⟩
        · have Z0 : Hid (relF x p = (0, 0)) := Lib.hid (by
            obtain rfl : k = nc := by omega
            rw [W0.out, if_pos FD.out, firstN_none HALL.out])
          have g0 := blk_cell (j := 0) HR.out.b2 rfl
          have g1 := blk_cell (j := 1) HR.out.b2 rfl
          have g2 := blk_free 0 HR.out.b2
          have g3 := blk_free 1 HR.out.b2
          obtain ⟨k0, k1, k2, k3, k4, k5, k6, k7, k8, k9⟩ := HR.out.cells
          go_wp2_with fail
          rw [Z0.out]
          exact bodyPost_ret (results_cell_row rfl _ _ (w.heap.size + 1 + 1) 29 _ (0, 0) _ rfl HR.out.ends.1 Try.underlying29 rfl (by kernel_rfl)) rfl ⟨rfl, HR.out.ends.2⟩

end Go.Proofs.Ytccmgaibikiedaa.Dc
