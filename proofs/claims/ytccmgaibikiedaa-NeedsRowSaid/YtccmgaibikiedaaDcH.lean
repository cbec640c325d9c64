/- Recipes: the first package of a name. -/
import Derived.Test.YtccmgaibikiedaaDcG
namespace Go.Proofs.Ytccmgaibikiedaa.Dc
open Go.RowKit
set_option linter.unusedVariables false
set_option linter.unusedSimpArgs false
def eqB (a b : ByteArray) : Bool := a.toList == b.toList
theorem eqB_iff (a b : ByteArray) : eqB a b = true ↔ a = b := by
  unfold eqB
  rw [beq_iff_eq, Lib.toList_data, Lib.toList_data]
  constructor
  · intro h
    cases a; cases b
    congr 1
    exact Array.toList_inj.1 h
  · rintro rfl; rfl
def findG {α : Type} (f : α → Bool) : List α → Nat → Int
  | [], _ => -1
  | y :: l, k => if f y then k else findG f l (k + 1)
theorem findG_hit {α : Type} {f : α → Bool} {y : α} : ∀ (l : List α) (k i : Nat), (l.take i).any f = false → l[i]? = some y → f y = true → findG f l k = ((k + i : Nat) : Int)
  | [], k, i, _, h, _ => by simp at h
  | x :: l, k, 0, _, h, hy => by
    simp at h; subst h
    rw [findG, if_pos hy]; rfl
  | x :: l, k, i + 1, hp, h, hy => by
    rw [List.take_succ_cons, List.any_cons, Bool.or_eq_false_iff] at hp
    rw [findG, if_neg (by rw [hp.1]; decide), findG_hit l (k + 1) i hp.2 (by simpa using h) hy]
    congr 1; omega
theorem findG_none {α : Type} {f : α → Bool} : ∀ (l : List α) (k : Nat), l.any f = false → findG f l k = -1
  | [], k, _ => rfl
  | x :: l, k, hp => by
    rw [List.any_cons, Bool.or_eq_false_iff] at hp
    rw [findG, if_neg (by rw [hp.1]; decide)]
    exact findG_none l (k + 1) hp.2
theorem findG_lt {α : Type} {f : α → Bool} : ∀ (l : List α) (k : Nat), findG f l k = -1 ∨ ∃ i, i < l.length ∧ findG f l k = ((k + i : Nat) : Int)
  | [], k => .inl rfl
  | x :: l, k => by
    rw [findG]
    split
    · exact .inr ⟨0, by simp, rfl⟩
    · rcases findG_lt (f := f) l (k + 1) with h | ⟨i, h1, h2⟩
      · exact .inl h
      · exact .inr ⟨i + 1, by simpa using h1, by rw [h2]; congr 1; omega⟩
def nmB (nm : ByteArray) (p : Pk) : Bool := eqB p.name nm
def findF (l : List Pk) (nm : ByteArray) : Int := findG (nmB nm) l 0
theorem findF_hit {l : List Pk} {nm : ByteArray} {i : Nat} {y : Pk} (h1 : (l.take i).any (nmB nm) = false) (h2 : l[i]? = some y) (h3 : nmB nm y = true) : findF l nm = (i : Int) := by
  have h := findG_hit l 0 i h1 h2 h3
  rw [Nat.zero_add] at h
  exact h
theorem bstep {B : Nat} {w w1 w2 : World} (h : Below B w w1) (h2 : Below w1.heap.size w1 w2) (hB : B ≤ w1.heap.size) : Below B w w2 := h.trans (h2.mono hB)
abbrev fnF (p : Addr) : Value := .func (.func 43) #[] #[.pointer (some p)]
set_option maxHeartbeats 1000000 in
set_option maxRecDepth 100000 in
theorem closureF_any {w : World} (y1 : ByteArray) (y2 : Int) (Ar : Option Addr) (nr cr : Nat) (Av : Option Addr) (nv cv : Nat) (Ap : Option Addr) (np cp : Nat) (Ad : Option Addr) (nd cd : Nat) (Ac : Option Addr) (nc cc : Nat) (Af : Option Addr) (nf cf : Nat) (nm : ByteArray) (p : Addr) (hp : p.block < w.heap.size) (hc : w.cell? p = some (.string nm)) :
    Calls Try.prog 43 #[.agg #[.string y1, .int .i64 y2, .slice Ar nr cr, .slice Av nv cv, .slice Ap np cp, .slice Ad nd cd, .slice Ac nc cc, .slice Af nf cf], .pointer (some p)] w fun e w' => e = .returned (.bool (eqB y1 nm)) ∧ Below w.heap.size w w' := by
  have BL : Hid (Below w.heap.size w (w.alloc (.cells #[.string y1, .int .i64 y2, .slice Ar nr cr, .slice Av nv cv, .slice Ap np cp, .slice Ad nd cd, .slice Ac nc cc, .slice Af nf cf] 45))) := Lib.hid ((Below.refl w.heap.size w).alloc (Nat.le_refl _) _)
  have hc' : (w.alloc (.cells #[.string y1, .int .i64 y2, .slice Ar nr cr, .slice Av nv cv, .slice Ap np cp, .slice Ad nd cd, .slice Ac nc cc, .slice Af nf cf] 45)).cell? p = some (.string nm) := (BL.out.cell hp).trans hc
  have k0 : (w.alloc (.cells #[.string y1, .int .i64 y2, .slice Ar nr cr, .slice Av nv cv, .slice Ap np cp, .slice Ad nd cd, .slice Ac nc cc, .slice Af nf cf] 45)).cell? ⟨w.heap.size, 0, none⟩ = some (.string y1) := blk_cell (heap_alloc_new w _) rfl
  go_enter Try.func43, Try.ntmps43
  go_wp2_with fail
  go_ret
  exact ⟨rfl, BL.out⟩
set_option maxHeartbeats 2000000 in
set_option maxRecDepth 100000 in
theorem indexF_any {w : World} {B : Nat} {A : Option Addr} {n c : Nat} {l : List Pk} (h : Sl Pk 8 pkD w B A n c l) (hB : B ≤ w.heap.size) (nm : ByteArray) (p : Addr) (hp : p.block < w.heap.size) (hc : w.cell? p = some (.string nm)) :
    Calls Try.prog 42 #[.slice A n c, fnF p] w fun e w' => e = .returned (.int .i64 (findF l nm)) ∧ Below w.heap.size w w' := by
  have n5 := h.le
  have HN := Lib.hid h.len
  have H := Lib.hid h
  have HB : Hid (B ≤ w.heap.size) := Lib.hid hB
  have HC := Lib.hid (And.intro hp hc)
  clear h hB hp hc
  go_enter Try.func42, Try.ntmps42
  go_wp2_with fail
  go_loopw [5, 8] (fun _ v wq => ∃ i : Nat, v = .int .i64 i ∧ i ≤ n ∧ (l.take i).any (nmB nm) = false ∧ Below w.heap.size w wq) (fun _ v _ => n - (intOf v).toNat)
  case atStart => exact ⟨0, rfl, Nat.zero_le _, rfl, Below.refl _ _⟩
  case round =>
    obtain ⟨i, rfl, hi, hq, hbw⟩ := hrel
    have HQ := Lib.hid hq
    have BW := Lib.hid hbw
    have SW := Lib.hid (H.out.below pk_stays (Nat.le_refl B) (hbw.mono HB.out))
    clear hq hbw
    by_cases hlt : i < n
    · have hlt' : (i : Int) < (n : Int) := by omega
      obtain ⟨q, b, o, Ar, nr, cr, Av, nv, cv, Ap, np, cp, Ad, nd, cd, Ac, nc, cc, Af, nf, cf, t1, rfl, t3, x0, x1, x2, x3, x4, x5, x6, x7, -, -⟩ := pk_at SW.out hlt
      have T1 := Lib.hid t1
      obtain ⟨y1, hy1⟩ : ∃ y, y = q.name := ⟨_, rfl⟩
      obtain ⟨y2, hy2⟩ : ∃ y, y = q.line := ⟨_, rfl⟩
      rw [← hy1] at x0
      rw [← hy2] at x1
      obtain ⟨g, hg⟩ : ∃ g, g = eqB y1 nm := ⟨_, rfl⟩
      have G1 : Hid (nmB nm q = g) := Lib.hid (by rw [hg, hy1]; rfl)
      have C1 := Lib.hid (closureF_any y1 y2 Ar nr cr Av nv cv Ap np cp Ad nd cd Ac nc cc Af nf cf nm p (Nat.lt_of_lt_of_le HC.out.1 BW.out.size) ((BW.out.cell HC.out.1).trans HC.out.2))
      rw [← hg] at C1
      clear t1 hg hy1 hy2
      cases g
      case true =>
        have R : Hid (findF l nm = (i : Int)) := Lib.hid (findF_hit HQ.out T1.out G1.out)
        go_wp2_with (go_at_call 43; refine C1.out.mono ?_; rintro e w1 ⟨rfl, hb1⟩; have BZ := Lib.hid (bstep BW.out hb1 BW.out.size); clear hb1)
        go_ret
        rw [R.out]
        exact ⟨rfl, BZ.out⟩
      have HQ2 : Hid ((l.take (i + 1)).any (nmB nm) = false) := Lib.hid (any_next T1.out HQ.out G1.out)
      go_wp2_with (go_at_call 43; refine C1.out.mono ?_; rintro e w1 ⟨rfl, hb1⟩; have BZ := Lib.hid (bstep BW.out hb1 BW.out.size); clear hb1)
      go_roundw
      case rel => exact ⟨i + 1, by go_num, by omega, HQ2.out, BZ.out⟩
      case measure => simp [intOf]; omega
    · have R : Hid (findF l nm = -1) := Lib.hid (findG_none l 0 (by
        have h := HQ.out
        rw [take_all (by have := HN.out; omega)] at h
        exact h))
      go_wp2_with fail
      go_ret
      rw [R.out]
      exact ⟨rfl, BW.out⟩
set_option maxHeartbeats 2000000 in
set_option maxRecDepth 100000 in
theorem find_any {w : World} {B : Nat} {x : Rc} {cs : List Value} (h : rcD w B cs x) (hB : B ≤ w.heap.size) (nm : ByteArray) : Calls Try.prog 14 #[.agg cs.toArray, .string nm] w fun e w' => e = .returned (.int .i64 (findF x.packs nm)) ∧ Below w.heap.size w w' := by
  obtain ⟨A1, n1, c1, A2, n2, c2, rfl, s1, s2⟩ := rc_cells h
  have hmf : ∀ (fn : Fn) (first cap : Array Value) (w : World), (Instr.makeFunc fn first cap).run Try.prog w = .ok (.func fn first cap) w := fun _ _ _ _ => rfl
  have bb : Below B w ((w.alloc (.cells #[.slice A1 n1 c1, .slice A2 n2 c2] 25)).alloc (.cells #[.string nm] 9)) := ((Below.refl B w).alloc hB _).alloc (Nat.le_trans hB (by simp)) _
  have B0 : Hid (Below w.heap.size w ((w.alloc (.cells #[.slice A1 n1 c1, .slice A2 n2 c2] 25)).alloc (.cells #[.string nm] 9))) := Lib.hid (((Below.refl _ _).alloc (Nat.le_refl _) _).alloc (by simp) _)
  have m0 : ((w.alloc (.cells #[.slice A1 n1 c1, .slice A2 n2 c2] 25)).alloc (.cells #[.string nm] 9)).heap[w.heap.size]? = some (.cells #[.slice A1 n1 c1, .slice A2 n2 c2] 25) := (Below.heap_alloc _ _ _ (by simp)).trans (heap_alloc_new w _)
  have m1 : ((w.alloc (.cells #[.slice A1 n1 c1, .slice A2 n2 c2] 25)).alloc (.cells #[.string nm] 9)).heap[w.heap.size + 1]? = some (.cells #[.string nm] 9) := by
    have h := heap_alloc_new (w.alloc (.cells #[.slice A1 n1 c1, .slice A2 n2 c2] 25)) (.cells #[.string nm] 9)
    simp only [World.size_alloc] at h
    exact h
  have k0 : ((w.alloc (.cells #[.slice A1 n1 c1, .slice A2 n2 c2] 25)).alloc (.cells #[.string nm] 9)).cell? ⟨w.heap.size, 0, none⟩ = some (.slice A1 n1 c1) := blk_cell m0 rfl
  have k2 : ((w.alloc (.cells #[.slice A1 n1 c1, .slice A2 n2 c2] 25)).alloc (.cells #[.string nm] 9)).cell? ⟨w.heap.size + 1, 0, none⟩ = some (.string nm) := blk_cell m1 rfl
  have CI := Lib.hid (indexF_any (s1.below pk_stays (Nat.le_refl B) bb) (Nat.le_trans hB B0.out.size) nm ⟨w.heap.size + 1, 0, none⟩ (by simp) k2)
  clear h s1 s2 bb hB m0 m1
  show Calls Try.prog _ #[.agg #[.slice A1 n1 c1, .slice A2 n2 c2], .string nm] w _
  go_enter Try.func14, Try.ntmps14
  go_wp2_with (go_at_call 42; refine CI.out.mono ?_; rintro e w1 ⟨rfl, hb1⟩; have BZ := Lib.hid (bstep B0.out hb1 B0.out.size); clear hb1)
  go_ret
  exact ⟨rfl, BZ.out⟩
set_option maxHeartbeats 2000000 in
set_option maxRecDepth 100000 in
theorem rfind_any {w : World} {B : Nat} {x : Rc} {cs : List Value} (h : rcD w B cs x) (hB : B ≤ w.heap.size) (nm : ByteArray) : Calls Try.prog 15 #[.agg cs.toArray, .string nm] w fun e w' => e = .returned (.int .i64 (findF x.packs nm)) ∧ Below w.heap.size w w' := by
  obtain ⟨A1, n1, c1, A2, n2, c2, rfl, s1, s2⟩ := rc_cells h
  obtain ⟨packs, prefs⟩ := x
  simp only [] at s1 s2 ⊢
  have bb : Below B w (w.alloc (.cells #[.slice A1 n1 c1, .slice A2 n2 c2] 25)) := (Below.refl B w).alloc hB _
  have B0 : Hid (Below w.heap.size w (w.alloc (.cells #[.slice A1 n1 c1, .slice A2 n2 c2] 25))) := Lib.hid ((Below.refl _ _).alloc (Nat.le_refl _) _)
  have k0 : (w.alloc (.cells #[.slice A1 n1 c1, .slice A2 n2 c2] 25)).cell? ⟨w.heap.size, 0, none⟩ = some (.slice A1 n1 c1) := blk_cell (heap_alloc_new w _) rfl
  have S1 := Lib.hid (s1.below pk_stays (Nat.le_refl B) bb)
  have n5 := s1.le
  have HN := Lib.hid s1.len
  clear h s1 s2 bb hB
  show Calls Try.prog _ #[.agg #[.slice A1 n1 c1, .slice A2 n2 c2], .string nm] w _
  go_enter Try.func15, Try.ntmps15
  go_wp2_with fail
  go_loopw [5, 9] (fun _ v wq => ∃ i : Nat, v = .int .i64 i ∧ i ≤ n1 ∧ (packs.take i).any (nmB nm) = false ∧ wq = (w.alloc (.cells #[.slice A1 n1 c1, .slice A2 n2 c2] 25))) (fun _ v _ => n1 - (intOf v).toNat)
  case atStart => exact ⟨0, rfl, Nat.zero_le _, rfl, by first | rfl | trivial⟩
  case round =>
    obtain ⟨i, rfl, hi, hq, rfl⟩ := hrel
    have HQ := Lib.hid hq
    clear hq
    by_cases hlt : i < n1
    · have hlt' : (i : Int) < (n1 : Int) := by omega
      obtain ⟨q, b, o, Ar, nr, cr, Av, nv, cv, Ap, np, cp, Ad, nd, cd, Ac, nc, cc, Af, nf, cf, t1, rfl, t3, x0, x1, x2, x3, x4, x5, x6, x7, -, -⟩ := pk_at S1.out hlt
      have T1 := Lib.hid t1
      obtain ⟨y1, hy1⟩ : ∃ y, y = q.name := ⟨_, rfl⟩
      rw [← hy1] at x0
      have G1 : Hid (nmB nm q = (y1.toList == nm.toList)) := Lib.hid (by rw [hy1]; rfl)
      clear t1 hy1 x1 x2 x3 x4 x5 x6 x7
      cases g : (y1.toList == nm.toList)
      case true =>
        have R : Hid (findF packs nm = (i : Int)) := Lib.hid (findF_hit HQ.out T1.out (G1.out.trans g))
        go_wp2_with fail
        go_ret
        rw [R.out]
        exact ⟨rfl, B0.out⟩
      have HQ2 : Hid ((packs.take (i + 1)).any (nmB nm) = false) := Lib.hid (any_next T1.out HQ.out (G1.out.trans g))
      go_wp2_with fail
      go_roundw
      case rel => exact ⟨i + 1, by go_num, by omega, HQ2.out, by first | rfl | trivial⟩
      case measure => simp [intOf]; omega
    · have R : Hid (findF packs nm = -1) := Lib.hid (findG_none packs 0 (by
        have h := HQ.out
        rw [take_all (by have := HN.out; omega)] at h
        exact h))
      go_wp2_with fail
      go_ret
      rw [R.out]
      exact ⟨rfl, B0.out⟩

end Go.Proofs.Ytccmgaibikiedaa.Dc
