/- Recipes: whether what is preferred is right. -/
import Derived.Test.YtccmgaibikiedaaDeD
import Derived.RegionTactic
namespace Go.Proofs.Ytccmgaibikiedaa.Dc
open Go.RowKit
set_option linter.unusedVariables false
set_option linter.unusedSimpArgs false
theorem Sl.take {α : Type} {k : Nat} {D : Dec α} {w : World} {B : Nat} {A : Option Addr} {n c i : Nat} {l : List α} (h : Sl α k D w B A n c l) (hi : i ≤ n) : Sl α k D w B A i c (l.take i) := by
  refine ⟨by rw [List.length_take, ← h.len]; omega, Nat.le_trans hi h.cap, h.max, ?_⟩
  rcases h.row with h' | ⟨b, o, e, hb, hc⟩
  · exact .inl (by rw [h']; simp)
  · refine .inr ⟨b, o, e, hb, fun j y hj => hc j y ?_⟩
    rw [List.getElem?_take] at hj
    split at hj
    · exact hj
    · cases hj
def prefV (v : ByteArray) (f : Pf) : Bool := eqB f.virt v
def provsAt (l : List Pk) (i : Nat) : List ByteArray := ((l[i]?).map (·.provs)).getD []
def okN (x : Rc) (v nm : ByteArray) : Bool := decide (0 ≤ findF x.packs nm) && hasB (provsAt x.packs (findF x.packs nm).toNat) v
def preferB (x : Rc) (i : Nat) (f : Pf) : Bool := virtB x f.virt && (!((x.prefs.take i).any (prefV f.virt)) && (!dupB f.names && f.names.all (okN x f.virt)))
/-- two boxes. -/
structure Two (w : World) (c0 c1 : Array Value) (t0 t1 : TypeId) (W : World) : Prop where
  b0 : W.heap[w.heap.size]? = some (.cells c0 t0 (0, 0))
  b1 : W.heap[w.heap.size + 1]? = some (.cells c1 t1 (0, 0))
  below : Below w.heap.size w W
theorem Two.start (w : World) (c0 c1 : Array Value) (t0 t1 : TypeId) : Two w c0 c1 t0 t1 ((w.alloc (.cells c0 t0)).alloc (.cells c1 t1)) :=
  ⟨(Below.heap_alloc _ _ _ (by simp)).trans (heap_alloc_new w _), two_new w _ _, two_below w _ _⟩
theorem Two.step {w W W' : World} {c0 c1 : Array Value} {t0 t1 : TypeId} (h : Two w c0 c1 t0 t1 W) (hb : Below W.heap.size W W') : Two w c0 c1 t0 t1 W' :=
  ⟨(hb.block _ (lt_of_block h.b0)).trans h.b0, (hb.block _ (lt_of_block h.b1)).trans h.b1, h.below.trans (hb.mono h.below.size)⟩
theorem Two.drew {w W : World} {c0 c1 : Array Value} {t0 t1 : TypeId} (h : Two w c0 c1 t0 t1 W) : Two w c0 c1 t0 t1 W.drew := h.step (Below.refl _ _).drew
abbrev fnP (p : Addr) : Value := .func (.func 62) #[] #[.pointer (some p)]
set_option maxHeartbeats 1000000 in
set_option maxRecDepth 100000 in
theorem closureP_any {w : World} (y : ByteArray) (A : Option Addr) (n c : Nat) (ln : Int) (v : ByteArray) (pb : Nat) (hp : pb < w.heap.size) (h0 : w.cell? ⟨pb, 0, none⟩ = some (.string v)) :
    Calls Try.prog 62 #[.agg #[.string y, .slice A n c, .int .i64 ln], .pointer (some ⟨pb, 0, none⟩)] w fun e w' => e = .returned (.bool (eqB y v)) ∧ Below w.heap.size w w' := by
  have BL : Hid (Below w.heap.size w (w.alloc (.cells #[.string y, .slice A n c, .int .i64 ln] 60))) := Lib.hid ((Below.refl w.heap.size w).alloc (Nat.le_refl _) _)
  have y0 : (w.alloc (.cells #[.string y, .slice A n c, .int .i64 ln] 60)).cell? ⟨pb, 0, none⟩ = some (.string v) := (BL.out.cell (p := ⟨pb, 0, none⟩) hp).trans h0
  have k0 : (w.alloc (.cells #[.string y, .slice A n c, .int .i64 ln] 60)).cell? ⟨w.heap.size, 0, none⟩ = some (.string y) := blk_cell (heap_alloc_new w _) rfl
  have R : Hid (eqB y v = (y.toList == v.toList)) := Lib.hid rfl
  clear hp h0
  go_enter Try.func62, Try.ntmps62
  go_wp2_with fail
  go_ret
  rw [R.out]
  exact ⟨rfl, BL.out⟩
set_option maxHeartbeats 2000000 in
set_option maxRecDepth 100000 in
theorem indexP_any {w : World} {B : Nat} {A : Option Addr} {n c : Nat} {l : List Pf} (h : Sl Pf 3 pfD w B A n c l) (hB : B ≤ w.heap.size) (v : ByteArray) (pb : Nat) (hp : pb < w.heap.size) (h0 : w.cell? ⟨pb, 0, none⟩ = some (.string v)) :
    Calls Try.prog 48 #[.slice A n c, fnP ⟨pb, 0, none⟩] w fun e w' => e = .returned (.int .i64 (findG (prefV v) l 0)) ∧ Below w.heap.size w w' := by
  have n5 := h.le
  have HN := Lib.hid h.len
  have H := Lib.hid h
  have HB : Hid (B ≤ w.heap.size) := Lib.hid hB
  have HC := Lib.hid (And.intro hp h0)
  clear h hB hp h0
  go_enter Try.func48, Try.ntmps48
  go_wp2_with fail
  go_loopw [5, 8] (fun _ v2 wq => ∃ i : Nat, v2 = .int .i64 i ∧ i ≤ n ∧ (l.take i).any (prefV v) = false ∧ Below w.heap.size w wq) (fun _ v _ => n - (intOf v).toNat)
  case atStart => exact ⟨0, rfl, Nat.zero_le _, rfl, Below.refl _ _⟩
  case round =>
    obtain ⟨i, rfl, hi, hq, hbw⟩ := hrel
    have HQ := Lib.hid hq
    have BW := Lib.hid hbw
    have SW := Lib.hid (H.out.below pf_stays (Nat.le_refl B) (hbw.mono HB.out))
    clear hq hbw
    by_cases hlt : i < n
    · have hlt' : (i : Int) < (n : Int) := by omega
      obtain ⟨q, b, o, A', m', c', t1, rfl, t3, x0, x1, x2, -, -⟩ := pf_at SW.out hlt
      have T1 := Lib.hid t1
      obtain ⟨y, hy⟩ : ∃ y, y = q.virt := ⟨_, rfl⟩
      rw [← hy] at x0
      obtain ⟨g, hg⟩ : ∃ g, g = prefV v q := ⟨_, rfl⟩
      have G1 : Hid (prefV v q = g) := Lib.hid hg.symm
      have C1 := Lib.hid (closureP_any y A' m' c' q.line v pb (Nat.lt_of_lt_of_le HC.out.1 BW.out.size) ((BW.out.cell (p := ⟨pb, 0, none⟩) HC.out.1).trans HC.out.2))
      rw [show eqB y v = g from by rw [hg, hy]; rfl] at C1
      clear t1 hg hy
      cases g
      case true =>
        have R : Hid (findG (prefV v) l 0 = (i : Int)) := Lib.hid (by have h := findG_hit l 0 i HQ.out T1.out G1.out; rw [Nat.zero_add] at h; exact h)
        go_wp2_with (go_at_call 62; refine C1.out.mono ?_; rintro e w1 ⟨rfl, hb1⟩; have BZ := Lib.hid (bstep BW.out hb1 BW.out.size); clear hb1)
        go_ret
        rw [R.out]
        exact ⟨rfl, BZ.out⟩
      have HQ2 : Hid ((l.take (i + 1)).any (prefV v) = false) := Lib.hid (any_next T1.out HQ.out G1.out)
      go_wp2_with (go_at_call 62; refine C1.out.mono ?_; rintro e w1 ⟨rfl, hb1⟩; have BZ := Lib.hid (bstep BW.out hb1 BW.out.size); clear hb1)
      go_roundw
      case rel => exact ⟨i + 1, by go_num, by omega, HQ2.out, BZ.out⟩
      case measure => simp [intOf]; omega
    · have R : Hid (findG (prefV v) l 0 = -1) := Lib.hid (findG_none l 0 (by
        have h := HQ.out
        rw [take_all (by have := HN.out; omega)] at h
        exact h))
      go_wp2_with fail
      go_ret
      rw [R.out]
      exact ⟨rfl, BW.out⟩
set_option maxHeartbeats 1000000 in
set_option maxRecDepth 100000 in
theorem containsP_any {w : World} {B : Nat} {A : Option Addr} {n c : Nat} {l : List Pf} (h : Sl Pf 3 pfD w B A n c l) (hB : B ≤ w.heap.size) (v : ByteArray) (pb : Nat) (hp : pb < w.heap.size) (h0 : w.cell? ⟨pb, 0, none⟩ = some (.string v)) :
    Calls Try.prog 63 #[.slice A n c, fnP ⟨pb, 0, none⟩] w fun e w' => e = .returned (.bool (l.any (prefV v))) ∧ Below w.heap.size w w' := by
  have C1 := Lib.hid (indexP_any h hB v pb hp h0)
  have R := Lib.hid (findG_any (prefV v) l)
  obtain ⟨z, hz⟩ : ∃ z, z = findG (prefV v) l 0 := ⟨_, rfl⟩
  rw [← hz] at C1 R
  clear h hB hp h0 hz
  go_enter Try.func63, Try.ntmps63
  go_wp2_with (go_at_call 48; refine C1.out.mono ?_; rintro e w1 ⟨rfl, hb1⟩; have BZ := Lib.hid hb1; clear hb1)
  go_ret
  rw [← R.out]
  exact ⟨rfl, BZ.out⟩
set_option maxHeartbeats 8000000 in
set_option maxRecDepth 100000 in
theorem rightPrefer_any {w : World} {B : Nat} {x : Rc} {cs : List Value} (h : rcD w B cs x) (hB : B ≤ w.heap.size) (hl : x.packs.length ≤ 1000) {i : Nat} {f : Pf} (hp : x.prefs[i]? = some f) :
    Calls Try.prog 36 #[.agg cs.toArray, .int .i64 (i : Nat)] w fun e w' => e = .returned (.bool (preferB x i f)) ∧ Below w.heap.size w w' := by
  obtain ⟨A1, n1, c1, A2, n2, c2, hcs, s1, s2⟩ := rc_cells h
  have hi : i < n2 := by
    rw [s2.len]
    rcases Nat.lt_or_ge i x.prefs.length with h' | h'
    · exact h'
    · rw [List.getElem?_eq_none h'] at hp; cases hp
  have hi' : (i : Int) < (n2 : Int) := by omega
  have hic : i ≤ c2 := Nat.le_trans (Nat.le_of_lt hi) s2.cap
  have n5 := s1.le
  have n6 := s2.le
  obtain ⟨q, b, o, An, nn, cn, t1, hA2, t3, x0, x1, x2, -, sn⟩ := pf_at s2 hi
  obtain rfl : f = q := by rw [t1] at hp; exact (Option.some.inj hp).symm
  obtain ⟨vt, hvt⟩ : ∃ y, y = f.virt := ⟨_, rfl⟩
  obtain ⟨ln, hln⟩ : ∃ y, y = f.line := ⟨_, rfl⟩
  rw [← hvt] at x0
  rw [← hln] at x2
  have bw1 : Below B w (w.alloc (.cells #[.slice A1 n1 c1, .slice A2 n2 c2] 25)) := (Below.refl B w).alloc hB _
  have h0 : (w.alloc (.cells #[.slice A1 n1 c1, .slice A2 n2 c2] 25)).cell? ⟨w.heap.size, 1, none⟩ = some (.slice A2 n2 c2) := blk_cell (heap_alloc_new w _) rfl
  replace x0 := (bw1.cell (p := ⟨b, o + i * 3, none⟩) t3).trans x0
  replace x1 := (bw1.cell (p := ⟨b, o + i * 3 + 1, none⟩) t3).trans x1
  replace x2 := (bw1.cell (p := ⟨b, o + i * 3 + 2, none⟩) t3).trans x2
  have R := Lib.hid (Two.start w #[.slice A1 n1 c1, .slice A2 n2 c2] #[.string vt, .slice An nn cn, .int .i64 ln] 25 60)
  have KC : Hid (∀ W, Two w #[.slice A1 n1 c1, .slice A2 n2 c2] #[.string vt, .slice An nn cn, .int .i64 ln] 25 60 W → W.cell? ⟨w.heap.size, 0, none⟩ = some (.slice A1 n1 c1) ∧ W.cell? ⟨w.heap.size, 1, none⟩ = some (.slice A2 n2 c2) ∧ W.cell? ⟨w.heap.size + 1, 0, none⟩ = some (.string vt) ∧ W.cell? ⟨w.heap.size + 1, 1, none⟩ = some (.slice An nn cn) ∧ W.cell? ⟨w.heap.size + 1, 2, none⟩ = some (.int .i64 ln)) := Lib.hid (fun W hR => ⟨blk_cell (j := 0) hR.b0 rfl, blk_cell (j := 1) hR.b0 rfl, blk_cell (j := 0) hR.b1 rfl, blk_cell (j := 1) hR.b1 rfl, blk_cell (j := 2) hR.b1 rfl⟩)
  have DR : Hid (∀ W, Two w #[.slice A1 n1 c1, .slice A2 n2 c2] #[.string vt, .slice An nn cn, .int .i64 ln] 25 60 W → rcD W B [.slice A1 n1 c1, .slice A2 n2 c2] x ∧ B ≤ W.heap.size) := Lib.hid (fun W hR => by
    have h3 := rc_stays _ _ _ _ _ _ h (Nat.le_refl B) (hR.below.mono hB)
    rw [hcs] at h3
    exact ⟨h3, Nat.le_trans hB hR.below.size⟩)
  have SN : Hid (∀ W, Two w #[.slice A1 n1 c1, .slice A2 n2 c2] #[.string vt, .slice An nn cn, .int .i64 ln] 25 60 W → Sl ByteArray 1 strD W B An nn cn f.names) := Lib.hid (fun W hR => sn.below strD_stays (Nat.le_refl B) (hR.below.mono hB))
  have SNT : Hid (∀ k, k < nn → ∃ s b1 o1, f.names[k]? = some s ∧ An = some ⟨b1, o1, none⟩ ∧ ∀ W, Two w #[.slice A1 n1 c1, .slice A2 n2 c2] #[.string vt, .slice An nn cn, .int .i64 ln] 25 60 W → W.cell? ⟨b1, o1 + k, none⟩ = some (.string s)) := Lib.hid (fun k hk => by
    obtain ⟨s, b1, o1, z1, z2, z3, z4, -⟩ := text_at sn hk
    exact ⟨s, b1, o1, z1, z2, fun W hR => ((hR.below.mono hB).cell (p := ⟨b1, o1 + k, none⟩) z3).trans z4⟩)
  have SPT : Hid (∀ k, k < n2 → ∃ q b1 o1, x.prefs[k]? = some q ∧ A2 = some ⟨b1, o1, none⟩ ∧ ∀ W, Two w #[.slice A1 n1 c1, .slice A2 n2 c2] #[.string vt, .slice An nn cn, .int .i64 ln] 25 60 W → W.cell? ⟨b1, o1 + k * 3, none⟩ = some (.string q.virt)) := Lib.hid (fun k hk => by
    obtain ⟨q, b1, o1, A', m', c', z1, z2, z3, z4, -⟩ := pf_at s2 hk
    exact ⟨q, b1, o1, z1, z2, fun W hR => ((hR.below.mono hB).cell (p := ⟨b1, o1 + k * 3, none⟩) z3).trans z4⟩)
  have SP : Hid (∀ W, Two w #[.slice A1 n1 c1, .slice A2 n2 c2] #[.string vt, .slice An nn cn, .int .i64 ln] 25 60 W → Sl Pf 3 pfD W B A2 n2 c2 x.prefs ∧ Sl Pk 8 pkD W B A1 n1 c1 x.packs) := Lib.hid (fun W hR => ⟨s2.below pf_stays (Nat.le_refl B) (hR.below.mono hB), s1.below pk_stays (Nat.le_refl B) (hR.below.mono hB)⟩)
  obtain ⟨va, hva⟩ : ∃ g, g = virtB x vt := ⟨_, rfl⟩
  obtain ⟨ga, hga⟩ : ∃ g, g = (x.prefs.take i).any (prefV vt) := ⟨_, rfl⟩
  obtain ⟨da, hda⟩ : ∃ g, g = dupB f.names := ⟨_, rfl⟩
  have W0 : Hid (preferB x i f = (va && (!ga && (!da && f.names.all (okN x vt))))) := Lib.hid (by rw [hva, hga, hda, hvt]; rfl)
  have C1 : Hid (∀ W, Two w #[.slice A1 n1 c1, .slice A2 n2 c2] #[.string vt, .slice An nn cn, .int .i64 ln] 25 60 W → Calls Try.prog 16 #[.agg #[.slice A1 n1 c1, .slice A2 n2 c2], .string vt] W fun e w' => e = .returned (.bool va) ∧ Below W.heap.size W w') := Lib.hid (fun W hR => by
    rw [hva]; exact virtual_any (DR.out W hR).1 (DR.out W hR).2 hl vt)
  have C3 : Hid (∀ W, Two w #[.slice A1 n1 c1, .slice A2 n2 c2] #[.string vt, .slice An nn cn, .int .i64 ln] 25 60 W → Calls Try.prog 57 #[.slice An nn cn] W fun e w' => e = .returned (.bool da) ∧ Below W.heap.size W w') := Lib.hid (fun W hR => by
    rw [hda]; exact alike_any (SN.out W hR) (DR.out W hR).2)
  have CF : Hid (∀ (s : ByteArray) (W : World), Two w #[.slice A1 n1 c1, .slice A2 n2 c2] #[.string vt, .slice An nn cn, .int .i64 ln] 25 60 W → Calls Try.prog 14 #[.agg #[.slice A1 n1 c1, .slice A2 n2 c2], .string s] W fun e w' => e = .returned (.int .i64 (findF x.packs s)) ∧ Below W.heap.size W w') := Lib.hid (fun s W hR => find_any (DR.out W hR).1 (DR.out W hR).2 s)
  have CH : Hid (∀ (j : Nat) (pk : Pk), x.packs[j]? = some pk → ∃ b o Ap np cp, A1 = some ⟨b, o, none⟩ ∧ (∀ W, Two w #[.slice A1 n1 c1, .slice A2 n2 c2] #[.string vt, .slice An nn cn, .int .i64 ln] 25 60 W → W.cell? ⟨b, o + j * 8 + 4, none⟩ = some (.slice Ap np cp)) ∧ ∀ W, Two w #[.slice A1 n1 c1, .slice A2 n2 c2] #[.string vt, .slice An nn cn, .int .i64 ln] 25 60 W → Calls Try.prog 40 #[.slice Ap np cp, .string vt] W fun e w' => e = .returned (.bool (hasB pk.provs vt)) ∧ Below W.heap.size W w') := Lib.hid (fun j pk hj => by
    have hj1 : j < n1 := by
      rw [s1.len]
      rcases Nat.lt_or_ge j x.packs.length with h' | h'
      · exact h'
      · rw [List.getElem?_eq_none h'] at hj; cases hj
    obtain ⟨q2, b2, o2, Ar, nr, cr, Av, nv, cv, Ap, np, cp, Ad, nd, cd, Ac, nc, cc, Af, nf, cf, z1, zA, z3, -, -, -, -, y4, -, -, -, pc, -⟩ := pk_at s1 hj1
    rw [hj] at z1
    obtain rfl := Option.some.inj z1
    refine ⟨b2, o2, Ap, np, cp, zA, fun W hR => ((hR.below.mono hB).cell (p := ⟨b2, o2 + j * 8 + 4, none⟩) z3).trans y4, fun W hR => ?_⟩
    refine (contains_any (pc.provs.below strD_stays (Nat.le_refl B) (hR.below.mono hB)) vt).mono ?_
    rintro e w' ⟨he, rfl⟩
    exact ⟨he, Below.refl _ _⟩)
  have n7 := sn.le
  have HNN := Lib.hid sn.len
  have HI := Lib.hid hi
  have FL : Hid (∀ s, findF x.packs s = -1 ∨ ∃ j : Nat, j < n1 ∧ findF x.packs s = (j : Int)) := Lib.hid (fun s => by
    rcases findG_lt (f := nmB s) x.packs 0 with h | ⟨j, h1, h2⟩
    · exact .inl h
    · exact .inr ⟨j, by rw [s1.len]; exact h1, by unfold findF; rw [h2, Nat.zero_add]⟩)
  have N1 := Lib.hid s1.len
  have C2 : Hid (∀ W, Two w #[.slice A1 n1 c1, .slice A2 n2 c2] #[.string vt, .slice An nn cn, .int .i64 ln] 25 60 W → Calls Try.prog 63 #[.slice A2 i c2, fnP ⟨w.heap.size + 1, 0, none⟩] W fun e w' => e = .returned (.bool ga) ∧ Below W.heap.size W w') := Lib.hid (fun W hR => by
    rw [hga]; exact containsP_any ((SP.out W hR).1.take (Nat.le_of_lt hi)) (DR.out W hR).2 vt (w.heap.size + 1) (lt_of_block hR.b1) (KC.out W hR).2.2.1)
  subst hA2
  rw [hcs]
  clear h s1 s2 hp t1 hcs t3 hB hl bw1 hi sn hva hga hda hln hvt
  obtain ⟨k0, k1, l0, l1, l2⟩ := KC.out _ R.out
  show Calls Try.prog _ #[.agg #[.slice A1 n1 c1, .slice (some ⟨b, o, none⟩) n2 c2], .int .i64 (i : Nat)] w _
  cases va
  case false =>
    have Z0 : Hid (preferB x i f = false) := Lib.hid (by rw [W0.out]; rfl)
    go_enter Try.func36, Try.ntmps36
    go_wp2_with (first | (go_at_call 16; (with_reducible refine (C1.out _ R.out).mono ?_); rintro e v1 ⟨rfl, hb⟩; have R := Lib.hid (R.out.step hb); clear hb; obtain ⟨k0, k1, l0, l1, l2⟩ := KC.out _ R.out))
    go_ret
    rw [Z0.out]
    exact ⟨rfl, R.out.below⟩
  cases ga
  case true =>
    have Z0 : Hid (preferB x i f = false) := Lib.hid (by rw [W0.out]; rfl)
    go_enter Try.func36, Try.ntmps36
    go_wp2_with (first | (go_at_call 16; (with_reducible refine (C1.out _ R.out).mono ?_); rintro e v1 ⟨rfl, hb⟩; have R := Lib.hid (R.out.step hb); clear hb; obtain ⟨k0, k1, l0, l1, l2⟩ := KC.out _ R.out) | (go_at_call 63; (with_reducible refine (C2.out _ R.out).mono ?_); rintro e v1 ⟨rfl, hb⟩; have R := Lib.hid (R.out.step hb); clear hb; obtain ⟨k0, k1, l0, l1, l2⟩ := KC.out _ R.out))
    go_ret
    rw [Z0.out]
    exact ⟨rfl, R.out.below⟩
  cases da
  case true =>
    have Z0 : Hid (preferB x i f = false) := Lib.hid (by rw [W0.out]; rfl)
    go_enter Try.func36, Try.ntmps36
    go_wp2_with (first | (go_at_call 16; (with_reducible refine (C1.out _ R.out).mono ?_); rintro e v1 ⟨rfl, hb⟩; have R := Lib.hid (R.out.step hb); clear hb; obtain ⟨k0, k1, l0, l1, l2⟩ := KC.out _ R.out) | (go_at_call 63; (with_reducible refine (C2.out _ R.out).mono ?_); rintro e v1 ⟨rfl, hb⟩; have R := Lib.hid (R.out.step hb); clear hb; obtain ⟨k0, k1, l0, l1, l2⟩ := KC.out _ R.out) | (go_at_call 57; (with_reducible refine (C3.out _ R.out).mono ?_); rintro e v1 ⟨rfl, hb⟩; have R := Lib.hid (R.out.step hb); clear hb; obtain ⟨k0, k1, l0, l1, l2⟩ := KC.out _ R.out))
    go_ret
    rw [Z0.out]
    exact ⟨rfl, R.out.below⟩
  go_enter Try.func36, Try.ntmps36
  go_wp2_with (first | (go_at_call 16; (with_reducible refine (C1.out _ R.out).mono ?_); rintro e v1 ⟨rfl, hb⟩; have R := Lib.hid (R.out.step hb); clear hb; obtain ⟨k0, k1, l0, l1, l2⟩ := KC.out _ R.out) | (go_at_call 63; (with_reducible refine (C2.out _ R.out).mono ?_); rintro e v1 ⟨rfl, hb⟩; have R := Lib.hid (R.out.step hb); clear hb; obtain ⟨k0, k1, l0, l1, l2⟩ := KC.out _ R.out) | (go_at_call 57; (with_reducible refine (C3.out _ R.out).mono ?_); rintro e v1 ⟨rfl, hb⟩; have R := Lib.hid (R.out.step hb); clear hb; obtain ⟨k0, k1, l0, l1, l2⟩ := KC.out _ R.out))
  clear k0 k1 l0 l1 l2
  go_loopw [8, 9, 37] (fun _ _ v wq => ∃ k : Nat, v = .int .i64 k ∧ k ≤ nn ∧ Two w #[.slice A1 n1 c1, .slice (some ⟨b, o, none⟩) n2 c2] #[.string vt, .slice An nn cn, .int .i64 ln] 25 60 wq ∧ (f.names.take k).all (okN x vt) = true) (fun _ _ v _ => nn - (intOf v).toNat)
  case atStart => exact ⟨0, rfl, Nat.zero_le _, R.out, rfl⟩
  case round =>
    obtain ⟨k, rfl, hk, hr, hall⟩ := hrel
    have R := Lib.hid hr
    have HALL := Lib.hid hall
    clear hr hall
    obtain ⟨k0, k1, l0, l1, l2⟩ := KC.out _ R.out
    by_cases hlt : k < nn
    · have hlt' : (k : Int) < (nn : Int) := by omega
      obtain ⟨s, b1, o1, t1, hAn, t3⟩ := SNT.out k hlt
      have y0 := t3 _ R.out
      have T3 := Lib.hid t3
      have T1 := Lib.hid t1
      subst hAn
      have CFS := Lib.hid (CF.out s)
      rcases FL.out s with hz | ⟨j, hj, hz⟩
      · have BAD : Hid (preferB x i f = false) := Lib.hid (by
          have e : okN x vt s = false := by unfold okN; rw [hz]; rfl
          rw [W0.out, all_hit T1.out e]; simp)
        rw [hz] at CFS
        clear t1 t3 hz
        go_wp2_with (go_at_call 14; (with_reducible refine (CFS.out _ R.out).mono ?_); rintro e v1 ⟨rfl, hb⟩; have R := Lib.hid (R.out.step hb); clear hb; obtain ⟨k0, k1, l0, l1, l2⟩ := KC.out _ R.out)
        first | (go_region) | fail
        go_wp2_with fail
        go_ret
        rw [BAD.out]
        exact ⟨rfl, R.out.below.drew⟩
      · obtain ⟨pk, hpk⟩ : ∃ pk, x.packs[j]? = some pk := ⟨_, List.getElem?_eq_getElem (show j < x.packs.length by rw [← N1.out]; exact hj)⟩
        obtain ⟨b2, o2, Ap, np, cp, hA1, y4, CHH⟩ := CH.out j pk hpk
        obtain ⟨g, hg⟩ : ∃ g, g = hasB pk.provs vt := ⟨_, rfl⟩
        have OKE : Hid (okN x vt s = g) := Lib.hid (by unfold okN provsAt; rw [hz, hg]; simp [hpk])
        rw [← hg] at CHH
        have CHS := Lib.hid CHH
        have Y4 := Lib.hid y4
        rw [hz] at CFS
        have hj' : (j : Int) < (n1 : Int) := by omega
        subst hA1
        have XC : Hid (∀ W, Two w #[.slice (some ⟨b2, o2, none⟩) n1 c1, .slice (some ⟨b, o, none⟩) n2 c2] #[.string vt, .slice (some ⟨b1, o1, none⟩) nn cn, .int .i64 ln] 25 60 W → W.cell? ⟨w.heap.size, 0, none⟩ = some (.slice (some ⟨b2, o2, none⟩) n1 c1) ∧ W.cell? ⟨w.heap.size + 1, 0, none⟩ = some (.string vt) ∧ W.cell? ⟨b2, o2 + j * 8 + 4, none⟩ = some (.slice Ap np cp)) := Lib.hid (fun W hR => ⟨(KC.out W hR).1, (KC.out W hR).2.2.1, Y4.out W hR⟩)
        clear t1 t3 hz hg CHH hpk y4
        cases g
        case false =>
          have BAD : Hid (preferB x i f = false) := Lib.hid (by rw [W0.out, all_hit T1.out OKE.out]; simp)
          go_wp2_with (go_at_call 14; (with_reducible refine (CFS.out _ R.out).mono ?_); rintro e v1 ⟨rfl, hb⟩; have R := Lib.hid (R.out.step hb); clear hb; obtain ⟨k0, k1, l0, l1, l2⟩ := KC.out _ R.out)
          have R := Lib.hid R.out.drew
          go_region_held3 (fun W => W.cell? ⟨w.heap.size, 0, none⟩ = some (.slice (some ⟨b2, o2, none⟩) n1 c1) ∧ W.cell? ⟨w.heap.size + 1, 0, none⟩ = some (.string vt) ∧ W.cell? ⟨b2, o2 + j * 8 + 4, none⟩ = some (.slice Ap np cp))
            (first | exact XC.out _ R.out | go_keep)
            (first | (go_at_call 40; (with_reducible refine (CHS.out _ R.out).mono ?_); rintro e v1 ⟨rfl, hb⟩; have R := Lib.hid (R.out.step hb); clear hb; obtain ⟨k0, k1, l0, l1, l2⟩ := KC.out _ R.out))
          go_wp2_with fail
          go_ret
          rw [BAD.out]
          exact ⟨rfl, R.out.below⟩
        case true =>
          have NX : Hid ((f.names.take (k + 1)).all (okN x vt) = true) := Lib.hid (all_next T1.out HALL.out OKE.out)
          go_wp2_with (go_at_call 14; (with_reducible refine (CFS.out _ R.out).mono ?_); rintro e v1 ⟨rfl, hb⟩; have R := Lib.hid (R.out.step hb); clear hb; obtain ⟨k0, k1, l0, l1, l2⟩ := KC.out _ R.out)
          have R := Lib.hid R.out.drew
          go_region_held3 (fun W => W.cell? ⟨w.heap.size, 0, none⟩ = some (.slice (some ⟨b2, o2, none⟩) n1 c1) ∧ W.cell? ⟨w.heap.size + 1, 0, none⟩ = some (.string vt) ∧ W.cell? ⟨b2, o2 + j * 8 + 4, none⟩ = some (.slice Ap np cp))
            (first | exact XC.out _ R.out | go_keep)
            (first | (go_at_call 40; (with_reducible refine (CHS.out _ R.out).mono ?_); rintro e v1 ⟨rfl, hb⟩; have R := Lib.hid (R.out.step hb); clear hb; obtain ⟨k0, k1, l0, l1, l2⟩ := KC.out _ R.out))
          go_wp2_with fail
          go_roundw
          case rel => exact ⟨k + 1, by go_num, by omega, R.out, NX.out⟩
          case measure => simp [intOf]; omega
    · have ALL : Hid (f.names.all (okN x vt) = true) := Lib.hid (by
        have h := HALL.out
        rw [take_all (by have := HNN.out; omega)] at h
        exact h)
      have Z0 : Hid (preferB x i f = true) := Lib.hid (by rw [W0.out, ALL.out]; rfl)
      go_wp2_with fail
      go_ret
      rw [Z0.out]
      exact ⟨rfl, R.out.below⟩

end Go.Proofs.Ytccmgaibikiedaa.Dc
