/- What may be needed: all of it, walked to the row that is sorted. -/
import Derived.Test.YtccmgaibikiedaaNdE
import Derived.RegionTactic
import Derived.Deep.RegionHeld3
namespace Go.Proofs.Ytccmgaibikiedaa.Dc
open Go.RowKit Go.Maps
set_option linter.unusedVariables false
set_option linter.unusedSimpArgs false
def rootsF (x : Rc) (q : List Rt) : List Int := q.foldl (fun L r => seeF x L r.spec.name) []
def depsL (x : Rc) (L : List Int) (l : List Dep) : List Int := l.foldl (fun L d => seeF x L d.on.name) L
def depsAt (l : List Pk) (i : Nat) : List Dep := ((l[i]?).map (·.deps)).getD []
def bfsF (x : Rc) (L0 : List Int) : Nat → List Int
  | 0 => L0
  | i + 1 => match (bfsF x L0 i)[i]? with
    | some z => depsL x (bfsF x L0 i) (depsAt x.packs z.toNat)
    | none => bfsF x L0 i
def wholeF (x : Rc) (q : List Rt) : List Int := bfsF x (rootsF x q) x.packs.length
theorem roots_next {x : Rc} {q : List Rt} {i : Nat} {r : Rt} (h : q[i]? = some r) : rootsF x (q.take (i + 1)) = seeF x (rootsF x (q.take i)) r.spec.name := by
  unfold rootsF; rw [take_next h, List.foldl_append]; rfl
theorem deps_next {x : Rc} {L : List Int} {l : List Dep} {i : Nat} {d : Dep} (h : l[i]? = some d) : depsL x L (l.take (i + 1)) = seeF x (depsL x L (l.take i)) d.on.name := by
  unfold depsL; rw [take_next h, List.foldl_append]; rfl
theorem InR.foldl {α : Type} {x : Rc} (f : α → ByteArray) : ∀ (l : List α) (L : List Int), InR x.packs.length L → InR x.packs.length (l.foldl (fun L r => seeF x L (f r)) L)
  | [], _, h => h
  | a :: l, L, h => InR.foldl f l _ (h.see (f a))
theorem roots_in (x : Rc) (q : List Rt) : InR x.packs.length (rootsF x q) := InR.foldl (fun r : Rt => r.spec.name) q [] ⟨List.nodup_nil, fun z hz => by cases hz⟩
theorem deps_in {x : Rc} {L : List Int} (h : InR x.packs.length L) (l : List Dep) : InR x.packs.length (depsL x L l) := InR.foldl (fun d : Dep => d.on.name) l L h
theorem bfs_in {x : Rc} {L0 : List Int} (h : InR x.packs.length L0) : ∀ i, InR x.packs.length (bfsF x L0 i)
  | 0 => h
  | i + 1 => by
    unfold bfsF
    split
    · exact deps_in (bfs_in h i) _
    · exact bfs_in h i
theorem bfs_next {x : Rc} {L0 : List Int} {i : Nat} {z : Int} (h : (bfsF x L0 i)[i]? = some z) : bfsF x L0 (i + 1) = depsL x (bfsF x L0 i) (depsAt x.packs z.toNat) := by
  rw [bfsF, h]
theorem bfs_stop {x : Rc} {L0 : List Int} {i : Nat} (h : (bfsF x L0 i).length ≤ i) : ∀ k, bfsF x L0 (i + k) = bfsF x L0 i
  | 0 => rfl
  | k + 1 => by
    have e := bfs_stop h k
    show bfsF x L0 (i + k + 1) = _
    rw [bfsF, e, List.getElem?_eq_none (by omega)]
theorem own_form2 {w : World} {base : Nat} {e : TypeId} {size n : Nat} {v : Value} {xs : List Value} (h : w.ownsRow base e size v n xs) : ∃ A c, v = .slice A n c := by
  rcases h.2 with ⟨rfl, rfl⟩ | ⟨g, cap, cur, rfl, -⟩
  · exact ⟨none, 0, rfl⟩
  · exact ⟨some ⟨g, 0, none⟩, cap, rfl⟩
theorem addT_len (L : List Int) (t : Int) : L.length ≤ (addT L t).length := by
  unfold addT
  split
  · exact Nat.le_refl _
  · rw [List.length_append]; omega
theorem addAll_len : ∀ (T L : List Int), L.length ≤ (addAll L T).length
  | [], _ => Nat.le_refl _
  | t :: T, L => Nat.le_trans (addT_len L t) (addAll_len T (addT L t))
theorem deps_len (x : Rc) : ∀ (l : List Dep) (L : List Int), L.length ≤ (depsL x L l).length
  | [], _ => Nat.le_refl _
  | d :: l, L => Nat.le_trans (addAll_len (tgtF x d.on.name) L) (deps_len x l _)
theorem St.start (w : World) (RC RQ : Array Value) : St w RC RQ [] none 0 0 (((((w.alloc (.cells RC 25)).alloc (.cells RQ 37)).alloc (.map #[] 0)).alloc (.cells #[.map (some (w.heap.size + 1 + 1))] 97)).alloc (.cells #[.slice none 0 0] 31)) := by
  have s2 : ((w.alloc (.cells RC 25)).alloc (.cells RQ 37)).heap.size = (w.heap.size + 1 + 1) := by simp
  have m0 := World.ownsMap_made (H := Unit) ((w.alloc (.cells RC 25)).alloc (.cells RQ 37)) Try.prog 3 (plainElem Try.prog 3)
  rw [s2] at m0
  refine ⟨?_, ?_, ?_, ⟨.map [], (m0.alloc _).alloc _, fun z => rfl⟩, ?_, World.ownsRow_nil _ _ _ _, rfl, ?_⟩
  · exact (Below.heap_alloc _ _ _ (by simp <;> omega)).trans ((Below.heap_alloc _ _ _ (by simp <;> omega)).trans ((Below.heap_alloc _ _ _ (by simp <;> omega)).trans ((Below.heap_alloc _ _ _ (by simp)).trans (heap_alloc_new w _))))
  · exact (Below.heap_alloc _ _ _ (by simp <;> omega)).trans ((Below.heap_alloc _ _ _ (by simp <;> omega)).trans ((Below.heap_alloc _ _ _ (by simp)).trans (two_new w _ _)))
  · refine (Below.heap_alloc _ _ _ (by simp)).trans ?_
    have h := heap_alloc_new (((w.alloc (.cells RC 25)).alloc (.cells RQ 37)).alloc (.map #[] 0)) (.cells #[.map (some (w.heap.size + 1 + 1))] 97)
    rw [World.size_alloc, s2] at h
    exact h
  · have h := heap_alloc_new ((((w.alloc (.cells RC 25)).alloc (.cells RQ 37)).alloc (.map #[] 0)).alloc (.cells #[.map (some (w.heap.size + 1 + 1))] 97)) (.cells #[.slice none 0 0] 31)
    rw [World.size_alloc, World.size_alloc, s2] at h
    exact h
  · exact ((((two_below w _ _).alloc (by simp <;> omega) _).alloc (by simp <;> omega) _).alloc (by simp <;> omega) _)
def closF (x : Rc) (q : List Rt) : List Int := (wholeF x q).mergeSort (fun a b => decide (a ≤ b))
set_option maxHeartbeats 8000000 in
set_option maxRecDepth 100000 in
theorem closure_any {w : World} {x : Rc} {q : List Rt} {cs qs : List Value} (h : rcD w w.heap.size cs x) (h2 : rqD w w.heap.size qs q) (hl : x.packs.length ≤ 1000) :
    Calls Try.prog 46 #[.agg cs.toArray, .agg qs.toArray] w (IntsEnd (closF x q) w) := by
  have hmm := @run_makeMap Try.prog
  obtain ⟨A1, n1, c1, A2, n2, c2, hcs, s1, -⟩ := rc_cells h
  obtain ⟨Aq, nq, cq, hqs, sq⟩ := rq_cells h2
  rw [hcs] at h
  have DR : Hid (∀ W, Below w.heap.size w W → rcD W w.heap.size [.slice A1 n1 c1, .slice A2 n2 c2] x ∧ Sl Rt 4 rtD W w.heap.size Aq nq cq q ∧ Sl Pk 8 pkD W w.heap.size A1 n1 c1 x.packs) := Lib.hid (fun W hb => ⟨rc_stays _ _ _ _ _ _ h (Nat.le_refl _) hb, sq.below rt_stays (Nat.le_refl _) hb, s1.below pk_stays (Nat.le_refl _) hb⟩)
  have CS : Hid (∀ (W : World) (L : List Int) (A : Option Addr) (n c : Nat) (nm : ByteArray), St w #[.slice A1 n1 c1, .slice A2 n2 c2] #[.slice Aq nq cq] L A n c W → InR x.packs.length L → Calls Try.prog 69 #[.string nm, .pointer (some ⟨w.heap.size, 0, none⟩), .pointer (some ⟨w.heap.size + 1 + 1 + 1, 0, none⟩), .pointer (some ⟨w.heap.size + 1 + 1 + 1 + 1, 0, none⟩)] W (SeeEnd w #[.slice A1 n1 c1, .slice A2 n2 c2] #[.slice Aq nq cq] (seeF x L nm))) := Lib.hid (fun W L A n c nm hS hL => see_any h hl hS hL nm)
  have PK : Hid (∀ j, j < n1 → ∃ (p : Pk) (b o : Nat) (Ad : Option Addr) (nd cd : Nat), x.packs[j]? = some p ∧ A1 = some ⟨b, o, none⟩ ∧ (∀ W, Below w.heap.size w W → W.cell? ⟨b, o + j * 8 + 5, none⟩ = some (.slice Ad nd cd)) ∧ nd = p.deps.length ∧ (nd : Int) ≤ 9223372036854775807 ∧ ∀ W, Below w.heap.size w W → Sl Dep 7 depD W w.heap.size Ad nd cd p.deps) := Lib.hid (fun j hj => by
    obtain ⟨p, b, o, Ar, nr, cr, Av, nv, cv, Ap, np, cp, Ad, nd, cd, Ac, nc, cc, Af, nf, cf, t1, hA1, t3, x0, x1, x2, x3, x4, x5, x6, x7, pc, d1⟩ := pk_at s1 hj
    exact ⟨p, b, o, Ad, nd, cd, t1, hA1, fun W hb => (hb.cell (p := ⟨b, o + j * 8 + 5, none⟩) t3).trans x5, pc.deps.len, pc.deps.le, fun W hb => pc.deps.below dep_stays (Nat.le_refl _) hb⟩)
  have S0 := Lib.hid (St.start w #[.slice A1 n1 c1, .slice A2 n2 c2] #[.slice Aq nq cq])
  have n5 := s1.le
  have n6 := sq.le
  have HN := Lib.hid (And.intro s1.len sq.len)
  have LN := Lib.hid hl
  have HW := Lib.hid (fun k => bfs_in (roots_in x q) k)
  have q0 := blk_cell (j := 0) S0.out.bq rfl
  rw [hcs, hqs]
  clear h h2 hcs hqs s1 sq hl
  show Calls Try.prog _ #[.agg #[.slice A1 n1 c1, .slice A2 n2 c2], .agg #[.slice Aq nq cq]] w _
  go_enter Try.func46, Try.ntmps46
  go_wp2_with fail
  clear hmm q0
  go_loopw [9, 18] (fun _ v wq => ∃ (i : Nat) (A : Option Addr) (n c : Nat), v = .int .i64 i ∧ i ≤ nq ∧ St w #[.slice A1 n1 c1, .slice A2 n2 c2] #[.slice Aq nq cq] (rootsF x (q.take i)) A n c wq) (fun _ v _ => nq - (RowKit.intOf v).toNat)
  case atStart => exact ⟨0, none, 0, 0, rfl, Nat.zero_le _, S0.out⟩
  case round =>
    obtain ⟨i, A, n, c, rfl, hi, hs⟩ := hrel
    have HS := Lib.hid hs
    clear hs
    by_cases hlt : i < nq
    · have hlt' : (i : Int) < (nq : Int) := by omega
      obtain ⟨r, b, o, D1, m1, e1, D2, m2, e2, t1, rfl, t3, x0, x1, x2, x3, -⟩ := rt_at (DR.out _ HS.out.below).2.1 hlt
      obtain ⟨sn, hsn⟩ : ∃ y, y = r.spec.name := ⟨_, rfl⟩
      rw [← hsn] at x0
      have NX : Hid (rootsF x (q.take (i + 1)) = seeF x (rootsF x (q.take i)) sn) := Lib.hid (by rw [hsn]; exact roots_next t1)
      have SB := Lib.hid (HS.out.step ((Below.refl wr.heap.size wr).alloc (Nat.le_refl _) (.cells #[.string sn, .slice D1 m1 e1, .slice D2 m2 e2, .int .i64 r.line] 72)))
      have IR := Lib.hid (roots_in x (q.take i))
      have y0 := blk_cell (j := 0) (heap_alloc_new wr (.cells #[.string sn, .slice D1 m1 e1, .slice D2 m2 e2, .int .i64 r.line] 72)) rfl
      clear t1 t3 hsn
      go_wp2_with (go_at_call 69; (with_reducible refine (CS.out _ _ _ _ _ _ SB.out IR.out).mono ?_); rintro e v1 ⟨rfl, A', n', c', hS⟩; have S3 := Lib.hid hS; clear hS)
      go_roundw
      case rel => exact ⟨i + 1, A', n', c', by go_num, by omega, by rw [NX.out]; exact S3.out⟩
      case measure => simp [RowKit.intOf]; omega
    · have R0 : Hid (St w #[.slice A1 n1 c1, .slice A2 n2 c2] #[.slice Aq nq cq] (bfsF x (rootsF x q) 0) A n c wr) := Lib.hid (by
        have hs := HS.out
        rw [take_all (by have := HN.out.2; omega)] at hs
        exact hs)
      clear HS
      go_wp2_with fail
      obtain ⟨wo, hwo⟩ : ∃ wo, wo = wr := ⟨_, rfl⟩
      go_loopw [10, 12, 44] (fun v _ _ wq => ∃ (i : Nat) (A : Option Addr) (n c : Nat), v = .int .i64 i ∧ i ≤ (bfsF x (rootsF x q) i).length ∧ St w #[.slice A1 n1 c1, .slice A2 n2 c2] #[.slice Aq nq cq] (bfsF x (rootsF x q) i) A n c wq) (fun v _ _ _ => n1 - (RowKit.intOf v).toNat)
      case atStart => exact ⟨0, A, n, c, rfl, Nat.zero_le _, R0.out⟩
      case round =>
        obtain ⟨k, A', n', c', rfl, hk, hs⟩ := hrel
        have HS := Lib.hid hs
        have HK := Lib.hid hk
        have b1 := blk_cell (j := 0) hs.br rfl
        have NL := Lib.hid hs.len
        have BL : Hid ((bfsF x (rootsF x q) k).length ≤ n1) := Lib.hid (by rw [HN.out.1]; exact nodup_bound _ _ (HW.out k))
        have n1000 : (n' : Int) ≤ 1000 := by have := BL.out; have := NL.out; have := HN.out.1; have := LN.out; omega
        clear hs hk
        by_cases hlt : k < n'
        · have hlt' : (k : Int) < (n' : Int) := by omega
          obtain ⟨g, z, rfl, y0, hz⟩ := own_at HS.out.rw NL.out hlt
          have TI : Hid ((bfsF x (rootsF x q) k)[k]? = some z) := Lib.hid (by
            have hil : k < (bfsF x (rootsF x q) k).length := by rw [← NL.out]; exact hlt
            rw [hz, List.getD_eq_getElem?_getD, List.getElem?_eq_getElem hil]; rfl)
          have HZ := Lib.hid ((HW.out k).2 z (List.mem_of_getElem? TI.out))
          obtain ⟨j, rfl⟩ := Int.eq_ofNat_of_zero_le HZ.out.1
          have hj : j < n1 := by have := HZ.out.2; rw [HN.out.1]; omega
          have hj' : (j : Int) < (n1 : Int) := by omega
          have NX : Hid (bfsF x (rootsF x q) (k + 1) = depsL x (bfsF x (rootsF x q) k) (depsAt x.packs j)) := Lib.hid (bfs_next TI.out)
          obtain ⟨p, b, o, Ad, nd, cd, t1, hA1, hx5, hnd, n63, hsd⟩ := PK.out j hj
          have DA : Hid (depsAt x.packs j = p.deps) := Lib.hid (by unfold depsAt; rw [t1]; rfl)
          have SD := Lib.hid hsd
          have ND := Lib.hid hnd
          have x5 := hx5 _ HS.out.below
          have a1 := blk_cell (j := 0) HS.out.bx rfl
          have BI := Lib.hid (HW.out k)
          subst hA1
          clear t1 hnd hsd hx5 hz
          go_wp2_with fail
          go_region
          have HS2 := Lib.hid (HS.out.step (Below.refl wr.heap.size wr).drew)
          have KN : Hid (k < n1) := Lib.hid (by have := NL.out; have := BL.out; omega)
          have HKL : Hid (k + 1 ≤ (bfsF x (rootsF x q) k).length) := Lib.hid (by have := NL.out; omega)
          go_wp2_with fail
          clear x5 a1 b1 y0
          obtain ⟨L, hL⟩ : ∃ L, L = bfsF x (rootsF x q) k := ⟨_, rfl⟩
          rw [← hL] at HS2 BI
          have LE := Lib.hid hL
          clear hL HS TI HZ NL HK BL
          obtain ⟨wp, hwp⟩ : ∃ wp, wp = wr := ⟨_, rfl⟩
          go_loopw [12, 44] (fun _ v wq => ∃ (d : Nat) (A : Option Addr) (n c : Nat), v = .int .i64 d ∧ d ≤ nd ∧ St w #[.slice (some ⟨b, o, none⟩) n1 c1, .slice A2 n2 c2] #[.slice Aq nq cq] (depsL x L (p.deps.take d)) A n c wq) (fun _ v _ => nd - (RowKit.intOf v).toNat)
          case atStart => exact ⟨0, _, n', c', rfl, Nat.zero_le _, HS2.out⟩
          case round =>
            obtain ⟨d, A2', m', e', rfl, hd, hs⟩ := hrel
            have HS := Lib.hid hs
            clear hs
            by_cases hltd : d < nd
            · have hltd' : (d : Int) < (nd : Int) := by omega
              obtain ⟨dd, b5, o5, E1, m1, f1, E2, m2, f2, E3, m3, f3, E4, m4, f4, t1, hAd, t3, x0, x1, x2, x3, x4, x5, x6, -, -⟩ := dep_at (SD.out _ HS.out.below) hltd
              obtain ⟨sn, hsn⟩ : ∃ y, y = dd.on.name := ⟨_, rfl⟩
              rw [← hsn] at x0
              have NX2 : Hid (depsL x L (p.deps.take (d + 1)) = seeF x (depsL x L (p.deps.take d)) sn) := Lib.hid (by rw [hsn]; exact deps_next t1)
              have SB := Lib.hid (HS.out.step ((Below.refl wr.heap.size wr).alloc (Nat.le_refl _) (.cells #[.string sn, .slice E1 m1 f1, .slice E2 m2 f2, .string dd.cond.name, .slice E3 m3 f3, .slice E4 m4 f4, .int .i64 dd.line] 77)))
              have IR := Lib.hid (deps_in BI.out (p.deps.take d))
              have y0 := blk_cell (j := 0) (heap_alloc_new wr (.cells #[.string sn, .slice E1 m1 f1, .slice E2 m2 f2, .string dd.cond.name, .slice E3 m3 f3, .slice E4 m4 f4, .int .i64 dd.line] 77)) rfl
              subst hAd
              clear t1 t3 hsn
              go_wp2_with (go_at_call 69; (with_reducible refine (CS.out _ _ _ _ _ _ SB.out IR.out).mono ?_); rintro e v1 ⟨rfl, A3, n3, c3, hS⟩; have S3 := Lib.hid hS; clear hS)
              go_roundw
              case rel => exact ⟨d + 1, A3, n3, c3, by go_num, by omega, by rw [NX2.out]; exact S3.out⟩
              case measure => simp [RowKit.intOf]; omega
            · have SE : Hid (St w #[.slice (some ⟨b, o, none⟩) n1 c1, .slice A2 n2 c2] #[.slice Aq nq cq] (bfsF x (rootsF x q) (k + 1)) A2' m' e' wr) := Lib.hid (by
                have hs := HS.out
                rw [take_all (by have := ND.out; omega), LE.out, ← DA.out, ← NX.out] at hs
                exact hs)
              have GE : Hid (k + 1 ≤ (bfsF x (rootsF x q) (k + 1)).length) := Lib.hid (by
                rw [NX.out]; exact Nat.le_trans HKL.out (deps_len x _ _))
              go_wp2_with fail
              go_roundw
              case rel => exact ⟨k + 1, A2', m', e', by go_num, GE.out, SE.out⟩
              case measure => have := KN.out; simp [RowKit.intOf]; omega
        · have WH : Hid (bfsF x (rootsF x q) k = wholeF x q) := Lib.hid (by
            have hkn : k ≤ x.packs.length := by have := HK.out; have := BL.out; have := HN.out.1; omega
            have e := bfs_stop (x := x) (L0 := rootsF x q) (i := k) (by have := NL.out; omega) (x.packs.length - k)
            rw [show k + (x.packs.length - k) = x.packs.length by omega] at e
            exact e.symm)
          have SW : Hid (St w #[.slice A1 n1 c1, .slice A2 n2 c2] #[.slice Aq nq cq] (wholeF x q) A' n' c' wr) := Lib.hid (by rw [← WH.out]; exact HS.out)
          have IW : Hid (InR x.packs.length (wholeF x q)) := Lib.hid (HW.out x.packs.length)
          obtain ⟨D, hom, hhas⟩ := SW.out.mp
          have OM := Lib.hid hom
          have HAS := Lib.hid hhas
          have SZ : Hid (Maps.size D ≤ 1000) := Lib.hid (by
            have h1 := hom.size_le
            have h2 := nodup_bound _ _ IW.out
            have := LN.out
            exact Nat.le_trans h1 (Nat.le_trans h2 this))
          have m0 := blk_cell (j := 0) SW.out.bm rfl
          clear hom hhas
          go_wp2_with (first
            | (go_at_call 71; (with_reducible refine (keys_any _ _).mono ?_); rintro e v1 ⟨rfl, rfl⟩)
            | (go_at_call 70; (with_reducible refine (sorted_any (w.heap.size + 1 + 1) _ D _ wr OM.out (by have := SZ.out; unfold maxLen; omega) (by have := SZ.out; omega)).mono ?_); rintro e v2 ⟨sv, ss, rfl, hperm, hown, -, hb⟩; have HP := Lib.hid hperm; have HO := Lib.hid hown; have HB := Lib.hid hb; clear hperm hown hb))
          go_ret
          have e1 := keys_sorted OM.out IW.out.1 HAS.out HP.out
          have hl : ss.length = (closF x q).length := by
            show ss.length = ((wholeF x q).mergeSort _).length
            rw [← e1, List.length_mergeSort]
          have ho := HO.out
          rw [e1] at ho
          obtain ⟨B1, c1, rfl⟩ := own_form2 ho
          exact ⟨B1, ss.length, c1, rfl, hl, Joins.ownsRow_le ho (by simp; exact Nat.le_succ_of_le SW.out.below.size), (SW.out.below.alloc SW.out.below.size _).trans (HB.out.mono (by simp; exact Nat.le_succ_of_le SW.out.below.size))⟩

end Go.Proofs.Ytccmgaibikiedaa.Dc
