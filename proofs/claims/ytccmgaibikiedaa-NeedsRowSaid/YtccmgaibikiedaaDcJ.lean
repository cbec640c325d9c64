/- Recipes: the document's packages that provide a name; virtual names. -/
import Derived.Test.YtccmgaibikiedaaDcI
namespace Go.Proofs.Ytccmgaibikiedaa.Dc
open Go.RowKit
set_option linter.unusedVariables false
set_option linter.unusedSimpArgs false
set_option maxHeartbeats 4000000 in
set_option maxRecDepth 100000 in
theorem rproviders_any {w : World} {B : Nat} {x : Rc} {cs : List Value} (h : rcD w B cs x) (hB : B ≤ w.heap.size) (hl : x.packs.length ≤ 1000) (nm : ByteArray) : Calls Try.prog 13 #[.agg cs.toArray, .string nm] w (NumsEnd x nm w) := by
  obtain ⟨A1, n1, c1, A2, n2, c2, rfl, s1, s2⟩ := rc_cells h
  obtain ⟨packs, prefs⟩ := x
  simp only [] at s1 s2 hl ⊢
  obtain ⟨i0, hi0, hz⟩ := Option.map_eq_some_iff.1 info_int
  simp only [Prod.mk.injEq] at hz
  obtain ⟨hz0, hz1, hz2⟩ := hz
  have INF := Lib.hid (And.intro hi0 (And.intro hz0 (And.intro hz1 hz2)))
  have bb : Below B w (w.alloc (.cells #[.slice A1 n1 c1, .slice A2 n2 c2] 25)) := (Below.refl B w).alloc hB _
  have B0 : Hid (Below w.heap.size w ((w.alloc (.cells #[.slice A1 n1 c1, .slice A2 n2 c2] 25)).alloc (.cells #[] 3))) := Lib.hid (((Below.refl _ _).alloc (Nat.le_refl _) _).alloc (by simp) _)
  have M0 : Hid (((w.alloc (.cells #[.slice A1 n1 c1, .slice A2 n2 c2] 25)).alloc (.cells #[] 3)).heap[w.heap.size]? = some (.cells #[.slice A1 n1 c1, .slice A2 n2 c2] 25)) := Lib.hid ((Below.heap_alloc _ _ _ (by simp)).trans (heap_alloc_new w _))
  have k0 : ((w.alloc (.cells #[.slice A1 n1 c1, .slice A2 n2 c2] 25)).alloc (.cells #[] 3)).cell? ⟨w.heap.size, 0, none⟩ = some (.slice A1 n1 c1) := blk_cell M0.out rfl
  have OW0 : Hid (((w.alloc (.cells #[.slice A1 n1 c1, .slice A2 n2 c2] 25)).alloc (.cells #[] 3)).ownsRow w.heap.size 3 1 (.slice (some ⟨w.heap.size + 1, 0, none⟩) 0 0) 0 (intsV (provG (provB nm) (packs.take 0) 0))) := Lib.hid ⟨rfl, .inr ⟨w.heap.size + 1, 0, #[], rfl, by omega, by
    have h := heap_alloc_new (w.alloc (.cells #[.slice A1 n1 c1, .slice A2 n2 c2] 25)) (.cells #[] 3)
    rw [World.size_alloc] at h
    exact h, Nat.le_refl _, by unfold maxLen; omega, rfl, rfl⟩⟩
  have S1 := Lib.hid s1
  have HB : Hid (B ≤ w.heap.size) := Lib.hid hB
  have n5 := s1.le
  have HN := Lib.hid s1.len
  have HL := Lib.hid hl
  clear h s1 s2 bb hB hi0 hz0 hz1 hz2 hl
  show Calls Try.prog _ #[.agg #[.slice A1 n1 c1, .slice A2 n2 c2], .string nm] w _
  go_enter Try.func13, Try.ntmps13
  go_wp2_with fail
  clear k0
  go_loopw [5, 6, 11] (fun row _ v wq => ∃ (i g m c : Nat), v = .int .i64 i ∧ i ≤ n1 ∧ row = .slice (some ⟨g, 0, none⟩) m c ∧ m = (provG (provB nm) (packs.take i) 0).length ∧ m ≤ i ∧ wq.ownsRow w.heap.size 3 1 (.slice (some ⟨g, 0, none⟩) m c) m (intsV (provG (provB nm) (packs.take i) 0)) ∧ Below w.heap.size w wq ∧ wq.heap[w.heap.size]? = some (.cells #[.slice A1 n1 c1, .slice A2 n2 c2] 25)) (fun _ _ v _ => n1 - (intOf v).toNat)
  case atStart => exact ⟨0, _, 0, 0, rfl, Nat.zero_le _, rfl, rfl, Nat.le_refl _, OW0.out, B0.out, M0.out⟩
  case round =>
    obtain ⟨i, g0, m, c, rfl, hi, rfl, hm, hmi, hown, hbw, hbox⟩ := hrel
    have HM := Lib.hid hm
    have HMI := Lib.hid hmi
    have OW := Lib.hid hown
    have BW := Lib.hid hbw
    have MB := Lib.hid hbox
    have k0 : wr.cell? ⟨w.heap.size, 0, none⟩ = some (.slice A1 n1 c1) := blk_cell hbox rfl
    have SW := Lib.hid (S1.out.below pk_stays (Nat.le_refl B) (hbw.mono HB.out))
    clear hm hmi hown hbw hbox
    by_cases hlt : i < n1
    · have hlt' : (i : Int) < (n1 : Int) := by omega
      obtain ⟨q, b, o, Ar, nr, cr, Av, nv, cv, Ap, np, cp, Ad, nd, cd, Ac, nc, cc, Af, nf, cf, t1, rfl, t3, x0, x1, x2, x3, x4, x5, x6, x7, pc, -⟩ := pk_at SW.out hlt
      have NX := Lib.hid (provG_next (f := provB nm) t1)
      obtain ⟨g, hg⟩ : ∃ g, g = provB nm q := ⟨_, rfl⟩
      have CC := Lib.hid (has_any pc.provs nm)
      rw [show hasB q.provs nm = g from hg.symm] at CC
      rw [← hg] at NX
      clear t1 pc hg x0 x1 x2 x3 x5 x6 x7
      cases g
      case true =>
        have NX2 : Hid (intsV (provG (provB nm) (packs.take (i + 1)) 0) = intsV (provG (provB nm) (packs.take i) 0) ++ [.int .i64 (i : Nat)]) := Lib.hid (by rw [NX.out]; simp)
        have NL : Hid (m + 1 = (provG (provB nm) (packs.take (i + 1)) 0).length) := Lib.hid (by rw [NX.out, HM.out]; simp)
        have LT : Hid (w.heap.size < wr.heap.size) := Lib.hid (lt_of_block MB.out)
        have NE : Hid ((Value.slice (some ⟨g0, 0, none⟩) m c).ownBlock ≠ some w.heap.size) := Lib.hid (Lib.ownBlock_ne OW.out MB.out (by decide))
        go_wp2_with (first
          | (go_at_call 41; refine CC.out.mono ?_; rintro e w1 ⟨rfl, rfl⟩)
          | (at_builtin; refine wp_append_one wr rfl (.tmp 22) (.tmp 24) 31 rfl w.heap.size 3 i0 _ 8 Try.underlying31 INF.out.1 INF.out.2.1 INF.out.2.2.1 INF.out.2.2.2 rfl (.slice (some ⟨g0, 0, none⟩) m c) m _ rfl OW.out (.int .i64 (i : Nat)) rfl rfl ?c1 ?c2 ?c3 ?_))
        case c1 => have := HMI.out; have := HL.out; have := HN.out; unfold maxLen; omega
        case c2 => have := HMI.out; have := HL.out; have := HN.out; omega
        case c3 => exact BW.out.size
        intro g2 cap2 w2 hown2 _ _ hb2 _ hgr
        have OW2 := Lib.hid hown2
        have BW2 := Lib.hid (BW.out.trans hb2)
        have MB2 := Lib.hid (show w2.heap[w.heap.size]? = wr.heap[w.heap.size]? by
          rw [hgr.block w.heap.size (by rw [World.size_alloc]; have := LT.out; omega) (fun e => NE.out e.symm), Lib.alloc_old _ _ _ LT.out])
        clear hown2 hb2 hgr
        go_wp2_with fail
        go_roundw
        case rel => exact ⟨i + 1, g2, m + 1, cap2, by go_num, by omega, rfl, NL.out, by have := HMI.out; omega, by rw [NX2.out]; exact OW2.out, BW2.out, MB2.out.trans MB.out⟩
        case measure => simp [intOf]; omega
      have NX2 : Hid (provG (provB nm) (packs.take (i + 1)) 0 = provG (provB nm) (packs.take i) 0) := Lib.hid (by rw [NX.out]; simp)
      go_wp2_with (go_at_call 41; refine CC.out.mono ?_; rintro e w1 ⟨rfl, rfl⟩)
      go_roundw
      case rel => exact ⟨i + 1, g0, m, c, by go_num, by omega, rfl, by rw [NX2.out]; exact HM.out, by have := HMI.out; omega, by rw [NX2.out]; exact OW.out, BW.out, MB.out⟩
      case measure => simp [intOf]; omega
    · have TI : Hid (packs.take i = packs) := Lib.hid (take_all (by have := HN.out; omega))
      go_wp2_with fail
      go_ret
      refine ⟨_, m, c, rfl, ?_, ?_, ?_, BW.out⟩
      · rw [HM.out, TI.out]; rfl
      · have := HMI.out; have := HN.out; show m ≤ packs.length; omega
      · have h := OW.out; rw [TI.out] at h; exact h
def virtB (x : Rc) (nm : ByteArray) : Bool := decide (findF x.packs nm < 0) && decide (0 < (provF x.packs nm).length)
set_option maxHeartbeats 2000000 in
set_option maxRecDepth 100000 in
theorem virtual_any {w : World} {B : Nat} {x : Rc} {cs : List Value} (h : rcD w B cs x) (hB : B ≤ w.heap.size) (hl : x.packs.length ≤ 1000) (nm : ByteArray) : Calls Try.prog 16 #[.agg cs.toArray, .string nm] w fun e w' => e = .returned (.bool (virtB x nm)) ∧ Below w.heap.size w w' := by
  obtain ⟨A1, n1, c1, A2, n2, c2, hcs, s1, s2⟩ := rc_cells h
  have bb : Below B w (w.alloc (.cells #[.slice A1 n1 c1, .slice A2 n2 c2] 25)) := (Below.refl B w).alloc hB _
  have B0 : Hid (Below w.heap.size w (w.alloc (.cells #[.slice A1 n1 c1, .slice A2 n2 c2] 25))) := Lib.hid ((Below.refl _ _).alloc (Nat.le_refl _) _)
  have m0 : (w.alloc (.cells #[.slice A1 n1 c1, .slice A2 n2 c2] 25)).heap[w.heap.size]? = some (.cells #[.slice A1 n1 c1, .slice A2 n2 c2] 25) := heap_alloc_new w _
  have M0 := Lib.hid m0
  have k0 : (w.alloc (.cells #[.slice A1 n1 c1, .slice A2 n2 c2] 25)).cell? ⟨w.heap.size, 0, none⟩ = some (.slice A1 n1 c1) := blk_cell m0 rfl
  have k1 : (w.alloc (.cells #[.slice A1 n1 c1, .slice A2 n2 c2] 25)).cell? ⟨w.heap.size, 1, none⟩ = some (.slice A2 n2 c2) := blk_cell m0 rfl
  have RB := Lib.hid (rc_stays _ _ _ _ _ _ h (Nat.le_refl B) bb)
  have LT : Hid (w.heap.size < (w.alloc (.cells #[.slice A1 n1 c1, .slice A2 n2 c2] 25)).heap.size) := Lib.hid (by simp)
  obtain ⟨z, hz⟩ : ∃ z, z = findF x.packs nm := ⟨_, rfl⟩
  have C1 := Lib.hid (find_any RB.out (Nat.le_trans hB B0.out.size) nm)
  rw [← hz, hcs] at C1
  have HB : Hid (B ≤ (w.alloc (.cells #[.slice A1 n1 c1, .slice A2 n2 c2] 25)).heap.size) := Lib.hid (Nat.le_trans hB B0.out.size)
  have C2 : Hid (∀ w2, Below (w.alloc (.cells #[.slice A1 n1 c1, .slice A2 n2 c2] 25)).heap.size (w.alloc (.cells #[.slice A1 n1 c1, .slice A2 n2 c2] 25)) w2 → Calls Try.prog 12 #[.agg #[.slice A1 n1 c1, .slice A2 n2 c2], .string nm] w2 (NumsEnd x nm w2)) := Lib.hid (fun w2 hb => by
    have h2 := rc_stays _ _ _ _ _ _ RB.out (Nat.le_refl B) (hb.mono HB.out)
    rw [hcs] at h2
    exact providers_any h2 (Nat.le_trans HB.out hb.size) hl nm)
  have R : Hid (virtB x nm = (decide (z < 0) && decide (0 < (provF x.packs nm).length))) := Lib.hid (by rw [hz]; rfl)
  have ZZ : Hid (z = -1 ∨ ∃ i : Nat, i < x.packs.length ∧ z = (i : Int)) := Lib.hid (by
    rcases findG_lt (f := nmB nm) x.packs 0 with h | ⟨i, h1, h2⟩
    · exact .inl (hz.trans h)
    · exact .inr ⟨i, h1, by rw [hz]; unfold findF; rw [h2, Nat.zero_add]⟩)
  rw [hcs]
  clear h s1 s2 bb hB m0 hz
  show Calls Try.prog _ #[.agg #[.slice A1 n1 c1, .slice A2 n2 c2], .string nm] w _
  by_cases hz : z < 0
  · go_enter Try.func16, Try.ntmps16
    go_wp2_with (first
      | (go_at_call 14; refine C1.out.mono ?_; rintro e w1 ⟨rfl, hb1⟩; have HB1 := Lib.hid hb1; have j0 := (hb1.cell (p := ⟨w.heap.size, 0, none⟩) LT.out).trans k0; have j1 := (hb1.cell (p := ⟨w.heap.size, 1, none⟩) LT.out).trans k1; clear hb1)
      | (go_at_call 12; refine (C2.out _ HB1.out).mono ?_; rintro e w2 ⟨A, n, c, rfl, hn, hn2, -, hb2⟩; have BZ := Lib.hid ((B0.out.trans (HB1.out.mono B0.out.size)).trans (hb2.mono (Nat.le_trans B0.out.size HB1.out.size))); have RN := Lib.hid hn; clear hb2 hn hn2))
    go_ret
    refine ⟨?_, BZ.out⟩
    rw [R.out, ← RN.out, decide_eq_true hz]
    simp
  · have R2 : Hid (virtB x nm = false) := Lib.hid (by rw [R.out, decide_eq_false hz]; rfl)
    go_enter Try.func16, Try.ntmps16
    go_wp2_with (go_at_call 14; refine C1.out.mono ?_; rintro e w1 ⟨rfl, hb1⟩; have BZ := Lib.hid (B0.out.trans (hb1.mono B0.out.size)); clear hb1)
    go_ret
    rw [R2.out]
    exact ⟨rfl, BZ.out⟩
set_option maxHeartbeats 2000000 in
set_option maxRecDepth 100000 in
theorem rvirtual_any {w : World} {B : Nat} {x : Rc} {cs : List Value} (h : rcD w B cs x) (hB : B ≤ w.heap.size) (hl : x.packs.length ≤ 1000) (nm : ByteArray) : Calls Try.prog 17 #[.agg cs.toArray, .string nm] w fun e w' => e = .returned (.bool (virtB x nm)) ∧ Below w.heap.size w w' := by
  obtain ⟨A1, n1, c1, A2, n2, c2, hcs, s1, s2⟩ := rc_cells h
  have bb : Below B w (w.alloc (.cells #[.slice A1 n1 c1, .slice A2 n2 c2] 25)) := (Below.refl B w).alloc hB _
  have B0 : Hid (Below w.heap.size w (w.alloc (.cells #[.slice A1 n1 c1, .slice A2 n2 c2] 25))) := Lib.hid ((Below.refl _ _).alloc (Nat.le_refl _) _)
  have m0 : (w.alloc (.cells #[.slice A1 n1 c1, .slice A2 n2 c2] 25)).heap[w.heap.size]? = some (.cells #[.slice A1 n1 c1, .slice A2 n2 c2] 25) := heap_alloc_new w _
  have M0 := Lib.hid m0
  have k0 : (w.alloc (.cells #[.slice A1 n1 c1, .slice A2 n2 c2] 25)).cell? ⟨w.heap.size, 0, none⟩ = some (.slice A1 n1 c1) := blk_cell m0 rfl
  have k1 : (w.alloc (.cells #[.slice A1 n1 c1, .slice A2 n2 c2] 25)).cell? ⟨w.heap.size, 1, none⟩ = some (.slice A2 n2 c2) := blk_cell m0 rfl
  have RB := Lib.hid (rc_stays _ _ _ _ _ _ h (Nat.le_refl B) bb)
  have LT : Hid (w.heap.size < (w.alloc (.cells #[.slice A1 n1 c1, .slice A2 n2 c2] 25)).heap.size) := Lib.hid (by simp)
  obtain ⟨z, hz⟩ : ∃ z, z = findF x.packs nm := ⟨_, rfl⟩
  have C1 := Lib.hid (rfind_any RB.out (Nat.le_trans hB B0.out.size) nm)
  rw [← hz, hcs] at C1
  have HB : Hid (B ≤ (w.alloc (.cells #[.slice A1 n1 c1, .slice A2 n2 c2] 25)).heap.size) := Lib.hid (Nat.le_trans hB B0.out.size)
  have C2 : Hid (∀ w2, Below (w.alloc (.cells #[.slice A1 n1 c1, .slice A2 n2 c2] 25)).heap.size (w.alloc (.cells #[.slice A1 n1 c1, .slice A2 n2 c2] 25)) w2 → Calls Try.prog 13 #[.agg #[.slice A1 n1 c1, .slice A2 n2 c2], .string nm] w2 (NumsEnd x nm w2)) := Lib.hid (fun w2 hb => by
    have h2 := rc_stays _ _ _ _ _ _ RB.out (Nat.le_refl B) (hb.mono HB.out)
    rw [hcs] at h2
    exact rproviders_any h2 (Nat.le_trans HB.out hb.size) hl nm)
  have R : Hid (virtB x nm = (decide (z < 0) && decide (0 < (provF x.packs nm).length))) := Lib.hid (by rw [hz]; rfl)
  have ZZ : Hid (z = -1 ∨ ∃ i : Nat, i < x.packs.length ∧ z = (i : Int)) := Lib.hid (by
    rcases findG_lt (f := nmB nm) x.packs 0 with h | ⟨i, h1, h2⟩
    · exact .inl (hz.trans h)
    · exact .inr ⟨i, h1, by rw [hz]; unfold findF; rw [h2, Nat.zero_add]⟩)
  rw [hcs]
  clear h s1 s2 bb hB m0 hz
  show Calls Try.prog _ #[.agg #[.slice A1 n1 c1, .slice A2 n2 c2], .string nm] w _
  by_cases hz : z < 0
  · go_enter Try.func17, Try.ntmps17
    go_wp2_with (first
      | (go_at_call 15; refine C1.out.mono ?_; rintro e w1 ⟨rfl, hb1⟩; have HB1 := Lib.hid hb1; have j0 := (hb1.cell (p := ⟨w.heap.size, 0, none⟩) LT.out).trans k0; have j1 := (hb1.cell (p := ⟨w.heap.size, 1, none⟩) LT.out).trans k1; clear hb1)
      | (go_at_call 13; refine (C2.out _ HB1.out).mono ?_; rintro e w2 ⟨A, n, c, rfl, hn, hn2, -, hb2⟩; have BZ := Lib.hid ((B0.out.trans (HB1.out.mono B0.out.size)).trans (hb2.mono (Nat.le_trans B0.out.size HB1.out.size))); have RN := Lib.hid hn; clear hb2 hn hn2))
    go_ret
    refine ⟨?_, BZ.out⟩
    rw [R.out, ← RN.out, decide_eq_true hz]
    simp
  · have R2 : Hid (virtB x nm = false) := Lib.hid (by rw [R.out, decide_eq_false hz]; rfl)
    go_enter Try.func17, Try.ntmps17
    go_wp2_with (go_at_call 15; refine C1.out.mono ?_; rintro e w1 ⟨rfl, hb1⟩; have BZ := Lib.hid (B0.out.trans (hb1.mono B0.out.size)); clear hb1)
    go_ret
    rw [R2.out]
    exact ⟨rfl, BZ.out⟩

end Go.Proofs.Ytccmgaibikiedaa.Dc
