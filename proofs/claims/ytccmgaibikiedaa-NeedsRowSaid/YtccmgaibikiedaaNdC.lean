/- What may be needed: a name is seen. -/
import Derived.Test.YtccmgaibikiedaaNdB
namespace Go.Proofs.Ytccmgaibikiedaa.Dc
open Go.RowKit Go.Maps
set_option linter.unusedVariables false
set_option linter.unusedSimpArgs false
theorem heap_farN (w : World) (q j k : Nat) (u : Value) (h : k ≠ q) : (w.setCell ⟨q, j, none⟩ u).heap[k]? = w.heap[k]? := Below.heap_setCell w ⟨q, j, none⟩ u k h
theorem own_farN {w : World} {base : Nat} {e : TypeId} {size n : Nat} {v : Value} {xs : List Value} (h : w.ownsRow base e size v n xs) (q j : Nat) (u : Value) (hne : v.ownBlock ≠ some q) : (w.setCell ⟨q, j, none⟩ u).ownsRow base e size v n xs :=
  h.kept (row := some q) ⟨rfl, rfl, rfl, by simp, fun k _ hk => heap_farN w q j k u (fun e => hk (by rw [e]))⟩ (.inr hne)
theorem ints_snoc (L : List Int) (t : Int) : intsV (L ++ [t]) = intsV L ++ [.int .i64 t] := by simp
/-- a number more: the map and the row have been written. -/
theorem St.grow {w wr w2 w4 : World} {RC RQ : Array Value} {L : List Int} {A : Option Addr} {n c g cap : Nat} {t : Int} {D : DataW Unit} (hS : St w RC RQ L A n c wr)
    (hm : w2.ownsMap Try.prog 3 (plainElem Try.prog 3) (w.heap.size + 1 + 1) (L ++ [t]).length D) (hh : ∀ z : Int, Maps.has D (.int .i64 z) = decide (z ∈ L ++ [t])) (hg2 : wr.grownBy w2 (some (w.heap.size + 1 + 1)))
    (h4 : w4.ownsRow (w.heap.size + 1 + 1 + 1 + 1 + 1) 3 1 (.slice (some ⟨g, 0, none⟩) (n + 1) cap) (n + 1) (intsV L ++ [.int .i64 t])) (hg4 : (w2.alloc (.cells #[.int .i64 t] 3)).grownBy w4 (Value.slice A n c).ownBlock) :
    w4.heap[w.heap.size + 1 + 1 + 1 + 1]? = some (.cells #[.slice A n c] 31 (0, 0)) ∧ St w RC RQ (L ++ [t]) (some ⟨g, 0, none⟩) (n + 1) cap (w4.setCell ⟨w.heap.size + 1 + 1 + 1 + 1, 0, none⟩ (.slice (some ⟨g, 0, none⟩) (n + 1) cap)) := by
  have hrow : ∀ k, (Value.slice A n c).ownBlock = some k → w.heap.size + 1 + 1 + 1 + 1 + 1 ≤ k ∧ k < wr.heap.size := fun k hk => hS.rw.lt k hk
  have hbr := lt_of_block hS.br
  have keep : ∀ k, k < wr.heap.size → k ≠ (w.heap.size + 1 + 1) → k ≤ w.heap.size + 1 + 1 + 1 + 1 → w4.heap[k]? = wr.heap[k]? := fun k h1 h2 h3 => by
    have hw2 := hg2.size
    rw [hg4.block k (by simp; omega) (fun e => by have := (hrow k e.symm).1; omega), Below.heap_alloc _ _ k (by omega)]
    exact hg2.block k h1 (fun e => h2 (Option.some.inj e))
  have hb4 : w4.heap[w.heap.size + 1 + 1 + 1 + 1]? = some (.cells #[.slice A n c] 31 (0, 0)) := (keep _ hbr (by omega) (Nat.le_refl _)).trans hS.br
  have far : ∀ k, k < wr.heap.size → k ≠ (w.heap.size + 1 + 1) → k < w.heap.size + 1 + 1 + 1 + 1 → (w4.setCell ⟨w.heap.size + 1 + 1 + 1 + 1, 0, none⟩ (.slice (some ⟨g, 0, none⟩) (n + 1) cap)).heap[k]? = wr.heap[k]? := fun k h1 h2 h3 => by
    rw [heap_farN _ _ _ _ _ (by omega)]
    exact keep k h1 h2 (by omega)
  refine ⟨hb4, (far _ (lt_of_block hS.bx) (by omega) (by omega)).trans hS.bx, (far _ (lt_of_block hS.bq) (by omega) (by omega)).trans hS.bq, (far _ (lt_of_block hS.bm) (by omega) (by omega)).trans hS.bm, ⟨D, ?_, hh⟩, blk_set 0 _ hb4, ?_, ?_, ?_⟩
  · exact ((hm.alloc _).kept hg4 (fun e => by have := (hrow _ e.symm).1; omega)).setCell (a := ⟨w.heap.size + 1 + 1 + 1 + 1, 0, none⟩) (by show (w.heap.size + 1 + 1) ≠ w.heap.size + 1 + 1 + 1 + 1; omega) _
  · rw [ints_snoc]
    exact own_farN h4 _ _ _ (fun e => by have := (h4.lt _ e).1; omega)
  · rw [hS.len]; simp
  · have b2 := hS.below.grown hg2 hS.below.size (fun k hk => by cases hk; omega)
    have b3 := b2.alloc b2.size (.cells #[.int .i64 t] 3)
    exact (b3.grown hg4 b3.size (fun k hk => by have := (hrow k hk).1; omega)).setCell (p := ⟨w.heap.size + 1 + 1 + 1 + 1, 0, none⟩) (by show w.heap.size ≤ w.heap.size + 1 + 1 + 1 + 1; omega) _
theorem own_63 {w : World} {B n c k : Nat} {e : TypeId} {A : Option Addr} {xs : List Value} (h : w.ownsRow B e k (.slice A n c) n xs) : (n : Int) ≤ 9223372036854775807 := by
  have h1 := own_max h
  unfold maxLen at h1
  omega
def SeeEnd (w : World) (RC RQ : Array Value) (L : List Int) (e : Ending) (w' : World) : Prop := e = .returned (.tuple #[]) ∧ ∃ A n c, St w RC RQ L A n c w'
/-- the numbers of a name lie elsewhere. -/
def Off (A B : Option Addr) (n c m d : Nat) : Prop := ∀ g, (Value.slice A n c).ownBlock = some g → (Value.slice B m d).ownBlock ≠ some g
set_option maxHeartbeats 8000000 in
set_option maxRecDepth 100000 in
theorem see_any {w W : World} {x : Rc} {RQ : Array Value} {L : List Int} {A A1 A2 : Option Addr} {n c n1 c1 n2 c2 : Nat} (h : rcD w w.heap.size [.slice A1 n1 c1, .slice A2 n2 c2] x) (hl : x.packs.length ≤ 1000) (hS : St w #[.slice A1 n1 c1, .slice A2 n2 c2] RQ L A n c W) (hL : InR x.packs.length L) (nm : ByteArray) :
    Calls Try.prog 69 #[.string nm, .pointer (some ⟨w.heap.size, 0, none⟩), .pointer (some ⟨w.heap.size + 1 + 1 + 1, 0, none⟩), .pointer (some ⟨w.heap.size + 1 + 1 + 1 + 1, 0, none⟩)] W (SeeEnd w #[.slice A1 n1 c1, .slice A2 n2 c2] RQ (seeF x L nm)) := by
  have KK := Lib.hid (int_keyed (P := Try.prog) (k := 3) Try.underlying3)
  obtain ⟨T, hT⟩ : ∃ T, T = tgtF x nm := ⟨_, rfl⟩
  have SF : Hid (seeF x L nm = addAll L T) := Lib.hid (by rw [hT]; rfl)
  have TM : Hid (∀ z ∈ T, 0 ≤ z ∧ z < (x.packs.length : Int)) := Lib.hid (fun z hz => by rw [hT] at hz; exact tgt_mem hz)
  have CT : Hid (Calls Try.prog 27 #[.agg #[.slice A1 n1 c1, .slice A2 n2 c2], .string nm] W (IntsEnd T W)) := Lib.hid (by
    rw [hT]; exact targets_any (rc_stays _ _ _ _ _ _ h (Nat.le_refl _) hS.below) hS.below.size hl nm)
  have k0 := blk_cell (j := 0) hS.bx rfl
  have k1 := blk_cell (j := 1) hS.bx rfl
  have HS := Lib.hid hS
  have HSW := HS
  have HL := Lib.hid hL
  have LN := Lib.hid hl
  obtain ⟨i0, hi0, hz⟩ := Option.map_eq_some_iff.1 info_int
  simp only [Prod.mk.injEq] at hz
  obtain ⟨hz0, hz1, hz2⟩ := hz
  have INF := Lib.hid (And.intro hi0 (And.intro hz0 (And.intro hz1 hz2)))
  clear h hS hL hT hi0 hz0 hz1 hz2 hl
  go_enter Try.func69, Try.ntmps69
  go_wp2_with (go_at_call 27; (with_reducible refine (CT.out).mono ?_); rintro e v1 ⟨TA, tn, tc, rfl, htn, hown, hb⟩; have HTN := Lib.hid htn; have OT0 := Lib.hid hown; have S1 := Lib.hid (HS.out.step hb); have HV : Hid (W.heap.size ≤ v1.heap.size) := Lib.hid hb.size; have tn63 := own_63 hown; clear hb hown htn)
  clear k0 k1
  have OFF0 : Hid (Off A TA n c tn tc) := Lib.hid (fun g hg hg2 => by
    have h1 := (HS.out.rw.lt g hg).2
    have h2 := (OT0.out.lt g hg2).1
    omega)
  go_loopw [6, 7, 8, 13] (fun _ _ _ v wq => ∃ (i : Nat) (A' : Option Addr) (n' c' : Nat), v = .int .i64 i ∧ i ≤ tn ∧ St w #[.slice A1 n1 c1, .slice A2 n2 c2] RQ (addAll L (T.take i)) A' n' c' wq ∧ wq.ownsRow W.heap.size 3 1 (.slice TA tn tc) tn (intsV T) ∧ Off A' TA n' c' tn tc) (fun _ _ _ v _ => tn - (RowKit.intOf v).toNat)
  case atStart => exact ⟨0, A, n, c, rfl, Nat.zero_le _, S1.out, OT0.out, OFF0.out⟩
  case round =>
    obtain ⟨i, A', n', c', rfl, hi, hs, hot, hoff⟩ := hrel
    have HS := Lib.hid hs
    have OT := Lib.hid hot
    have OFF := Lib.hid hoff
    clear hs hot hoff
    by_cases hlt : i < tn
    · have hlt' : (i : Int) < (tn : Int) := by omega
      obtain ⟨g, t, rfl, y0, ht⟩ := own_at OT.out HTN.out hlt
      have TI : Hid (T[i]? = some t) := Lib.hid (by
        have hil : i < T.length := by rw [← HTN.out]; exact hlt
        rw [ht, List.getD_eq_getElem?_getD, List.getElem?_eq_getElem hil]; rfl)
      have NX := Lib.hid (addAll_next (L := L) TI.out)
      have HTB : Hid (0 ≤ t ∧ t < (x.packs.length : Int)) := Lib.hid (TM.out t (List.mem_of_getElem? TI.out))
      have KY : Hid (keyOf Try.prog 3 (.int .i64 t) = some (.int .i64 t)) := Lib.hid (by
        have := HTB.out; have := LN.out
        simp [keyOf, mapKey, Try.underlying3, Lit.wf, IntKind.min, IntKind.max, IntKind.signed, IntKind.bits]; omega)
      obtain ⟨D, hom, hhas⟩ := HS.out.mp
      have OM := Lib.hid hom
      have HAS := Lib.hid hhas
      have IR : Hid (InR x.packs.length (addAll L (T.take i))) := Lib.hid (HL.out.all fun z hz => TM.out z (List.mem_of_mem_take hz))
      have LL : Hid ((addAll L (T.take i)).length ≤ 1000) := Lib.hid (Nat.le_trans (nodup_bound _ _ IR.out) LN.out)
      have NL : Hid (n' = (addAll L (T.take i)).length) := Lib.hid HS.out.len
      have n1000 : (n' : Int) ≤ 1000 := by have := LL.out; have := NL.out; omega
      have b0 := blk_cell (j := 0) HS.out.bm rfl
      have b1 := blk_cell (j := 0) HS.out.br rfl
      clear ht hom hhas
      by_cases hm : t ∈ addAll L (T.take i)
      · have AD : Hid (addAll L (T.take (i + 1)) = addAll L (T.take i)) := Lib.hid (by rw [NX.out]; unfold addT; rw [if_pos hm])
        have HT : Hid (Maps.has D (.int .i64 t) = true) := Lib.hid (by rw [HAS.out, decide_eq_true hm])
        clear hm
        go_wp2_with (at_lookup; refine wpList_lookup_own_ok_int _ rfl _ _ 97 rfl 3 3 .i64 KK.out Try.underlying97 Try.underlying3 (zeroI _) (w.heap.size + 1 + 1) _ D rfl OM.out _ _ rfl KY.out ?_; intro cc hat hwc; rw [HT.out])
        go_roundw
        case rel => exact ⟨i + 1, A', n', c', by go_num, by omega, by rw [AD.out]; exact HS.out, OT.out, OFF.out⟩
        case measure => simp [RowKit.intOf]; omega
      · have AD : Hid (addAll L (T.take (i + 1)) = addAll L (T.take i) ++ [t]) := Lib.hid (by rw [NX.out]; unfold addT; rw [if_neg hm])
        have HT : Hid (Maps.has D (.int .i64 t) = false) := Lib.hid (by rw [HAS.out, decide_eq_false hm])
        have HBR := Lib.hid (lt_of_block HS.out.br)
        clear hm
        go_wp2_with (first
          | (at_lookup; refine wpList_lookup_own_ok_int _ rfl _ _ 97 rfl 3 3 .i64 KK.out Try.underlying97 Try.underlying3 (zeroI _) (w.heap.size + 1 + 1) _ D rfl OM.out _ _ rfl KY.out ?_; intro cc hat hwc; rw [HT.out])
          | (at_mapUpdate; refine wpList_mapUpdate_own _ rfl _ _ _ 97 rfl 3 3 KK.out Try.underlying97 (plainElem Try.prog 3) (w.heap.size + 1 + 1) _ D rfl OM.out (by have := LL.out; unfold maxLen; omega) _ _ _ rfl rfl KY.out _ [] (plainElem_int Try.underlying3 (by simp [Lit.wf, IntKind.min, IntKind.max, IntKind.signed, IntKind.bits]; omega)) ?_; intro w2 hown2 hgr2; have OM2 := Lib.hid hown2; have G2 := Lib.hid hgr2; have c1 := blk_cell (j := 0) ((hgr2.block _ HBR.out (fun e => by have := Option.some.inj e; omega)).trans HS.out.br) rfl; have RW2 := Lib.hid (HS.out.rw.kept hgr2 (.inr (fun e => by have := (HS.out.rw.lt _ e).1; omega))); have Z2 : Hid (wr.heap.size ≤ w2.heap.size) := Lib.hid hgr2.size; clear hown2 hgr2)
          | (at_builtin; refine wpList_append_lies _ rfl (.tmp 29) (.tmp 31) 31 rfl (w.heap.size + 1 + 1 + 1 + 1 + 1) 3 i0 _ 1 8 Try.underlying31 INF.out.1 INF.out.2.1 INF.out.2.2.1 INF.out.2.2.2 rfl (by decide) (.slice A' n' c') n' _ rfl (RW2.out.alloc _) ⟨w2.heap.size, 0, none⟩ 1 1 [.int .i64 t] rfl rfl (cell_one_new _ _ _) ?c1 (by decide) ?c2 ?c3 ?c4 _ rfl ?_))
        case c1 => intro u hu; simp at hu; subst hu; rfl
        case c2 => unfold maxLen; omega
        case c3 => omega
        case c4 => have := HBR.out; have := Z2.out; simp; omega
        intro g4 cap4 w4 hown4 hgr4 hlie hlt4
        obtain ⟨f1, f2⟩ := HS.out.grow (t := t) (by rw [List.length_append]; exact OM2.out) (has_new OM.out.isMap HAS.out) G2.out hown4 hgr4
        have S5 := Lib.hid f2
        have OT5 : Hid ((w4.setCell ⟨w.heap.size + 1 + 1 + 1 + 1, 0, none⟩ (.slice (some ⟨g4, 0, none⟩) (n' + 1) cap4)).ownsRow W.heap.size 3 1 (.slice (some ⟨g, 0, none⟩) tn tc) tn (intsV T)) := Lib.hid (by
          have hgl := OT.out.lt g rfl
          have hbw := lt_of_block HSW.out.br
          have e1 := OT.out.kept G2.out (.inr (fun e => by
            have e' : g = (w.heap.size + 1 + 1) := Option.some.inj e
            omega))
          have e3 := (e1.alloc (.cells #[.int .i64 t] 3)).kept hgr4 (.inr (fun e => OFF.out g e.symm rfl))
          exact own_farN e3 _ _ _ (fun e => by
            have e' : g = w.heap.size + 1 + 1 + 1 + 1 := Option.some.inj e
            omega))
        have OFF5 : Hid (Off (some ⟨g4, 0, none⟩) (some ⟨g, 0, none⟩) (n' + 1) cap4 tn tc) := Lib.hid (fun q hq1 hq2 => by
          have e1 : g4 = q := Option.some.inj hq1
          have e2 : g = q := Option.some.inj hq2
          rcases hlie with h | h
          · exact OFF.out g4 h (by show some g = some g4; rw [e1, e2])
          · have := (OT.out.lt g rfl).2
            have := Z2.out
            have h2 : w2.heap.size ≤ g4 := by first | (rw [World.size_alloc] at h; omega) | omega | (rw [h]; simp)
            omega)
        have q0 := blk_cell (j := 0) f1 rfl
        have q1 := blk_free 0 f1
        clear f1 f2 hown4 hgr4 hlie hlt4
        go_wp2_with fail
        go_roundw
        case rel => exact ⟨i + 1, _, _, _, by go_num, by omega, by rw [AD.out]; exact S5.out, OT5.out, OFF5.out⟩
        case measure => simp [RowKit.intOf]; omega
    · have TT : Hid (addAll L (T.take i) = seeF x L nm) := Lib.hid (by rw [SF.out, take_all (by have := HTN.out; omega)])
      go_wp2_with fail
      refine bodyPost_ret (results_none rfl _ _ _) rfl ?_
      refine ⟨rfl, A', n', c', ?_⟩
      rw [← TT.out]
      exact HS.out

end Go.Proofs.Ytccmgaibikiedaa.Dc
