/- Lines of words: the document's answer, a text's lines. -/
import Derived.Test.YtlgakejjakeomaaDoorLxK
namespace Go.Proofs.YtlgakejjakeomaaDoor.Lx
set_option linter.unusedVariables false
set_option linter.unusedSimpArgs false
open Go.RowKit
theorem fin4 {W : World} {b : Nat} {t : TypeId} {y0 y1 y2 y3 : Value} (hr : W.heap[b]? = some (.cells #[y0, y1, y2, y3] t (0, 0))) (x0 x1 x2 x3 : Value) {W' : World} (hW : (((W.setCell ⟨b, 0, none⟩ x0).setCell ⟨b, 1, none⟩ x1).setCell ⟨b, 2, none⟩ x2).setCell ⟨b, 3, none⟩ x3 = W') :
    W'.cell? ⟨b, 0, none⟩ = some x0 ∧ W'.cell? ⟨b, 1, none⟩ = some x1 ∧ W'.cell? ⟨b, 2, none⟩ = some x2 ∧ W'.cell? ⟨b, 3, none⟩ = some x3 ∧ Below b W W' ∧ (∀ A n c ls VS, RowsL (b + 2) A n c ls VS W → RowsL b A n c ls VS W') := by
  subst hW
  have h := blk_set 3 x3 (blk_set 2 x2 (blk_set 1 x1 (blk_set 0 x0 hr)))
  refine ⟨blk_cell (j := 0) h rfl, blk_cell (j := 1) h rfl, blk_cell (j := 2) h rfl, blk_cell (j := 3) h rfl, ?_, fun A n c ls VS hR => ?_⟩
  · exact ((((Below.refl b W).setCell (p := ⟨b, 0, none⟩) (Nat.le_refl _) x0).setCell (p := ⟨b, 1, none⟩) (Nat.le_refl _) x1).setCell (p := ⟨b, 2, none⟩) (Nat.le_refl _) x2).setCell (p := ⟨b, 3, none⟩) (Nat.le_refl _) x3
  · exact ((((hR.box (grown_set _ ⟨b, 0, none⟩ x0) (show b < b + 2 by omega)).box (grown_set _ ⟨b, 1, none⟩ x1) (show b < b + 2 by omega)).box (grown_set _ ⟨b, 2, none⟩ x2) (show b < b + 2 by omega)).box (grown_set _ ⟨b, 3, none⟩ x3) (show b < b + 2 by omega)).low (by omega)
structure RK (w : World) (A : Option Addr) (n c : Nat) (ls : List LnT) (W : World) : Prop where
  r : W.heap[w.heap.size]? = some (.cells #[.slice none 0 0, .int .i64 0, .int .i64 0, .int .i64 0] 30 (0, 0))
  o : W.heap[w.heap.size + 1]? = some (.cells #[.slice A n c, .int .i64 0, .int .i64 0, .int .i64 0] 30 (0, 0))
  rows : ∃ VS, RowsL (w.heap.size + 2) A n c ls VS W
  below : Below w.heap.size w W
  sz : w.heap.size + 2 ≤ W.heap.size
theorem RK.on {w W W' : World} {A : Option Addr} {n c : Nat} {ls : List LnT} (h : RK w A n c ls W) (hb : Below W.heap.size W W') : RK w A n c ls W' := by
  have hs := h.sz
  obtain ⟨VS, hr⟩ := h.rows
  exact ⟨(hb.block _ (by omega)).trans h.r, (hb.block _ (by omega)).trans h.o, ⟨VS, hr.below hb⟩, h.below.trans (hb.mono h.below.size), Nat.le_trans h.sz hb.size⟩
/-- a line is laid behind the others. -/
theorem good15R {w W4 w2 : World} {k : Nat} {ls : List LnT} {A A4 : Option Addr} {n cp n4 c4 B4 g2 cap2 : Nat} {VS : List Value} {ws : List WdT} (hb : RK w A n cp ls W4) (hr : RowsL (w.heap.size + 2) A n cp ls VS W4)
    (hw : W4.ownsRow B4 51 2 (.slice A4 n4 c4) n4 (flatT ws)) (hB : w.heap.size + 2 ≤ B4) (hn : n4 = ws.length)
    (hown : w2.ownsRow (w.heap.size + 2) 37 2 (.slice (some ⟨g2, 0, none⟩) (n + 1) cap2) (n + 1) (VS ++ [.int .i64 (k : Nat), .slice A4 n4 c4])) (hgr : (W4.alloc (.cells #[.int .i64 (k : Nat), .slice A4 n4 c4] 37)).grownBy w2 (Value.slice A n cp).ownBlock) :
    w2.cell? ⟨w.heap.size + 1, 0, none⟩ = some (.slice A n cp) ∧ w2.frozen? ⟨w.heap.size + 1, 0, none⟩ = false ∧
      RK w (some ⟨g2, 0, none⟩) (n + 1) cap2 (ls ++ [(k, ws)]) (w2.setCell ⟨w.heap.size + 1, 0, none⟩ (.slice (some ⟨g2, 0, none⟩) (n + 1) cap2)) := by
  have hs := hb.sz
  have hob := own_blk hr.own
  have hR := RowsL.add hr (own_low hw hB) hn hown hgr
  have hg := grown_of_alloc hgr
  have kb : ∀ j, j < w.heap.size + 2 → w2.heap[j]? = W4.heap[j]? := fun j hj => hg.block j (by omega) (by
    rcases hob with h0 | ⟨g, h0, h1⟩
    · rw [h0]; simp
    · rw [h0]; simp; omega)
  have h3 := (kb (w.heap.size + 1) (by omega)).trans hb.o
  have hbel : Below w.heap.size w w2 := hb.below.grown hg hb.below.size (fun j e => by
    rcases hob with h0 | ⟨g, h0, h1⟩
    · rw [h0] at e; cases e
    · rw [h0] at e; injection e with e; omega)
  have hg2 := grown_set w2 ⟨w.heap.size + 1, 0, none⟩ (.slice (some ⟨g2, 0, none⟩) (n + 1) cap2)
  exact ⟨blk_cell h3 rfl, blk_free 0 h3, (Below.heap_setCell _ _ _ _ (by show _ ≠ w.heap.size + 1; omega)).trans ((kb _ (by omega)).trans hb.r), blk_set 0 _ h3, ⟨_, hR.box hg2 (show w.heap.size + 1 < w.heap.size + 2 by omega)⟩,
    hbel.grown hg2 hbel.size (fun j e => by cases e; show _ ≤ w.heap.size + 1; omega), Nat.le_trans (Nat.le_trans hs hg.size) hg2.size⟩
def LRefEnd (s : ByteArray) (w : World) (e : Ending) (w' : World) : Prop :=
  ∃ A n c VS, e = .returned (.agg #[.slice A n c, .int .i64 ((linesF s.data.toList).2.1.1 : Nat), .int .i64 ((linesF s.data.toList).2.1.2 : Nat), .int .i64 ((linesF s.data.toList).2.2 : Nat)]) ∧ RowsL w.heap.size A n c (linesF s.data.toList).1 VS w' ∧ Below w.heap.size w w'
theorem take_more {l : Bs} {fr i : Nat} {c : UInt8} (h : 10 ∉ (l.drop fr).take (i - fr)) (hf : fr ≤ i) (hi : l[i]? = some c) (hc : c ≠ 10) : 10 ∉ (l.drop fr).take (i + 1 - fr) := by
  have e : i + 1 - fr = (i - fr) + 1 := by omega
  rw [e, List.take_add_one, List.getElem?_drop, show fr + (i - fr) = i by omega, hi]
  simp only [Option.toList, List.mem_append, List.mem_singleton, not_or]
  exact ⟨h, fun e => hc e.symm⟩
set_option maxRecDepth 100000 in
set_option maxHeartbeats 4000000 in
theorem reflines_big (s : ByteArray) (w : World) (h2 : 65536 < s.size) (hm : s.size ≤ maxLen) :
    Calls Tryd.prog 9 #[.string s] w (LRefEnd s w) := by
  have h2' : (65536 : Int) < (s.size : Int) := by omega
  have LF : Hid (linesF s.data.toList = ([], (0, 0), 4)) := Lib.hid (by unfold linesF; rw [if_pos (by rw [← size_l]; omega)])
  unfold maxLen at hm
  go_enter Tryd.func9, Tryd.ntmps9
  go_wp2_with fail
  exact bodyPost_ret (v := .agg #[.slice none 0 0, .int .i64 0, .int .i64 0, .int .i64 4]) (by simp [results, Tryd.results9, go_sem]) rfl ⟨none, 0, 0, [], by rw [LF.out]; rfl, by rw [LF.out]; exact RowsL.nil _ _, ((Below.refl _ w).alloc (Nat.le_refl _) _).alloc (by simp) _⟩
set_option maxRecDepth 100000 in
set_option maxHeartbeats 20000000 in
theorem reflines_small (s : ByteArray) (w : World) (h2 : s.size ≤ 65536) :
    Calls Tryd.prog 9 #[.string s] w (LRefEnd s w) := by
  have h2' : (s.size : Int) ≤ 65536 := by omega
  have e1 : decide ((s.size : Int) > 65536) = false := decide_eq_false (by omega)
  obtain ⟨W, hW⟩ : ∃ W, W = runL (cutAt 10 s.data.toList) 0 [] := ⟨_, rfl⟩
  have LF : Hid (linesF s.data.toList = W) := Lib.hid (by rw [hW]; unfold linesF; rw [if_neg (by rw [← size_l]; omega)])
  have HW := Lib.hid hW
  have HS := Lib.hid h2
  clear hW h2
  go_enter Tryd.func9, Tryd.ntmps9
  go_wp2_with fail
  go_loopw [4, 5, 6, 7, 8, 9] (fun nv fv v _ _ _ wr => ∃ (i fr k : Nat) (ls : List LnT) (A : Option Addr) (n c : Nat), v = .int .i64 i ∧ fv = .int .i64 fr ∧ nv = .int .i64 ((k : Int) + 1) ∧ k ≤ i ∧ ls.length ≤ 2000 ∧ RK w A n c ls wr ∧
      ((i ≤ s.size ∧ fr ≤ i ∧ 10 ∉ (s.data.toList.drop fr).take (i - fr) ∧ W = runL (cutAt 10 (s.data.toList.drop fr)) k ls) ∨ (i = s.size + 1 ∧ W = (ls, (0, 0), 0)))) (fun _ _ v _ _ _ _ => s.size + 1 - (intOf v).toNat)
  case atStart =>
    have hb1 := ((Below.refl w.heap.size w).alloc (Nat.le_refl _) (.cells #[.slice none 0 0, .int .i64 0, .int .i64 0, .int .i64 0] 30)).alloc (by simp) (.cells #[.slice none 0 0, .int .i64 0, .int .i64 0, .int .i64 0] 30)
    have hb2 := heap_alloc_new (w.alloc (.cells #[.slice none 0 0, .int .i64 0, .int .i64 0, .int .i64 0] 30)) (.cells #[.slice none 0 0, .int .i64 0, .int .i64 0, .int .i64 0] 30)
    rw [World.size_alloc] at hb2
    exact ⟨0, 0, 0, [], none, 0, 0, rfl, rfl, rfl, Nat.le_refl _, by simp, ⟨(Below.heap_alloc _ _ _ (by simp)).trans (heap_alloc_new w _), hb2, ⟨[], RowsL.nil _ _⟩, hb1, by simp⟩, .inl ⟨Nat.zero_le _, Nat.le_refl _, by simp, by rw [HW.out]; rfl⟩⟩
  case round =>
    obtain ⟨i, fr, k, ls, A, n, c, rfl, rfl, rfl, hki, hls, hk, hcase⟩ := hrel
    have KK := Lib.hid hk
    have hr := hk.r
    have ho := hk.o
    have NL : Hid (n = ls.length) := Lib.hid (by obtain ⟨VS, hR⟩ := hk.rows; exact hR.len)
    have LS := Lib.hid hls
    have KI := Lib.hid hki
    clear hk hls hki
    rcases hcase with ⟨hi, hfr, hno, hrun⟩ | ⟨hi, hrun⟩
    · have NO := Lib.hid hno
      have RUN := Lib.hid hrun
      clear hno hrun
      have i5 : (i : Int) ≤ (s.size : Int) := by omega
      have i6 : (i : Int) ≤ 70000 := by omega
      have k5 : (k : Int) ≤ 70000 := by have := KI.out; omega
      by_cases hgo : ∃ h : i < s.size, s[i].toNat ≠ 10
      · obtain ⟨hlt, h10⟩ := hgo
        have hlt' : (i : Int) < (s.size : Int) := by omega
        have h10' : ((s[i].toNat : Int) != 10) = true := by rw [bne_iff_ne]; omega
        have NX : Hid (10 ∉ (s.data.toList.drop fr).take (i + 1 - fr)) := Lib.hid (take_more NO.out hfr (c := s[i]) (by rw [List.getElem?_eq_getElem (by rw [← size_l]; exact hlt)]; rfl) (fun e => h10 (by rw [e]; rfl)))
        clear hr ho h10
        go_wp2_with fail
        go_roundw
        case rel => exact ⟨i + 1, fr, k, ls, A, n, c, by go_num, rfl, rfl, by have := KI.out; omega, LS.out, KK.out, .inl ⟨by omega, by omega, NX.out, RUN.out⟩⟩
        case measure => simp [intOf]; omega
      · have hstop : ∀ h : i < s.size, s[i].toNat = 10 := fun h => Classical.not_not.1 (fun hn => hgo ⟨h, hn⟩)
        clear hgo
        obtain ⟨rest, hcut, hrest⟩ : ∃ rest, cutAt 10 (s.data.toList.drop fr) = (s.extract fr i).data.toList :: rest ∧ ((i = s.size ∧ rest = []) ∨ (i < s.size ∧ rest = cutAt 10 (s.data.toList.drop (i + 1)))) := by
          rw [ext_list]
          by_cases hlt : i < s.size
          · refine ⟨_, ?_, .inr ⟨hlt, rfl⟩⟩
            have e : s.data.toList.drop fr = (s.data.toList.drop fr).take (i - fr) ++ 10 :: s.data.toList.drop (i + 1) := by
              conv => lhs; rw [← List.take_append_drop (i - fr) (s.data.toList.drop fr)]
              rw [List.drop_drop, show fr + (i - fr) = i by omega, drop_ba s i hlt]
              congr 2
              exact UInt8.toNat.inj (hstop hlt)
            conv => lhs; rw [e]
            exact cut_at 10 _ _ NO.out
          · have hz : i = s.size := by omega
            refine ⟨[], ?_, .inl ⟨hz, rfl⟩⟩
            have e : (s.data.toList.drop fr).take (i - fr) = s.data.toList.drop fr := List.take_of_length_le (by rw [List.length_drop, ← size_l]; omega)
            rw [e]
            exact cut_none 10 _ (by rw [← e]; exact NO.out)
        obtain ⟨at', hat⟩ : ∃ a, a = (wordsF (if ls.length = 2000 then 0 else 40) (s.extract fr i).data.toList).2.1 := ⟨_, rfl⟩
        obtain ⟨er, her⟩ : ∃ a, a = (wordsF (if ls.length = 2000 then 0 else 40) (s.extract fr i).data.toList).2.2 := ⟨_, rfl⟩
        obtain ⟨ws, hws⟩ : ∃ a, a = (wordsF (if ls.length = 2000 then 0 else 40) (s.extract fr i).data.toList).1 := ⟨_, rfl⟩
        have RUN2 : Hid ((er = 0 → W = runL rest (k + 1) (if ws = [] then ls else ls ++ [(k + 1, ws)])) ∧ (er ≠ 0 → W = ([], (k + 1, at'), er))) := Lib.hid (by
          have h := RUN.out
          rw [hcut, runL, ← hat, ← her, ← hws] at h
          exact ⟨fun h0 => by rw [h, if_pos h0], fun h0 => by rw [h, if_neg h0]⟩)
        obtain ⟨room, hroom⟩ : ∃ room, decide ((n : Int) < 2000) = room := ⟨_, rfl⟩
        have P0 : Hid (LineC (s.extract fr i) room at' er ws wr.drew) := Lib.hid (by
          have h := ref_f (s.extract fr i) room wr.drew (by rw [size_l, ext_list, List.length_take, List.length_drop, ← size_l]; have := HS.out; omega)
          have e : (if room = true then 40 else 0) = (if ls.length = 2000 then 0 else 40) := by
            rw [← hroom, NL.out]
            by_cases h5 : ls.length = 2000
            · rw [h5]; rfl
            · rw [if_neg h5, if_pos (decide_eq_true (by have := LS.out; omega))]
          rw [e, ← hat, ← her, ← hws] at h
          exact h)
        have WE : Hid (ls.length = 2000 → er = 0 → ws = []) := Lib.hid (fun h1 h2 => by rw [hws, if_pos h1]; exact wordsF_zero _)
        have WL : Hid (ws.length ≤ 70000) := Lib.hid (by
          have := wordsF_len (if ls.length = 2000 then 0 else 40) (s.extract fr i).data.toList
          rw [← hws, ext_list, List.length_take, List.length_drop, ← size_l] at this
          have := HS.out; omega)
        have HR := Lib.hid hrest
        have hc3 : wr.cell? ⟨w.heap.size + 1, 0, none⟩ = some (.slice A n c) := blk_cell ho rfl
        have STOP := Lib.hid hstop
        have HFR := Lib.hid hfr
        have HSZ : Hid (s.size ≤ 100000) := Lib.hid (by have := HS.out; omega)
        have HI := Lib.hid hi
        clear hat her hws hcut hrest hr ho hstop RUN
        by_cases hlt : i < s.size
        · have hlt' : (i : Int) < (s.size : Int) := by omega
          have h10 : (s[i].toNat : Int) = 10 := by have := STOP.out hlt; omega
          have h10' : ((s[i].toNat : Int) != 10) = false := by rw [h10]; rfl
          go_wp2_with fail
          refine reg11 HSZ.out HFR.out HI.out hc3 hroom P0.out ?_
          intro W4 A4 n4 c4 hb4 hw4
          have K4 := Lib.hid (KK.out.on hb4)
          have hr4 := K4.out.r
          have ho4 := K4.out.o
          have HB4 := Lib.hid hb4
          have HW4 := Lib.hid hw4
          clear hb4 hw4 P0
          by_cases he : er = 0
          · have heq : ((er : Int) != 0) = false := by rw [he]; rfl
            have RZ := Lib.hid (RUN2.out.1 he)
            have WZ := Lib.hid (fun h => WE.out h he)
            obtain ⟨hn4, hown4⟩ := HW4.out he
            have N4 := Lib.hid hn4
            have OW4 := Lib.hid hown4
            clear hn4 hown4 RUN2 he
            by_cases h4 : n4 = 0
            · subst h4
              have hz0 : Hid (ws = []) := Lib.hid (List.eq_nil_of_length_eq_zero N4.out.symm)
              clear hr4 ho4
              go_wp2_with fail
              go_roundw
              case rel => exact ⟨i + 1, i + 1, k + 1, ls, A, n, c, by go_num, by go_num, by go_num, by have := KI.out; omega, LS.out, K4.out, .inl ⟨by omega, Nat.le_refl _, by simp, by rcases HR.out with ⟨h, _⟩ | ⟨_, h⟩; omega; rw [RZ.out, h, if_pos hz0.out]⟩⟩
              case measure => simp [intOf]; omega
            · have h4p : (0 : Int) < (n4 : Int) := by omega
              have hz0 : Hid (ws ≠ []) := Lib.hid (fun e => h4 (by rw [N4.out, e]; rfl))
              have L2 : Hid (ls.length < 2000) := Lib.hid (by
                rcases Nat.lt_or_ge ls.length 2000 with h | h
                · exact h
                · exact absurd (WZ.out (by have := LS.out; omega)) hz0.out)
              obtain ⟨VS, hR4⟩ := K4.out.rows
              obtain ⟨i0, hi0, hz⟩ := Option.map_eq_some_iff.1 (show (Tryd.prog.info? 37).map (fun i => (i.zero, i.size, i.bytes)) = some (some (.agg #[.int .i64 0, .slice none 0 0]), 2, 32) by kernel_rfl)
              simp only [Prod.mk.injEq] at hz
              obtain ⟨hz0', hz1, hz2⟩ := hz
              have OA : Hid ((W4.alloc (.cells #[.int .i64 ((k : Int) + 1), .slice A4 n4 c4] 37)).ownsRow (w.heap.size + 2) 37 2 (.slice A n c) n VS) := Lib.hid (hR4.own.alloc _)
              have NEWS : Hid (∀ j u, [Value.int .i64 ((k : Int) + 1), .slice A4 n4 c4][j]? = some u → (W4.alloc (.cells #[.int .i64 ((k : Int) + 1), .slice A4 n4 c4] 37)).cell? ((⟨W4.heap.size, 0, none⟩ : Addr).add j) = some u) := Lib.hid (World.news_of_block (heap_alloc_new W4 _))
              have ONE : Hid (∀ u ∈ [Value.int .i64 ((k : Int) + 1), .slice A4 n4 c4], u.oneCell' = true) := Lib.hid (by intro u hu; simp at hu; rcases hu with rfl | rfl <;> rfl)
              have H63 : Hid (n + 1 ≤ maxLen) := Lib.hid (by unfold maxLen; have := NL.out; have := L2.out; omega)
              have HBY : Hid ((n + 1) * 32 ≤ 140737488355328) := Lib.hid (by have := NL.out; have := L2.out; omega)
              have SZ : Hid (w.heap.size + 2 ≤ (W4.alloc (.cells #[.int .i64 ((k : Int) + 1), .slice A4 n4 c4] 37)).heap.size) := Lib.hid (by have := K4.out.sz; simp; omega)
              have q0 : W4.cell? ⟨w.heap.size + 1, 0, none⟩ = some (.slice A n c) := blk_cell ho4 rfl
              have GOOD := Lib.hid (fun g2 cap2 w2 h1 h2 => good15R (w := w) (k := k + 1) K4.out hR4 OW4.out KK.out.sz N4.out (g2 := g2) (cap2 := cap2) (w2 := w2) h1 h2)
              clear hR4 hr4 ho4 h4
              go_wp2_with (at_builtin; refine wpList_append_own _ (by rfl) (.tmp 56) (.tmp 60) 23 (by rfl) (w.heap.size + 2) 37 i0 _ 2 32 Tryd.underlying23 hi0 hz0' hz1 hz2 (by rfl) (by decide) (.slice A n c) n VS (by rfl) OA.out ⟨W4.heap.size, 0, none⟩ 1 1 [.int .i64 ((k : Int) + 1), .slice A4 n4 c4] (by rfl) (by rfl) NEWS.out ONE.out H63.out HBY.out SZ.out ?_; intro v2 w2 hown2 hgrow hnil; obtain ⟨g, cap, hv2, -, -, -⟩ := owned_shape hown2 (Nat.succ_pos n); subst hv2; obtain ⟨dc, df, KE⟩ := GOOD.out _ _ _ hown2 hgrow; have K5 := Lib.hid KE; clear KE hown2 hgrow hnil)
              go_roundw
              case rel => exact ⟨i + 1, i + 1, k + 1, ls ++ [(k + 1, ws)], some ⟨g, 0, none⟩, n + 1, cap, by go_num, by go_num, by go_num, by have := KI.out; omega, by have := L2.out; simp; omega, K5.out, .inl ⟨by omega, Nat.le_refl _, by simp, by rcases HR.out with ⟨h, _⟩ | ⟨_, h⟩; omega; rw [RZ.out, h, if_neg hz0.out]⟩⟩
              case measure => simp [intOf]; omega
          · have heq : ((er : Int) != 0) = true := by rw [bne_iff_ne]; omega
            have RZ := Lib.hid (RUN2.out.2 he)
            have d0 : W4.cell? ⟨w.heap.size, 0, none⟩ = some (.slice none 0 0) := blk_cell hr4 rfl
            have d1 : W4.cell? ⟨w.heap.size, 1, none⟩ = some (.int .i64 0) := blk_cell hr4 rfl
            have d2 : W4.cell? ⟨w.heap.size, 2, none⟩ = some (.int .i64 0) := blk_cell hr4 rfl
            have d3 : W4.cell? ⟨w.heap.size, 3, none⟩ = some (.int .i64 0) := blk_cell hr4 rfl
            have f0 : W4.frozen? ⟨w.heap.size, 0, none⟩ = false := blk_free 0 hr4
            have f1 : W4.frozen? ⟨w.heap.size, 1, none⟩ = false := blk_free 1 hr4
            have f2 : W4.frozen? ⟨w.heap.size, 2, none⟩ = false := blk_free 2 hr4
            have f3 : W4.frozen? ⟨w.heap.size, 3, none⟩ = false := blk_free 3 hr4
            have FN := Lib.hid (fun W' h => fin4 hr4 (.slice none 0 0) (.int .i64 ((k : Int) + 1)) (.int .i64 at') (.int .i64 er) (W' := W') h)
            clear hr4 ho4 RUN2 he
            go_wp2_with fail
            try simp only [Exit.inBlock, Exit.then]
            obtain ⟨c0, c1, c2, c3, hbel, hrow⟩ := FN.out _ rfl
            refine bodyPost_ret (v := .agg #[.slice none 0 0, .int .i64 ((k : Int) + 1), .int .i64 at', .int .i64 er]) (by simp [results, Tryd.results9, go_sem, c0, c1, c2, c3]) rfl ?_
            exact ⟨none, 0, 0, [], by rw [LF.out, RZ.out]; simp, by rw [LF.out, RZ.out]; exact RowsL.nil _ _, K4.out.below.trans hbel⟩
        · have hlt' : ¬ ((i : Int) < (s.size : Int)) := by omega
          go_wp2_with fail
          refine reg11 HSZ.out HFR.out HI.out hc3 hroom P0.out ?_
          intro W4 A4 n4 c4 hb4 hw4
          have K4 := Lib.hid (KK.out.on hb4)
          have hr4 := K4.out.r
          have ho4 := K4.out.o
          have HB4 := Lib.hid hb4
          have HW4 := Lib.hid hw4
          clear hb4 hw4 P0
          by_cases he : er = 0
          · have heq : ((er : Int) != 0) = false := by rw [he]; rfl
            have RZ := Lib.hid (RUN2.out.1 he)
            have WZ := Lib.hid (fun h => WE.out h he)
            obtain ⟨hn4, hown4⟩ := HW4.out he
            have N4 := Lib.hid hn4
            have OW4 := Lib.hid hown4
            clear hn4 hown4 RUN2 he
            by_cases h4 : n4 = 0
            · subst h4
              have hz0 : Hid (ws = []) := Lib.hid (List.eq_nil_of_length_eq_zero N4.out.symm)
              clear hr4 ho4
              go_wp2_with fail
              go_roundw
              case rel => exact ⟨i + 1, i + 1, k + 1, ls, A, n, c, by go_num, by go_num, by go_num, by have := KI.out; omega, LS.out, K4.out, .inr ⟨by omega, by rcases HR.out with ⟨_, h⟩ | ⟨h, _⟩; rw [RZ.out, h, if_pos hz0.out]; rfl; omega⟩⟩
              case measure => simp [intOf]; omega
            · have h4p : (0 : Int) < (n4 : Int) := by omega
              have hz0 : Hid (ws ≠ []) := Lib.hid (fun e => h4 (by rw [N4.out, e]; rfl))
              have L2 : Hid (ls.length < 2000) := Lib.hid (by
                rcases Nat.lt_or_ge ls.length 2000 with h | h
                · exact h
                · exact absurd (WZ.out (by have := LS.out; omega)) hz0.out)
              obtain ⟨VS, hR4⟩ := K4.out.rows
              obtain ⟨i0, hi0, hz⟩ := Option.map_eq_some_iff.1 (show (Tryd.prog.info? 37).map (fun i => (i.zero, i.size, i.bytes)) = some (some (.agg #[.int .i64 0, .slice none 0 0]), 2, 32) by kernel_rfl)
              simp only [Prod.mk.injEq] at hz
              obtain ⟨hz0', hz1, hz2⟩ := hz
              have OA : Hid ((W4.alloc (.cells #[.int .i64 ((k : Int) + 1), .slice A4 n4 c4] 37)).ownsRow (w.heap.size + 2) 37 2 (.slice A n c) n VS) := Lib.hid (hR4.own.alloc _)
              have NEWS : Hid (∀ j u, [Value.int .i64 ((k : Int) + 1), .slice A4 n4 c4][j]? = some u → (W4.alloc (.cells #[.int .i64 ((k : Int) + 1), .slice A4 n4 c4] 37)).cell? ((⟨W4.heap.size, 0, none⟩ : Addr).add j) = some u) := Lib.hid (World.news_of_block (heap_alloc_new W4 _))
              have ONE : Hid (∀ u ∈ [Value.int .i64 ((k : Int) + 1), .slice A4 n4 c4], u.oneCell' = true) := Lib.hid (by intro u hu; simp at hu; rcases hu with rfl | rfl <;> rfl)
              have H63 : Hid (n + 1 ≤ maxLen) := Lib.hid (by unfold maxLen; have := NL.out; have := L2.out; omega)
              have HBY : Hid ((n + 1) * 32 ≤ 140737488355328) := Lib.hid (by have := NL.out; have := L2.out; omega)
              have SZ : Hid (w.heap.size + 2 ≤ (W4.alloc (.cells #[.int .i64 ((k : Int) + 1), .slice A4 n4 c4] 37)).heap.size) := Lib.hid (by have := K4.out.sz; simp; omega)
              have q0 : W4.cell? ⟨w.heap.size + 1, 0, none⟩ = some (.slice A n c) := blk_cell ho4 rfl
              have GOOD := Lib.hid (fun g2 cap2 w2 h1 h2 => good15R (w := w) (k := k + 1) K4.out hR4 OW4.out KK.out.sz N4.out (g2 := g2) (cap2 := cap2) (w2 := w2) h1 h2)
              clear hR4 hr4 ho4 h4
              go_wp2_with (at_builtin; refine wpList_append_own _ (by rfl) (.tmp 56) (.tmp 60) 23 (by rfl) (w.heap.size + 2) 37 i0 _ 2 32 Tryd.underlying23 hi0 hz0' hz1 hz2 (by rfl) (by decide) (.slice A n c) n VS (by rfl) OA.out ⟨W4.heap.size, 0, none⟩ 1 1 [.int .i64 ((k : Int) + 1), .slice A4 n4 c4] (by rfl) (by rfl) NEWS.out ONE.out H63.out HBY.out SZ.out ?_; intro v2 w2 hown2 hgrow hnil; obtain ⟨g, cap, hv2, -, -, -⟩ := owned_shape hown2 (Nat.succ_pos n); subst hv2; obtain ⟨dc, df, KE⟩ := GOOD.out _ _ _ hown2 hgrow; have K5 := Lib.hid KE; clear KE hown2 hgrow hnil)
              go_roundw
              case rel => exact ⟨i + 1, i + 1, k + 1, ls ++ [(k + 1, ws)], some ⟨g, 0, none⟩, n + 1, cap, by go_num, by go_num, by go_num, by have := KI.out; omega, by have := L2.out; simp; omega, K5.out, .inr ⟨by omega, by rcases HR.out with ⟨_, h⟩ | ⟨h, _⟩; rw [RZ.out, h, if_neg hz0.out]; rfl; omega⟩⟩
              case measure => simp [intOf]; omega
          · have heq : ((er : Int) != 0) = true := by rw [bne_iff_ne]; omega
            have RZ := Lib.hid (RUN2.out.2 he)
            have d0 : W4.cell? ⟨w.heap.size, 0, none⟩ = some (.slice none 0 0) := blk_cell hr4 rfl
            have d1 : W4.cell? ⟨w.heap.size, 1, none⟩ = some (.int .i64 0) := blk_cell hr4 rfl
            have d2 : W4.cell? ⟨w.heap.size, 2, none⟩ = some (.int .i64 0) := blk_cell hr4 rfl
            have d3 : W4.cell? ⟨w.heap.size, 3, none⟩ = some (.int .i64 0) := blk_cell hr4 rfl
            have f0 : W4.frozen? ⟨w.heap.size, 0, none⟩ = false := blk_free 0 hr4
            have f1 : W4.frozen? ⟨w.heap.size, 1, none⟩ = false := blk_free 1 hr4
            have f2 : W4.frozen? ⟨w.heap.size, 2, none⟩ = false := blk_free 2 hr4
            have f3 : W4.frozen? ⟨w.heap.size, 3, none⟩ = false := blk_free 3 hr4
            have FN := Lib.hid (fun W' h => fin4 hr4 (.slice none 0 0) (.int .i64 ((k : Int) + 1)) (.int .i64 at') (.int .i64 er) (W' := W') h)
            clear hr4 ho4 RUN2 he
            go_wp2_with fail
            try simp only [Exit.inBlock, Exit.then]
            obtain ⟨c0, c1, c2, c3, hbel, hrow⟩ := FN.out _ rfl
            refine bodyPost_ret (v := .agg #[.slice none 0 0, .int .i64 ((k : Int) + 1), .int .i64 at', .int .i64 er]) (by simp [results, Tryd.results9, go_sem, c0, c1, c2, c3]) rfl ?_
            exact ⟨none, 0, 0, [], by rw [LF.out, RZ.out]; simp, by rw [LF.out, RZ.out]; exact RowsL.nil _ _, K4.out.below.trans hbel⟩
    · have hgt : ¬ ((i : Int) ≤ (s.size : Int)) := by omega
      have q0 : wr.cell? ⟨w.heap.size + 1, 0, none⟩ = some (.slice A n c) := blk_cell ho rfl
      have q1 : wr.cell? ⟨w.heap.size + 1, 1, none⟩ = some (.int .i64 0) := blk_cell ho rfl
      have q2 : wr.cell? ⟨w.heap.size + 1, 2, none⟩ = some (.int .i64 0) := blk_cell ho rfl
      have q3 : wr.cell? ⟨w.heap.size + 1, 3, none⟩ = some (.int .i64 0) := blk_cell ho rfl
      have d0 : wr.cell? ⟨w.heap.size, 0, none⟩ = some (.slice none 0 0) := blk_cell hr rfl
      have d1 : wr.cell? ⟨w.heap.size, 1, none⟩ = some (.int .i64 0) := blk_cell hr rfl
      have d2 : wr.cell? ⟨w.heap.size, 2, none⟩ = some (.int .i64 0) := blk_cell hr rfl
      have d3 : wr.cell? ⟨w.heap.size, 3, none⟩ = some (.int .i64 0) := blk_cell hr rfl
      have f0 : wr.frozen? ⟨w.heap.size, 0, none⟩ = false := blk_free 0 hr
      have f1 : wr.frozen? ⟨w.heap.size, 1, none⟩ = false := blk_free 1 hr
      have f2 : wr.frozen? ⟨w.heap.size, 2, none⟩ = false := blk_free 2 hr
      have f3 : wr.frozen? ⟨w.heap.size, 3, none⟩ = false := blk_free 3 hr
      have FN := Lib.hid (fun W' h => fin4 hr (.slice A n c) (.int .i64 0) (.int .i64 0) (.int .i64 0) (W' := W') h)
      have RN := Lib.hid hrun
      clear hr ho hrun hi
      go_wp2_with fail
      try simp only [Exit.inBlock, Exit.then]
      obtain ⟨c0, c1, c2, c3, hbel, hrow⟩ := FN.out _ rfl
      refine bodyPost_ret (v := .agg #[.slice A n c, .int .i64 0, .int .i64 0, .int .i64 0]) (by simp [results, Tryd.results9, go_sem, c0, c1, c2, c3]) rfl ?_
      obtain ⟨VS, hR⟩ := KK.out.rows
      exact ⟨A, n, c, VS, by rw [LF.out, RN.out]; rfl, by rw [LF.out, RN.out]; exact hrow _ _ _ _ _ hR, KK.out.below.trans hbel⟩

end Go.Proofs.YtlgakejjakeomaaDoor.Lx
