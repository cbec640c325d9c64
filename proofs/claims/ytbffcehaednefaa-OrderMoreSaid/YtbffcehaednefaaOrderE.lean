/- A search for a way back to a place, walked. -/
import Derived.Test.YtbffcehaednefaaOrderD
import Derived.Deep.AppendLies
namespace Go.Proofs.Ytbffcehaednefaa.Order
set_option linter.unusedVariables false
set_option linter.unusedSimpArgs false
open Go.RowKit

abbrev blkOf (A : Option Addr) (n cp : Nat) : Option Nat := (Value.slice A n cp).ownBlock
/-- the search's memory: from where places were come to, and the row of places. -/
structure BS (E : Es) (s base gf : Nat) (fr : List Int) (row : List Nat) (A : Option Addr) (cr : Nat) (w wr : World) : Prop where
  bel : Below base w wr
  sea : Sea E s fr row
  gi : GI wr gf fr
  own : wr.ownsRow base 3 1 (.slice A row.length cr) row.length (vals row)
  ne : blkOf A row.length cr ≠ some gf
  lo : base ≤ gf
theorem BS.size {E : Es} {s base gf cr : Nat} {fr : List Int} {row : List Nat} {A : Option Addr} {w wr : World} (h : BS E s base gf fr row A cr w wr) : gf < wr.heap.size ∧ base ≤ wr.heap.size := by
  have := lt_of_block h.gi; have := h.lo; omega
theorem BS.len {E : Es} {s base gf cr : Nat} {fr : List Int} {row : List Nat} {A : Option Addr} {w wr : World} (h : BS E s base gf fr row A cr w wr) : row.length ≤ E.length := by
  have := nodup_sub row (List.range E.length) h.sea.nodup (fun x hx => List.mem_range.2 (h.sea.lt x hx))
  rwa [List.length_range] at this
theorem BS.add {E : Es} {s base gf cr i t g cap : Nat} {fr : List Int} {row : List Nat} {A : Option Addr} {w wr w3 : World} (h : BS E s base gf fr row A cr w wr) (hi : i < row.length) (he : Edge E (row.getD i 0) t) (hts : t ≠ s) (hf : fr.getD t 0 = -1)
    (hg : ((wr.setCell ⟨gf, t, none⟩ (.int .i64 (row.getD i 0 : Nat))).alloc (.cells #[.int .i64 (t : Nat)] 3)).grownBy w3 (Value.slice A row.length cr).ownBlock)
    (hown : w3.ownsRow base 3 1 (.slice (some ⟨g, 0, none⟩) (row.length + 1) cap) (row.length + 1) (vals row ++ [.int .i64 (t : Nat)]))
    (hl : (Value.slice A row.length cr).ownBlock = some g ∨ g = ((wr.setCell ⟨gf, t, none⟩ (.int .i64 (row.getD i 0 : Nat))).alloc (.cells #[.int .i64 (t : Nat)] 3)).heap.size) :
    BS E s base gf (fr.set t (row.getD i 0 : Nat)) (row ++ [t]) (some ⟨g, 0, none⟩) cap w w3 := by
  have hz := h.size
  have e1 : (row ++ [t]).length = row.length + 1 := by simp
  refine ⟨?_, h.sea.add hi he hts hf, ?_, ?_, ?_, h.lo⟩
  · exact ((h.bel.setCell (p := ⟨gf, t, none⟩) h.lo _).alloc (by simp; omega) _).grown hg (by simp; omega) (fun k e => (h.own.lt k e).1)
  · have g1 := h.gi.set t (row.getD i 0 : Nat)
    have g2 : GI ((wr.setCell ⟨gf, t, none⟩ (.int .i64 (row.getD i 0 : Nat))).alloc (.cells #[.int .i64 (t : Nat)] 3)) gf (fr.set t (row.getD i 0 : Nat)) := (Below.heap_alloc _ _ _ (lt_of_block g1)).trans g1
    exact (hg.block gf (lt_of_block g2) (fun e => h.ne e.symm)).trans g2
  · rw [e1, vals_app]
    exact hown
  · intro e
    have : g = gf := by simpa [Value.ownBlock] using e
    subst this
    rcases hl with hl | hl
    · exact h.ne hl
    · simp at hl; omega

def WBEnd (E : Es) (s : Nat) (w : World) (e : Ending) (w' : World) : Prop :=
  ∃ A' c' Q, e = .returned (.slice A' (Q : List Nat).length c') ∧ Below w.heap.size w w' ∧ ((Q = [] ∧ ¬ Way E s s) ∨ ((IsCycle E Q ∧ Q.getD 0 0 = s) ∧ Way E s s ∧ IRow w' w'.heap.size A' (ints Q) ∧ (Q.length ≤ c' ∧ c' ≤ maxLen)))
/-- what is known of a place's edges that were gone along. -/
def PartDone (s n : Nat) (row : List Nat) (l : List Int) (j : Nat) : Prop := ∀ t : Nat, t < n → (t : Int) ∈ l.take j → t ∈ row ∧ t ≠ s
theorem done_app {E : Es} {s i t : Nat} {row : List Nat} (h : Done E s row i) (hi : i ≤ row.length) : Done E s (row ++ [t]) i := by
  intro k hk u he
  rw [getD_app t (by omega)] at he
  exact ⟨List.mem_append_left _ (h k hk u he).1, (h k hk u he).2⟩
theorem takeI (l : List Int) (k : Nat) (hk : k < l.length) : l.take (k + 1) = l.take k ++ [l.getD k 0] := by
  rw [List.take_succ_eq_append_getElem hk]
  have : l[k] = l.getD k 0 := by rw [List.getD_eq_getElem?_getD, List.getElem?_eq_getElem hk]; rfl
  rw [this]
theorem part_skip {s n j : Nat} {row : List Nat} {l : List Int} (h : PartDone s n row l j) (hj : j < l.length) (hx : ∀ t : Nat, t < n → (t : Int) = l.getD j 0 → t ∈ row ∧ t ≠ s) : PartDone s n row l (j + 1) := by
  intro t ht hm
  rw [takeI l j hj, List.mem_append, List.mem_singleton] at hm
  rcases hm with hm | hm
  · exact h t ht hm
  · exact hx t ht hm
theorem part_app {s n j t : Nat} {row : List Nat} {l : List Int} (h : PartDone s n row l j) : PartDone s n (row ++ [t]) l j := fun u hu hm => ⟨List.mem_append_left _ (h u hu hm).1, (h u hu hm).2⟩
theorem ret_nil {A : Option Addr} : True := trivial

set_option maxHeartbeats 8000000 in
set_option maxRecDepth 100000 in
theorem wayBack_any (A : Option Addr) (E : Es) (n c s : Nat) (w : World) (h : ERow w w.heap.size A E) (hn : n = E.length) (hm : n ≤ 100) (hs : s < n) :
    Calls Try.prog 57 #[.slice A n c, .int .i64 (s : Nat)] w (WBEnd E s w) := by
  have z : (n : Int) ≤ 100 := by omega
  have B1 := Lib.hid ((Below.refl w.heap.size w).alloc (Nat.le_refl _) (.cells #[.int .i64 (-1)] 3))
  have RP := Lib.hid (repeat_any (-1) w.heap.size n (w.alloc (.cells #[.int .i64 (-1)] 3)) (blk_cell (heap_alloc_new w _) rfl) (by omega) hm (by simp))
  have HN := Lib.hid hn
  have H := Lib.hid h
  have HM := Lib.hid hm
  have HS := Lib.hid hs
  obtain ⟨i0, hi0, hz0, hz1, hz2⟩ := info_parts info_int
  have HII := Lib.hid (And.intro hi0 (And.intro hz0 (And.intro hz1 hz2)))
  clear hn h hm hi0 hz0 hz1 hz2 hs
  go_enter Try.func57, Try.ntmps57
  go_wp2_with fail
  go_at_call 74; refine RP.out.mono ?_; rintro e w2 ⟨rfl, hgi, hb⟩
  obtain ⟨gf, hgf⟩ : ∃ g, g = (w.alloc (.cells #[.int .i64 (-1)] 3)).heap.size := ⟨_, rfl⟩
  rw [← hgf] at hgi ⊢
  have M0 : Hid (BS E s w.heap.size gf (List.replicate n (-1)) [s] (some ⟨w2.heap.size, 0, none⟩) 1 w (w2.alloc (.cells #[.int .i64 (s : Nat)] 3))) := Lib.hid (by
    have hlt := lt_of_block hgi
    have b2 := B1.out.trans (hb.mono (by simp))
    have hsz : gf = w.heap.size + 1 := by rw [hgf]; simp
    refine ⟨b2.alloc b2.size _, by rw [HN.out]; exact Sea.first E s (by have := HN.out; have := HS.out; omega), (Below.heap_alloc _ _ _ hlt).trans hgi, ?_, ?_, by omega⟩
    · exact ⟨rfl, .inr ⟨w2.heap.size, 1, #[.int .i64 (s : Nat)], rfl, b2.size, heap_alloc_new w2 _, Nat.le_refl _, by unfold maxLen; omega, rfl, rfl⟩⟩
    · intro e
      have : w2.heap.size = gf := by simpa [Value.ownBlock] using e
      omega)
  clear hgi hb RP hgf
  go_wp2_with fail
  go_loopw [6, 7, 9] (fun r iv _ wr => ∃ (i : Nat) (row : List Nat) (fr : List Int) (Ar : Option Addr) (cr : Nat), iv = .int .i64 i ∧ r = .slice Ar row.length cr ∧ i ≤ row.length ∧ BS E s w.heap.size gf fr row Ar cr w wr ∧ Done E s row i) (fun _ v _ _ => n - (intOf v).toNat)
  case atStart => exact ⟨0, [s], _, _, 1, rfl, rfl, Nat.zero_le _, M0.out, fun k hk => absurd hk (Nat.not_lt_zero _)⟩
  case round =>
    obtain ⟨i, row, fr, Ar, cr, rfl, rfl, hi, hbs, hdone⟩ := hrel
    obtain ⟨wo, rfl⟩ : ∃ wo : World, wo = wr := ⟨_, rfl⟩
    have M := Lib.hid hbs
    have DN := Lib.hid hdone
    have RL : row.length ≤ n := by have := hbs.len; have := HN.out; omega
    clear hbs hdone M0
    by_cases hlt : i < row.length
    · have hlt' : (i : Int) < (row.length : Int) := by omega
      have hrl : (row.length : Int) ≤ 100 := by have := HM.out; omega
      obtain ⟨g, cap, cur, hv, hgb, hkl, hcap, hheap, hcell⟩ := own_GI M.out.own (by omega)
      injection hv with hA _ hcr
      subst hA
      have pc : wo.cell? ⟨g, i, none⟩ = some (.int .i64 (row.getD i 0 : Nat)) := blk_cell hheap (hcell i hlt)
      have PL : Hid (row.getD i 0 < E.length) := Lib.hid (M.out.sea.lt _ (getD_mem hlt))
      rcases H.out with h' | ⟨b, o, rfl, hb, hcE⟩
      · exfalso; have := PL.out; rw [h'] at this; simp at this
      obtain ⟨A', n', c', e1, e2, e3, e4, e5⟩ := hcE (row.getD i 0) PL.out
      replace e5 := (M.out.bel.cell (p := ⟨b, o + row.getD i 0, none⟩) hb).trans e5
      obtain ⟨p, hp⟩ : ∃ p, p = row.getD i 0 := ⟨_, rfl⟩
      obtain ⟨l, hl⟩ : ∃ l, l = E.getD (row.getD i 0) [] := ⟨_, rfl⟩
      have NL : Hid (n' = l.length) := Lib.hid (by rw [hl]; exact e1)
      have ROW : Hid (IRow w w.heap.size A' l) := Lib.hid (by rw [hl]; exact e4)
      have ED : Hid (∀ t : Nat, t < n → (t : Int) ∈ l → Edge E p t) := Lib.hid (fun t ht hm => by
        rw [hp]; exact ⟨PL.out, by have := HN.out; omega, by rw [← hl]; exact hm⟩)
      have EB : Hid (∀ t : Nat, Edge E p t → t < n ∧ (t : Int) ∈ l) := Lib.hid (fun t he => by
        rw [hp] at he; exact ⟨by have := he.2.1; have := HN.out; omega, by rw [hl]; exact he.2.2⟩)
      have h63 : (n' : Int) ≤ 9223372036854775807 := by unfold maxLen at e3; omega
      have hpn : (p : Int) < (n : Int) := by have := PL.out; have := HN.out; omega
      rw [← hp] at pc e5
      have HP := Lib.hid hp
      have PD0 : Hid (PartDone s n row l 0) := Lib.hid (fun t _ hm => by simp at hm)
      clear hcE hp hl e1 e2 e3 e4 hcr hcell hheap hcap hkl hgb
      go_wp2_with fail
      clear pc e5
      go_loopw [6, 9, 30] (fun r _ v wq => ∃ (j : Nat) (row' : List Nat) (fr' : List Int) (Ar' : Option Addr) (cr' : Nat), v = .int .i64 j ∧ r = .slice Ar' row'.length cr' ∧ j ≤ n' ∧ i < row'.length ∧ row'.getD i 0 = p ∧ BS E s w.heap.size gf fr' row' Ar' cr' w wq ∧ Done E s row' i ∧ PartDone s n row' l j) (fun _ _ v _ => n' - (intOf v).toNat)
      case atStart => exact ⟨0, row, fr, _, cr, rfl, rfl, Nat.zero_le _, hlt, by rw [← HP.out], M.out, DN.out, PD0.out⟩
      case round =>
        obtain ⟨j, row', fr', Ar', cr', rfl, rfl, hj, hir, hrp, hbs, hdone, hpd⟩ := hrel
        have M2 := Lib.hid hbs
        have DN2 := Lib.hid hdone
        have PD := Lib.hid hpd
        have RP' := Lib.hid hrp
        have RL' : row'.length ≤ n := by have := hbs.len; have := HN.out; omega
        clear hbs hdone hpd hrp
        by_cases hjn : j < n'
        · have hjn' : (j : Int) < (n' : Int) := by omega
          have JL : Hid (j < l.length) := Lib.hid (by have := NL.out; omega)
          rcases ROW.out with h' | ⟨b', o', rfl, hb', hc'⟩
          · exfalso; have := JL.out; rw [h'] at this; simp at this
          have ft := (M2.out.bel.cell (p := ⟨b', o' + j, none⟩) hb').trans (hc' j JL.out)
          have SK := Lib.hid (fun (rx : List Nat) (hx : PartDone s n rx l j) h => part_skip hx JL.out h)
          have MEM : Hid (l.getD j 0 ∈ l) := Lib.hid (by rw [List.getD_eq_getElem?_getD, List.getElem?_eq_getElem JL.out]; exact List.getElem_mem _)
          obtain ⟨t, ht⟩ : ∃ t, t = l.getD j 0 := ⟨_, rfl⟩
          rw [← ht] at ft SK MEM
          have hir' : (i : Int) < (row'.length : Int) := by omega
          obtain ⟨g2, cap2, cur2, hv2, hgb2, hkl2, hcap2, hheap2, hcell2⟩ := own_GI M2.out.own (by omega)
          injection hv2 with hA2 _ _
          subst hA2
          have pc : wr.cell? ⟨g2, i, none⟩ = some (.int .i64 (p : Nat)) := by rw [← RP'.out]; exact blk_cell hheap2 (hcell2 i hir)
          clear ht hc' hcell2 hheap2 hcap2 hkl2 hgb2
          by_cases hts : t = (s : Int)
          · subst hts
            have EG : Hid (Edge E p s) := Lib.hid (ED.out s HS.out MEM.out)
            have WT := Lib.hid (wayTo_any M2.out.sea gf n n i wr M2.out.gi M2.out.size.1 hir (by have := HM.out; have := HN.out; omega) (by rw [M2.out.sea.len, HN.out]) (by rw [RP'.out]; exact EG.out))
            rw [RP'.out] at WT
            have WY : Hid (Way E s s) := Lib.hid (by
              have hpm : p ∈ row' := by rw [← RP'.out]; exact getD_mem hir
              rcases M2.out.sea.way p hpm with e | e
              · have := EG.out; rw [e] at this; exact .single this
              · exact .tail e EG.out)
            go_wp2_with fail
            go_at_call 75; refine WT.out.mono ?_; rintro e w5 ⟨g5, cap5, Q, rfl, hcy, hrow, hb5, hcc⟩
            have B5 := Lib.hid (M2.out.bel.trans (hb5.mono M2.out.size.2))
            have R5 := Lib.hid (And.intro hcy (And.intro hrow hcc))
            clear hcy hrow hb5 hcc
            go_wp2_with fail
            go_ret
            exact ⟨_, cap5, Q, rfl, B5.out, .inr ⟨R5.out.1, WY.out, R5.out.2⟩⟩
          · have hbs : (t == (s : Int)) = false := by simpa using hts
            by_cases h0 : 0 ≤ t
            · by_cases h1 : t < (n : Int)
              · obtain ⟨v, rfl⟩ : ∃ v : Nat, t = (v : Int) := ⟨t.toNat, by omega⟩
                have hvn : v < n := by omega
                have hvs : v ≠ s := by intro e; exact hts (by rw [e])
                have EG : Hid (Edge E p v) := Lib.hid (ED.out v hvn MEM.out)
                have gc := M2.out.gi.cell v (by rw [M2.out.sea.len]; have := HN.out; omega)
                have gfz := M2.out.gi.free v
                have hvN : v < E.length := by have := HN.out; omega
                by_cases hq : fr'.getD v 0 = -1
                · rw [hq] at gc
                  have ADD := Lib.hid (fun g cap w3 h1 h2 h3 => M2.out.add (g := g) (cap := cap) (w3 := w3) hir (by rw [RP'.out]; exact EG.out) hvs hq h1 h2 h3)
                  rw [RP'.out] at ADD
                  have PD3 : Hid (PartDone s n (row' ++ [v]) l (j + 1)) := Lib.hid (SK.out _ (part_app PD.out) (fun u hu e => by
                    have : u = v := by omega
                    subst this
                    exact ⟨by simp, hvs⟩))
                  have SZ : Hid ((wr.setCell ⟨gf, v, none⟩ (.int .i64 (p : Nat))).heap.size = wr.heap.size) := Lib.hid (by simp)
                  have OW : Hid (((wr.setCell ⟨gf, v, none⟩ (.int .i64 (p : Nat))).alloc (.cells #[.int .i64 (v : Nat)] 3)).ownsRow w.heap.size 3 1 (.slice (some ⟨g2, 0, none⟩) row'.length cr') row'.length (vals row')) := Lib.hid (World.ownsRow.alloc (M2.out.own.kept (grown_set wr ⟨gf, v, none⟩ _) (.inr M2.out.ne)) _)
                  have NEWS : Hid (∀ j u, [Value.int .i64 (v : Nat)][j]? = some u → ((wr.setCell ⟨gf, v, none⟩ (.int .i64 (p : Nat))).alloc (.cells #[.int .i64 (v : Nat)] 3)).cell? ((⟨wr.heap.size, 0, none⟩ : Addr).add j) = some u) := Lib.hid (World.news_of_block (B := wr.heap.size) (cs := #[.int .i64 (v : Nat)]) (by rw [← SZ.out]; exact heap_alloc_new _ _))
                  have ONE : Hid (∀ u ∈ [Value.int .i64 (v : Nat)], u.oneCell' = true) := Lib.hid (by intro u hu; rw [List.mem_singleton] at hu; rw [hu]; rfl)
                  have BSZ : Hid (w.heap.size ≤ ((wr.setCell ⟨gf, v, none⟩ (.int .i64 (p : Nat))).alloc (.cells #[.int .i64 (v : Nat)] 3)).heap.size) := Lib.hid (by have := M2.out.size; simp; omega)
                  have h63 : row'.length + 1 ≤ maxLen := by have := HM.out; unfold maxLen; omega
                  have hby : (row'.length + 1) * 8 ≤ 140737488355328 := by have := HM.out; omega
                  have hvn' : (v : Int) < (n : Int) := by omega
                  obtain ⟨hi0, hz0, hz1, hz2⟩ := HII.out
                  go_wp2_with (at_builtin; refine wpList_append_lies _ rfl (.tmp 66) (.tmp 68) 52 rfl w.heap.size 3 i0 _ 1 8 Try.underlying52 hi0 hz0 hz1 hz2 rfl (by decide) _ _ _ rfl OW.out ⟨wr.heap.size, 0, none⟩ 1 1 [.int .i64 (v : Nat)] rfl rfl NEWS.out ONE.out (Nat.lt_succ_self 0) h63 hby BSZ.out _ rfl ?_; intro g3 cap3 w3 hown3 hgrow3 hat3 _; have M3 := Lib.hid (ADD.out g3 cap3 w3 hgrow3 hown3 hat3); clear hown3 hgrow3 hat3)
                  go_roundw
                  case rel => exact ⟨j + 1, row' ++ [v], _, _, cap3, by go_num, by rw [List.length_append]; rfl, by omega, by rw [List.length_append]; omega, by rw [getD_app v hir]; exact RP'.out, M3.out, done_app DN2.out (by omega), PD3.out⟩
                  case measure => simp [intOf]; omega
                · have F := Lib.hid (SK.out row' PD.out (fun u hu e => by
                    have : u = v := by omega
                    subst this
                    refine ⟨?_, hvs⟩
                    by_cases hm : u ∈ row'
                    · exact hm
                    · exact absurd ((M2.out.sea.met u hvN hvs).2 hm) hq))
                  have hqb : (fr'.getD v 0 == -1) = false := by simpa using hq
                  obtain ⟨y, hy⟩ : ∃ y, y = fr'.getD v 0 := ⟨_, rfl⟩
                  rw [← hy] at gc hqb
                  clear hy hq
                  go_wp2_with fail
                  go_roundw
                  case rel => exact ⟨j + 1, row', fr', _, cr', by go_num, rfl, by omega, hir, RP'.out, M2.out, DN2.out, F.out⟩
                  case measure => simp [intOf]; omega
              · have h2 : (n : Int) ≤ t := by omega
                have F := Lib.hid (SK.out row' PD.out (fun u hu e => by omega))
                go_wp2_with fail
                go_roundw
                case rel => exact ⟨j + 1, row', fr', _, cr', by go_num, rfl, by omega, hir, RP'.out, M2.out, DN2.out, F.out⟩
                case measure => simp [intOf]; omega
            · have h2 : t < 0 := by omega
              have F := Lib.hid (SK.out row' PD.out (fun u hu e => by omega))
              go_wp2_with fail
              go_roundw
              case rel => exact ⟨j + 1, row', fr', _, cr', by go_num, rfl, by omega, hir, RP'.out, M2.out, DN2.out, F.out⟩
              case measure => simp [intOf]; omega
        · obtain rfl : j = n' := by omega
          have F : Hid (Done E s row' (i + 1)) := Lib.hid (by
            intro k hk t he
            rcases Nat.lt_or_ge k i with h1 | h1
            · exact DN2.out k h1 t he
            · obtain rfl : k = i := by omega
              rw [RP'.out] at he
              obtain ⟨h2, h3⟩ := EB.out t he
              refine PD.out t h2 ?_
              rw [NL.out, List.take_of_length_le (Nat.le_refl _)]; exact h3)
          have hi9 : (i : Int) ≤ 100 := by have := HM.out; omega
          go_wp2_with fail
          go_roundw
          case rel => exact ⟨i + 1, row', fr', Ar', cr', by go_num, rfl, by omega, M2.out, F.out⟩
          case measure => simp [intOf]; omega
    · obtain rfl : i = row.length := by omega
      have NW : Hid (¬ Way E s s) := Lib.hid (no_way M.out.sea DN.out)
      go_wp2_with fail
      go_ret
      exact ⟨none, 0, [], rfl, M.out.bel, .inl ⟨rfl, NW.out⟩⟩

end Go.Proofs.Ytbffcehaednefaa.Order
