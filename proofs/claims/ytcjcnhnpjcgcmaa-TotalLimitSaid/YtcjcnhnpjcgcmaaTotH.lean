/- Counting: joining two counts. -/
import Derived.Test.YtcjcnhnpjcgcmaaTotG
import Derived.Deep.RegionHeld3
import Derived.Deep.CutBlock
import Derived.Deep.DeepCutAuto
import Derived.Laws.MakeOwn
import Derived.Laws.OwnMore
namespace Go.Proofs.Ytcjcnhnpjcgcmaa.Tot
set_option linter.unusedVariables false
set_option linter.unusedSimpArgs false
open Go.RowKit Go.Maps
open Go.Proofs.Ytcjcnhnpjcgcmaa.Order (IRow ERow add_at GI)
open Go.Proofs.Ytcjcnhnpjcgcmaa.Cnf (Bd Rg RgL formOf rowV own_irow hasNone own_low)
open Go.Proofs.Ytcjcnhnpjcgcmaa.Tbl (Fr TS blkOf blkOf_eq hs HelpEnd)

theorem ints_w : (Try.prog.info? 3).map (fun i => (i.zero, i.size, i.bytes)) = some (some (.int .i64 0), 1, 8) := by kernel_rfl
/-- a row of three that was just made. -/
theorem own_made3 (w : World) (x y z : Int) (w' : World) (hw : w' = (w.alloc (.cells #[.int .i64 x, .int .i64 y, .int .i64 z] 3)).drew) : w'.ownsRow w.heap.size 3 1 (.slice (some ⟨w.heap.size, 0, none⟩) 3 3) 3 (rowV [x, y, z]) := by
  subst hw
  refine ⟨rfl, .inr ⟨w.heap.size, 3, #[.int .i64 x, .int .i64 y, .int .i64 z], rfl, Nat.le_refl _, ?_, Nat.le_refl _, by unfold maxLen; omega, rfl, rfl⟩⟩
  exact heap_alloc_new w _
theorem lits_mem {l : List Int} {x : Int} (h : x ∈ lits l) : x ∈ l ∧ x ≠ 0 := by
  unfold lits at h
  simpa using h
/-- the three literals of a clause may be added. -/
theorem lits_ok {l : List Int} (h : ∀ x ∈ l, -9223372036854775808 < x ∧ x ≤ 9223372036854775807) : RgL (lits l) ∧ hasNone (lits l) = false ∧ (lits l).length ≤ l.length := by
  refine ⟨fun x hx => ?_, ?_, List.length_filter_le _ _⟩
  · have := h x (lits_mem hx).1
    exact ⟨by omega, by omega⟩
  · rw [Bool.eq_false_iff]
    intro hn
    unfold hasNone at hn
    rw [Bool.or_eq_true, List.contains_iff_mem, List.contains_iff_mem] at hn
    rcases hn with hn | hn
    · exact (lits_mem hn).2 rfl
    · have := (h _ (lits_mem hn).1).1
      omega

/-- what may be negated. -/
def Okx (x : Int) : Prop := -9223372036854775807 ≤ x ∧ x ≤ 9223372036854775807
theorem Okx.neg {x : Int} (h : Okx x) : Okx (-x) := ⟨by have := h.2; omega, by have := h.1; omega⟩
theorem Okx.wr {x : Int} (h : Okx x) : IntKind.i64.wrap (-x) = -x := IntWalk.i64_in _ (by have := h.1; have := h.2; omega)
theorem ok_atv {l : List Int} (h : ∀ x ∈ l, Okx x) (n : Nat) : Okx (atv l n) := by
  unfold atv
  split
  · exact ⟨by omega, by omega⟩
  · rw [List.getD_eq_getElem?_getD]
    cases e : l[n - 1]? with
    | none => exact ⟨by simp, by simp⟩
    | some y => exact h y (List.mem_of_getElem? e)
theorem ok_getD {l : List Int} (h : ∀ x ∈ l, Okx x) (n : Nat) : Okx (l.getD n 0) := by
  rw [List.getD_eq_getElem?_getD]
  cases e : l[n]? with
  | none => exact ⟨by simp, by simp⟩
  | some y => exact h y (List.mem_of_getElem? e)
variable {Z tb g cb lim k n : Nat} {cap : Int} {f : Bool} {w w' w1 w2 : World}
theorem CS.ctrb (h : CS Z tb g cb lim cap k f n w) : w.cell? ⟨cb, 1, none⟩ = some (.pointer (some ⟨g, 0, none⟩)) := blk_cell h.ctr rfl
/-- a clause of three, cut and added. -/
theorem three (h : CS Z tb g cb lim cap k f n w) (hn : n < 262144) {x y z : Int} (hx : Okx x) (hy : Okx y) (hz : Okx z) :
    ∃ r, Calls Try.prog 66 #[.slice (some ⟨w.heap.size, 0, none⟩) 3 3] (w.alloc (.cells #[.int .i64 x, .int .i64 y, .int .i64 z] 3)).drew fun e w1 =>
      e = .returned (.slice (some ⟨w.heap.size, 0, none⟩) r 3) ∧ CS Z tb g cb lim cap k f n w1 ∧ Stp Z tb g w w1 ∧
      Calls Try.prog 42 #[.pointer (some ⟨g, 0, none⟩), .slice (some ⟨w.heap.size, 0, none⟩) r 3] w1 fun e w2 =>
        e = .returned (.tuple #[]) ∧ ∃ n', n ≤ n' ∧ n' ≤ n + 1 ∧ CS Z tb g cb lim cap k f n' w2 ∧ Stp Z tb g w w2 := by
  refine ⟨(lits [x, y, z]).length, (clause_any (own_made3 w x y z _ rfl) (by omega)).mono ?_⟩
  rintro e w1 ⟨rfl, ho, hb⟩
  have hb' : Below w.heap.size w w1 := (((Below.refl w.heap.size w).alloc (Nat.le_refl _) _).drew).trans hb
  obtain ⟨c1, s1⟩ := h.stb hb'
  obtain ⟨hR, hN, hL⟩ := lits_ok (l := [x, y, z]) (by
    intro v hv
    simp at hv
    rcases hv with rfl | rfl | rfl
    · exact ⟨by have := hx.1; omega, hx.2⟩
    · exact ⟨by have := hy.1; omega, hy.2⟩
    · exact ⟨by have := hz.1; omega, hz.2⟩)
  obtain ⟨A, c, e, e1, _, _, hi, _⟩ := own_irow ho
  injection e with e _ _
  subst e
  obtain ⟨Ab, cc, hbs⟩ := c1.bld
  refine ⟨rfl, c1, s1, (add_gen (some ⟨w.heap.size, 0, none⟩) (lits [x, y, z]) _ 3 hbs hn hi rfl (by simp at hL; omega) hR hN).mono ?_⟩
  intro e w2 ha
  obtain ⟨h1, n', h2, h3, h4, h5⟩ := c1.add hbs ha
  exact ⟨h1, n', h2, h3, h4, s1.trans h5⟩
theorem at_gi {q : Nat} {l : List Int} {m c i : Nat} (G : GI w q l) (hm : m = l.length) (hm1 : m ≤ 20) (hi : i ≤ 100) : ∀ W : World, W.heap = w.heap →
    Calls Try.prog 67 #[.slice (some ⟨q, 0, none⟩) m c, .int .i64 (i : Nat)] W fun e w' => e = .returned (.int .i64 (atv l i)) ∧ W = w' := by
  intro W hW
  have GW : GI W q l := by unfold GI at G ⊢; rw [hW]; exact G
  refine (at_any (some ⟨q, 0, none⟩) l m c i W (.inr ⟨q, 0, rfl, lt_of_block GW, fun j hj => by simpa using GW.cell j hj⟩) hm (by omega) (by omega)).mono ?_
  rintro e w' ⟨h1, h2⟩
  exact ⟨h1, h2.symm⟩

set_option maxHeartbeats 8000000 in
set_option maxRecDepth 100000 in
theorem join_any {qo qf qr m a b cm ca cr : Nat} {lo lf lr : List Int} (h : CS Z tb g cb lim cap k f n w) (hn : n + 1000 ≤ 262144) (GO : GI w qo lo) (GF : GI w qf lf) (GR : GI w qr lr)
    (hm : m = lo.length) (ha : a = lf.length) (hb : b = lr.length) (m0 : 0 < m) (m1 : m ≤ 20) (a1 : a ≤ 20) (b1 : b ≤ 20) (oo : ∀ x ∈ lo, Okx x) (of : ∀ x ∈ lf, Okx x) (or : ∀ x ∈ lr, Okx x) :
    Calls Try.prog 52 #[.pointer (some ⟨cb, 0, none⟩), .slice (some ⟨qo, 0, none⟩) m cm, .slice (some ⟨qf, 0, none⟩) a ca, .slice (some ⟨qr, 0, none⟩) b cr] w fun e w' =>
      e = .returned (.tuple #[]) ∧ ∃ n', n' ≤ n + 900 ∧ CS Z tb g cb lim cap k f n' w' ∧ Stp Z tb g w w' := by
  have FACTS : Hid (n + 1000 ≤ 262144 ∧ m = lo.length ∧ a = lf.length ∧ b = lr.length ∧ 0 < m ∧ m ≤ 20 ∧ a ≤ 20 ∧ b ≤ 20 ∧ (∀ x ∈ lo, Okx x) ∧ (∀ x ∈ lf, Okx x) ∧ ∀ x ∈ lr, Okx x) := Lib.hid ⟨hn, hm, ha, hb, m0, m1, a1, b1, oo, of, or⟩
  have H := Lib.hid h
  have HO := Lib.hid GO
  have HF := Lib.hid GF
  have HR := Lib.hid GR
  have m1' : (m : Int) ≤ 20 := by omega
  have a1' : (a : Int) ≤ 20 := by omega
  have b1' : (b : Int) ≤ 20 := by omega
  clear h hn GO GF GR hm ha hb m0 m1 a1 b1 oo of or
  go_enter Try.func52, Try.ntmps52
  go_wp2_with fail
  go_loopw [8, 9, 13, 24] (fun _ _ v _ wr => ∃ i n1 : Nat, v = .int .i64 i ∧ i ≤ a + 1 ∧ n1 ≤ n + 42 * i ∧ CS Z tb g cb lim cap k f n1 wr ∧ Stp Z tb g w wr) (fun _ _ v _ _ => a + 1 - (intOf v).toNat)
  case atStart => exact ⟨0, n, rfl, by omega, by omega, H.out, Stp.refl⟩
  case round =>
    obtain ⟨i, n1, rfl, hi, hn1, hcs, hst⟩ := hrel
    have C := Lib.hid hcs
    have S := Lib.hid hst
    have N1 := Lib.hid hn1
    clear hcs hst hn1
    by_cases hlt : i < a + 1
    · have hlt' : (i : Int) < (a : Int) + 1 := by omega
      have i1 : (i : Int) ≤ 20 := by have := FACTS.out; omega
      obtain ⟨d, hd⟩ : ∃ d : Int, d = (m : Int) - (i : Int) := ⟨_, rfl⟩
      have ed : (m : Int) - (i : Int) = d := hd.symm
      have wd : IntKind.i64.wrap d = d := IntWalk.i64_in _ (by omega)
      have wd2 : IntKind.i64.wrap ((m : Int) - (i : Int)) = d := by rw [ed]; exact wd
      have DD := Lib.hid hd
      clear hd hlt
      go_upto_region 3 with (fail)
      go_cut [23, 24] (fun p q wx => ∃ L : Int, p = .int .i64 L ∧ q = .int .i64 0 ∧ L ≤ b + 1 ∧ L ≤ (m : Int) - (i : Int) + 1 ∧ wx = wr)
      case first =>
        have d1 : -20 ≤ d := by have := DD.out; omega
        have d2 : d ≤ 20 := by have := DD.out; omega
        by_cases hbd : (b : Int) ≤ d
        · go_wp2_with fail
          go_meet
          exact ⟨(b : Int) + 1, by go_num, rfl, by omega, by have := DD.out; omega, rfl⟩
        · go_wp2_with fail
          go_meet
          exact ⟨d + 1, by go_num, rfl, by omega, by have := DD.out; omega, rfl⟩
      case rest =>
      obtain ⟨L, rfl, rfl, hL1, hL2, h'⟩ := hcut
      obtain rfl := h'.symm
      have zb : Hid (L ≤ b + 1 ∧ L ≤ (m : Int) - (i : Int) + 1) := Lib.hid ⟨hL1, hL2⟩
      clear hL1 hL2
      go_wp2_with fail
      go_loopw [9, 24] (fun _ v wr' => ∃ j n2 : Nat, v = .int .i64 j ∧ j ≤ L.toNat ∧ n2 ≤ n + 42 * i + 2 * j ∧ CS Z tb g cb lim cap k f n2 wr' ∧ Stp Z tb g w wr') (fun _ v _ => L.toNat - (intOf v).toNat)
      case atStart => exact ⟨0, n1, rfl, by omega, by have := N1.out; omega, C.out, S.out⟩
      case round =>
        obtain ⟨j, n2, rfl, hj, hn2, hcs, hst⟩ := hrel
        have C2 := Lib.hid hcs
        have S2 := Lib.hid hst
        have N2 := Lib.hid hn2
        have HJ := Lib.hid hj
        have q1 := hcs.ctrb
        have WC : Hid (wr.cell? ⟨cb, 1, none⟩ = wr.cell? ⟨cb, 1, none⟩) := Lib.hid rfl
        clear hcs hst hn2 hj
        by_cases hlj : (j : Int) < L
        · have JB : Hid (j ≤ b ∧ i + j ≤ m ∧ i ≤ 20 ∧ j ≤ 20) := Lib.hid (by have := zb.out; have := FACTS.out; omega)
          have j1 : (j : Int) ≤ 20 := by have := JB.out; omega
          obtain ⟨s, hs⟩ : ∃ s : Nat, s = i + j := ⟨_, rfl⟩
          have es : (i : Int) + (j : Int) = (s : Int) := by omega
          have s1 : (s : Int) ≤ 20 := by have := JB.out; have := FACTS.out; omega
          have s0 : (0 : Int) ≤ (s : Int) := by omega
          have ws : IntKind.i64.wrap (s : Int) = (s : Int) := IntWalk.i64_in _ (by omega)
          have ws2 : IntKind.i64.wrap ((i : Int) + (j : Int)) = (s : Int) := by rw [es]; exact ws
          have HS := Lib.hid hs
          clear hs q1 WC
          clear C S hi
          by_cases hs0 : 0 < s
          · have hs0' : (0 : Int) < (s : Int) := by omega
            by_cases hsm : s < m
            · have hsm' : (s : Int) < (m : Int) := by omega
              obtain ⟨p, hp⟩ : ∃ p : Nat, s = p + 1 := ⟨s - 1, by omega⟩
              have ep : (s : Int) - 1 = (p : Int) := by omega
              have wp : IntKind.i64.wrap (p : Int) = (p : Int) := IntWalk.i64_in _ (by omega)
              have p1 : (p : Int) < (m : Int) := by have := JB.out; have := HS.out; omega
              have HP := Lib.hid hp
              have WF := Lib.hid (H.out.gi HF.out S2.out)
              have WR := Lib.hid (H.out.gi HR.out S2.out)
              have AF := Lib.hid (at_gi (c := ca) WF.out FACTS.out.2.2.1 FACTS.out.2.2.2.2.2.2.1 (show i ≤ 100 by have := JB.out; omega) wr.drew rfl)
              have AR := Lib.hid (at_gi (c := cr) WR.out FACTS.out.2.2.2.1 FACTS.out.2.2.2.2.2.2.2.1 (show j ≤ 100 by have := JB.out; omega) wr.drew rfl)
              have OU := Lib.hid (ok_atv FACTS.out.2.2.2.2.2.2.2.2.2.1 (i))
              have OV := Lib.hid (ok_atv FACTS.out.2.2.2.2.2.2.2.2.2.2 (j))
              have OX := Lib.hid (ok_getD FACTS.out.2.2.2.2.2.2.2.2.1 (p))
              have ch := (H.out.gi HO.out S2.out).cell (p) (by have := FACTS.out; have := JB.out; have := HS.out; have := HP.out; omega)
              obtain ⟨x, hx⟩ : ∃ x, x = lo.getD (p) 0 := ⟨_, rfl⟩
              obtain ⟨u, hu⟩ : ∃ u, u = atv lf (i) := ⟨_, rfl⟩
              obtain ⟨v, hv⟩ : ∃ v, v = atv lr (j) := ⟨_, rfl⟩
              rw [← hx] at ch OX
              have q1 := And.intro C2.out.ctrb ch
              have QO : Hid (∀ W', Stp Z tb g wr W' → W'.cell? ⟨qo, p, none⟩ = some (.int .i64 x)) := Lib.hid (fun W' hs => by rw [hx]; exact (H.out.gi HO.out (S2.out.trans hs)).cell (p) (by have := FACTS.out; have := JB.out; have := HS.out; have := HP.out; omega))
              rw [← hu] at AF OU
              rw [← hv] at AR OV
              have wu := OU.out.wr
              have wv := OV.out.wr
              obtain ⟨r3, hTH⟩ := three C2.out (show n2 < 262144 by have := N2.out; have := JB.out; have := FACTS.out;  omega) OX.out OU.out.neg OV.out.neg
              have TH := Lib.hid hTH
              have BW : Hid (Below wr.heap.size wr (wr.alloc (.cells #[.int .i64 x, .int .i64 (-u), .int .i64 (-v)] 3)).drew) := Lib.hid (((Below.refl wr.heap.size wr).alloc (Nat.le_refl _) (.cells #[.int .i64 x, .int .i64 (-u), .int .i64 (-v)] 3)).drew)
              have q2 := And.intro (C2.out.below BW.out).ctrb (QO.out _ (C2.out.stb BW.out).2)
              obtain ⟨q1a, q1b⟩ := q1
              obtain ⟨q2a, q2b⟩ := q2
              have q1 := And.intro q1a q1b
              clear hx hu hv hTH
              clear hp
              go_wp2_with fail
              go_region_held3 (fun W' => W'.cell? ⟨cb, 1, none⟩ = some (.pointer (some ⟨g, 0, none⟩)) ∧ W'.cell? ⟨qo, p, none⟩ = some (.int .i64 x))
                (first | exact ⟨q1a, q1b⟩ | exact ⟨q2a, q2b⟩ | exact ⟨q3a, q3b⟩ | exact ⟨q4a, q4b⟩ | go_keep)
                (first
                  | (go_at_call 67; (with_reducible refine AF.out.mono ?_); rintro e w' ⟨rfl, rfl⟩)
                  | (go_at_call 67; (with_reducible refine AR.out.mono ?_); rintro e w' ⟨rfl, rfl⟩)
                  | (go_at_call 66; (with_reducible refine TH.out.mono ?_); rintro e w3 ⟨rfl, hc3, hs3, hadd⟩; have q3a := hc3.ctrb; have q3b := QO.out w3 hs3; have AD := Lib.hid hadd; clear hc3 hs3 hadd)
                  | (go_at_call 42; (with_reducible refine AD.out.mono ?_); rintro e w4 ⟨rfl, n4, h4, h5, hc4, hs4⟩; have CC4 := Lib.hid hc4; have SS4 := Lib.hid hs4; have NB4 := Lib.hid h5; have q4a := hc4.ctrb; have q4b := QO.out w4 hs4; clear hc4 hs4 h4 h5))

              clear AF AR TH q1a q1b q2a q2b q3a q3b q4a q4b AD OU OV OX ch WF WR wu wv ep wp p1 QO BW q1
              have es2 : (s : Int) < (m : Int) := by omega
              have wi1 : IntKind.i64.wrap ((i : Int) + 1) = (i : Int) + 1 := IntWalk.i64_in _ (by omega)
              have wj1 : IntKind.i64.wrap ((j : Int) + 1) = (j : Int) + 1 := IntWalk.i64_in _ (by omega)
              have WF := Lib.hid (H.out.gi HF.out (S2.out.trans SS4.out))
              have WR := Lib.hid (H.out.gi HR.out (S2.out.trans SS4.out))
              have AF := Lib.hid (at_gi (c := ca) WF.out FACTS.out.2.2.1 FACTS.out.2.2.2.2.2.2.1 (show i + 1 ≤ 100 by have := JB.out; omega) w4.drew rfl)
              have AR := Lib.hid (at_gi (c := cr) WR.out FACTS.out.2.2.2.1 FACTS.out.2.2.2.2.2.2.2.1 (show j + 1 ≤ 100 by have := JB.out; omega) w4.drew rfl)
              have OU := Lib.hid (ok_atv FACTS.out.2.2.2.2.2.2.2.2.2.1 (i + 1))
              have OV := Lib.hid (ok_atv FACTS.out.2.2.2.2.2.2.2.2.2.2 (j + 1))
              have OX := Lib.hid (ok_getD FACTS.out.2.2.2.2.2.2.2.2.1 (s))
              have ch := (H.out.gi HO.out (S2.out.trans SS4.out)).cell (s) (by have := FACTS.out; have := JB.out; have := HS.out; omega)
              obtain ⟨x, hx⟩ : ∃ x, x = lo.getD (s) 0 := ⟨_, rfl⟩
              obtain ⟨u, hu⟩ : ∃ u, u = atv lf (i + 1) := ⟨_, rfl⟩
              obtain ⟨v, hv⟩ : ∃ v, v = atv lr (j + 1) := ⟨_, rfl⟩
              rw [← hx] at ch OX
              have q1 := And.intro CC4.out.ctrb ch
              have QO : Hid (∀ W', Stp Z tb g w4 W' → W'.cell? ⟨qo, s, none⟩ = some (.int .i64 x)) := Lib.hid (fun W' hs => by rw [hx]; exact (H.out.gi HO.out ((S2.out.trans SS4.out).trans hs)).cell (s) (by have := FACTS.out; have := JB.out; have := HS.out; omega))
              rw [← hu] at AF OU
              rw [← hv] at AR OV
              have wx := OX.out.wr
              rw [show ((i + 1 : Nat) : Int) = (i : Int) + 1 by omega] at AF
              rw [show ((j + 1 : Nat) : Int) = (j : Int) + 1 by omega] at AR
              obtain ⟨r3, hTH⟩ := three CC4.out (show n4 < 262144 by have := N2.out; have := JB.out; have := FACTS.out; have := NB4.out; omega) OX.out.neg OU.out OV.out
              have TH := Lib.hid hTH
              have BW : Hid (Below w4.heap.size w4 (w4.alloc (.cells #[.int .i64 (-x), .int .i64 u, .int .i64 v] 3)).drew) := Lib.hid (((Below.refl w4.heap.size w4).alloc (Nat.le_refl _) (.cells #[.int .i64 (-x), .int .i64 u, .int .i64 v] 3)).drew)
              have q2 := And.intro (CC4.out.below BW.out).ctrb (QO.out _ (CC4.out.stb BW.out).2)
              obtain ⟨q1a, q1b⟩ := q1
              obtain ⟨q2a, q2b⟩ := q2
              have q1 := And.intro q1a q1b
              clear hx hu hv hTH
              go_wp2_with fail
              skip
              go_region_held3 (fun W' => W'.cell? ⟨cb, 1, none⟩ = some (.pointer (some ⟨g, 0, none⟩)) ∧ W'.cell? ⟨qo, s, none⟩ = some (.int .i64 x))
                (first | exact ⟨q1a, q1b⟩ | exact ⟨q2a, q2b⟩ | exact ⟨q3a, q3b⟩ | exact ⟨q4a, q4b⟩ | go_keep)
                (first
                  | (go_at_call 67; (with_reducible refine AF.out.mono ?_); rintro e w' ⟨rfl, rfl⟩)
                  | (go_at_call 67; (with_reducible refine AR.out.mono ?_); rintro e w' ⟨rfl, rfl⟩)
                  | (go_at_call 66; (with_reducible refine TH.out.mono ?_); rintro e w3 ⟨rfl, hc3, hs3, hadd⟩; have q3a := hc3.ctrb; have q3b := QO.out w3 hs3; have AD := Lib.hid hadd; clear hc3 hs3 hadd)
                  | (go_at_call 42; (with_reducible refine AD.out.mono ?_); rintro e w5 ⟨rfl, n5, h4, h5, hc4, hs4⟩; have CC5 := Lib.hid hc4; have SS5 := Lib.hid hs4; have NB5 := Lib.hid h5; have q4a := hc4.ctrb; have q4b := QO.out w5 hs4; clear hc4 hs4 h4 h5))

              go_wp2_with fail
              go_roundw
              case rel => exact ⟨j + 1, n5, by go_num, by have := HJ.out; omega, by have := N2.out; have := NB4.out; have := NB5.out; omega, CC5.out, (S2.out.trans SS4.out).trans SS5.out⟩
              case measure => simp [intOf]; omega
            · have hsm' : ¬ (s : Int) < (m : Int) := by omega
              obtain ⟨p, hp⟩ : ∃ p : Nat, s = p + 1 := ⟨s - 1, by omega⟩
              have ep : (s : Int) - 1 = (p : Int) := by omega
              have wp : IntKind.i64.wrap (p : Int) = (p : Int) := IntWalk.i64_in _ (by omega)
              have p1 : (p : Int) < (m : Int) := by have := JB.out; have := HS.out; omega
              have HP := Lib.hid hp
              have WF := Lib.hid (H.out.gi HF.out S2.out)
              have WR := Lib.hid (H.out.gi HR.out S2.out)
              have AF := Lib.hid (at_gi (c := ca) WF.out FACTS.out.2.2.1 FACTS.out.2.2.2.2.2.2.1 (show i ≤ 100 by have := JB.out; omega) wr.drew rfl)
              have AR := Lib.hid (at_gi (c := cr) WR.out FACTS.out.2.2.2.1 FACTS.out.2.2.2.2.2.2.2.1 (show j ≤ 100 by have := JB.out; omega) wr.drew rfl)
              have OU := Lib.hid (ok_atv FACTS.out.2.2.2.2.2.2.2.2.2.1 (i))
              have OV := Lib.hid (ok_atv FACTS.out.2.2.2.2.2.2.2.2.2.2 (j))
              have OX := Lib.hid (ok_getD FACTS.out.2.2.2.2.2.2.2.2.1 (p))
              have ch := (H.out.gi HO.out S2.out).cell (p) (by have := FACTS.out; have := JB.out; have := HS.out; have := HP.out; omega)
              obtain ⟨x, hx⟩ : ∃ x, x = lo.getD (p) 0 := ⟨_, rfl⟩
              obtain ⟨u, hu⟩ : ∃ u, u = atv lf (i) := ⟨_, rfl⟩
              obtain ⟨v, hv⟩ : ∃ v, v = atv lr (j) := ⟨_, rfl⟩
              rw [← hx] at ch OX
              have q1 := And.intro C2.out.ctrb ch
              have QO : Hid (∀ W', Stp Z tb g wr W' → W'.cell? ⟨qo, p, none⟩ = some (.int .i64 x)) := Lib.hid (fun W' hs => by rw [hx]; exact (H.out.gi HO.out (S2.out.trans hs)).cell (p) (by have := FACTS.out; have := JB.out; have := HS.out; have := HP.out; omega))
              rw [← hu] at AF OU
              rw [← hv] at AR OV
              have wu := OU.out.wr
              have wv := OV.out.wr
              obtain ⟨r3, hTH⟩ := three C2.out (show n2 < 262144 by have := N2.out; have := JB.out; have := FACTS.out;  omega) OX.out OU.out.neg OV.out.neg
              have TH := Lib.hid hTH
              have BW : Hid (Below wr.heap.size wr (wr.alloc (.cells #[.int .i64 x, .int .i64 (-u), .int .i64 (-v)] 3)).drew) := Lib.hid (((Below.refl wr.heap.size wr).alloc (Nat.le_refl _) (.cells #[.int .i64 x, .int .i64 (-u), .int .i64 (-v)] 3)).drew)
              have q2 := And.intro (C2.out.below BW.out).ctrb (QO.out _ (C2.out.stb BW.out).2)
              obtain ⟨q1a, q1b⟩ := q1
              obtain ⟨q2a, q2b⟩ := q2
              have q1 := And.intro q1a q1b
              clear hx hu hv hTH
              clear hp
              go_wp2_with fail
              go_region_held3 (fun W' => W'.cell? ⟨cb, 1, none⟩ = some (.pointer (some ⟨g, 0, none⟩)) ∧ W'.cell? ⟨qo, p, none⟩ = some (.int .i64 x))
                (first | exact ⟨q1a, q1b⟩ | exact ⟨q2a, q2b⟩ | exact ⟨q3a, q3b⟩ | exact ⟨q4a, q4b⟩ | go_keep)
                (first
                  | (go_at_call 67; (with_reducible refine AF.out.mono ?_); rintro e w' ⟨rfl, rfl⟩)
                  | (go_at_call 67; (with_reducible refine AR.out.mono ?_); rintro e w' ⟨rfl, rfl⟩)
                  | (go_at_call 66; (with_reducible refine TH.out.mono ?_); rintro e w3 ⟨rfl, hc3, hs3, hadd⟩; have q3a := hc3.ctrb; have q3b := QO.out w3 hs3; have AD := Lib.hid hadd; clear hc3 hs3 hadd)
                  | (go_at_call 42; (with_reducible refine AD.out.mono ?_); rintro e w4 ⟨rfl, n4, h4, h5, hc4, hs4⟩; have CC4 := Lib.hid hc4; have SS4 := Lib.hid hs4; have NB4 := Lib.hid h5; have q4a := hc4.ctrb; have q4b := QO.out w4 hs4; clear hc4 hs4 h4 h5))

              go_wp2_with fail
              go_roundw
              case rel => exact ⟨j + 1, n4, by go_num, by have := HJ.out; omega, by have := N2.out; have := NB4.out; omega, CC4.out, S2.out.trans SS4.out⟩
              case measure => simp [intOf]; omega
          · have hs0' : ¬ (0 : Int) < (s : Int) := by omega
            have hsm : s < m := by have := FACTS.out; omega
            have hsm' : (s : Int) < (m : Int) := by omega
            have es2 : (s : Int) < (m : Int) := by omega
            have wi1 : IntKind.i64.wrap ((i : Int) + 1) = (i : Int) + 1 := IntWalk.i64_in _ (by omega)
            have wj1 : IntKind.i64.wrap ((j : Int) + 1) = (j : Int) + 1 := IntWalk.i64_in _ (by omega)
            have WF := Lib.hid (H.out.gi HF.out S2.out)
            have WR := Lib.hid (H.out.gi HR.out S2.out)
            have AF := Lib.hid (at_gi (c := ca) WF.out FACTS.out.2.2.1 FACTS.out.2.2.2.2.2.2.1 (show i + 1 ≤ 100 by have := JB.out; omega) wr.drew rfl)
            have AR := Lib.hid (at_gi (c := cr) WR.out FACTS.out.2.2.2.1 FACTS.out.2.2.2.2.2.2.2.1 (show j + 1 ≤ 100 by have := JB.out; omega) wr.drew rfl)
            have OU := Lib.hid (ok_atv FACTS.out.2.2.2.2.2.2.2.2.2.1 (i + 1))
            have OV := Lib.hid (ok_atv FACTS.out.2.2.2.2.2.2.2.2.2.2 (j + 1))
            have OX := Lib.hid (ok_getD FACTS.out.2.2.2.2.2.2.2.2.1 (s))
            have ch := (H.out.gi HO.out S2.out).cell (s) (by have := FACTS.out; have := JB.out; have := HS.out; omega)
            obtain ⟨x, hx⟩ : ∃ x, x = lo.getD (s) 0 := ⟨_, rfl⟩
            obtain ⟨u, hu⟩ : ∃ u, u = atv lf (i + 1) := ⟨_, rfl⟩
            obtain ⟨v, hv⟩ : ∃ v, v = atv lr (j + 1) := ⟨_, rfl⟩
            rw [← hx] at ch OX
            have q1 := And.intro C2.out.ctrb ch
            have QO : Hid (∀ W', Stp Z tb g wr W' → W'.cell? ⟨qo, s, none⟩ = some (.int .i64 x)) := Lib.hid (fun W' hs => by rw [hx]; exact (H.out.gi HO.out (S2.out.trans hs)).cell (s) (by have := FACTS.out; have := JB.out; have := HS.out; omega))
            rw [← hu] at AF OU
            rw [← hv] at AR OV
            have wx := OX.out.wr
            rw [show ((i + 1 : Nat) : Int) = (i : Int) + 1 by omega] at AF
            rw [show ((j + 1 : Nat) : Int) = (j : Int) + 1 by omega] at AR
            obtain ⟨r3, hTH⟩ := three C2.out (show n2 < 262144 by have := N2.out; have := JB.out; have := FACTS.out;  omega) OX.out.neg OU.out OV.out
            have TH := Lib.hid hTH
            have BW : Hid (Below wr.heap.size wr (wr.alloc (.cells #[.int .i64 (-x), .int .i64 u, .int .i64 v] 3)).drew) := Lib.hid (((Below.refl wr.heap.size wr).alloc (Nat.le_refl _) (.cells #[.int .i64 (-x), .int .i64 u, .int .i64 v] 3)).drew)
            have q2 := And.intro (C2.out.below BW.out).ctrb (QO.out _ (C2.out.stb BW.out).2)
            obtain ⟨q1a, q1b⟩ := q1
            obtain ⟨q2a, q2b⟩ := q2
            have q1 := And.intro q1a q1b
            clear hx hu hv hTH
            go_wp2_with fail
            clear hs0 hs0'
            go_region_held3 (fun W' => W'.cell? ⟨cb, 1, none⟩ = some (.pointer (some ⟨g, 0, none⟩)) ∧ W'.cell? ⟨qo, s, none⟩ = some (.int .i64 x))
              (first | exact ⟨q1a, q1b⟩ | exact ⟨q2a, q2b⟩ | exact ⟨q3a, q3b⟩ | exact ⟨q4a, q4b⟩ | go_keep)
              (first
                | (go_at_call 67; (with_reducible refine AF.out.mono ?_); rintro e w' ⟨rfl, rfl⟩)
                | (go_at_call 67; (with_reducible refine AR.out.mono ?_); rintro e w' ⟨rfl, rfl⟩)
                | (go_at_call 66; (with_reducible refine TH.out.mono ?_); rintro e w3 ⟨rfl, hc3, hs3, hadd⟩; have q3a := hc3.ctrb; have q3b := QO.out w3 hs3; have AD := Lib.hid hadd; clear hc3 hs3 hadd)
                | (go_at_call 42; (with_reducible refine AD.out.mono ?_); rintro e w5 ⟨rfl, n5, h4, h5, hc4, hs4⟩; have CC5 := Lib.hid hc4; have SS5 := Lib.hid hs4; have NB5 := Lib.hid h5; have q4a := hc4.ctrb; have q4b := QO.out w5 hs4; clear hc4 hs4 h4 h5))

            go_wp2_with fail
            go_roundw
            case rel => exact ⟨j + 1, n5, by go_num, by have := HJ.out; omega, by have := N2.out; have := NB5.out; omega, CC5.out, S2.out.trans SS5.out⟩
            case measure => simp [intOf]; omega
        · have JZ : Hid (j ≤ 21) := Lib.hid (by have := HJ.out; have := zb.out; omega)
          go_wp2_with fail
          go_roundw
          case rel => exact ⟨i + 1, n2, by go_num, by omega, by have := N2.out; have := JZ.out; omega, C2.out, S2.out⟩
          case measure => simp [intOf]; omega
    · have hlt' : (a : Int) + 1 ≤ (i : Int) := by omega
      have I1 : Hid (i ≤ 21) := Lib.hid (by have := FACTS.out; omega)
      go_wp2_with fail
      go_end0
      exact ⟨rfl, n1, by have := N1.out; have := I1.out; omega, C.out, S.out⟩

end Go.Proofs.Ytcjcnhnpjcgcmaa.Tot
