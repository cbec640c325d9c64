/- Texts of clauses: read whole. -/
import Derived.Test.YtlgakejjakeomaaDoorRdC
import Derived.Test.YtlgakejjakeomaaDoorRdH
namespace Go.Proofs.YtlgakejjakeomaaDoor.Rd
set_option linter.unusedVariables false
set_option linter.unusedSimpArgs false
open Go.RowKit
open Go.Proofs.YtlgakejjakeomaaDoor.Order (IRow ERow)
open Go.Proofs.YtlgakejjakeomaaDoor.Cnf (rowV own_irow keep_of own_low)

def clauseL (l : List Int) : Bs := bodyL l ++ [48, 10]
def restL (cs : List (List Int)) : Bs := cs.flatMap clauseL
def textL (n0 : Int) (cs : List (List Int)) : Bs := [112, 32, 99, 110, 102, 32] ++ Lib.itoa n0 ++ 32 :: Lib.itoa (cs.length : Nat) ++ 10 :: restL cs
theorem restL_app (cs : List (List Int)) (l : List Int) : restL (cs ++ [l]) = restL cs ++ clauseL l := by unfold restL; rw [List.flatMap_append]; simp
theorem restL_len : ∀ cs : List (List Int), cs.length ≤ (restL cs).length
  | [] => Nat.zero_le _
  | l :: cs => by
    have := restL_len cs
    have e : restL (l :: cs) = clauseL l ++ restL cs := by unfold restL; rw [List.flatMap_cons]
    rw [e]
    unfold clauseL
    simp
    omega
/-- rows of numbers that the call made, in a row that it made. -/
structure RowsM (B : Nat) (A : Option Addr) (n c : Nat) (cs : List (List Int)) (VS : List Value) (w : World) : Prop where
  own : w.ownsRow B 73 1 (.slice A n c) n VS
  len : n = cs.length
  each : ∀ i, i < n → ∃ A' n' c', n' = (cs.getD i []).length ∧ VS[i]? = some (.slice A' n' c') ∧ w.ownsRow B 3 1 (.slice A' n' c') n' (rowV (cs.getD i []))
variable {B n c : Nat} {A : Option Addr} {cs : List (List Int)} {VS : List Value} {w w' w1 w2 : World}
theorem RowsM.nil (B : Nat) (w : World) : RowsM B none 0 0 [] [] w := ⟨World.ownsRow_nil _ _ _ _, rfl, fun i hi => absurd hi (Nat.not_lt_zero _)⟩
theorem RowsM.below (h : RowsM B A n c cs VS w) (hb : Below w.heap.size w w') : RowsM B A n c cs VS w' :=
  ⟨keep_of h.own hb, h.len, fun i hi => by
    obtain ⟨A', n', c', h1, h2, h3⟩ := h.each i hi
    exact ⟨A', n', c', h1, h2, keep_of h3 hb⟩⟩
theorem blk_ne {B1 B2 n1 n2 : Nat} {v1 v2 : Value} {x1 x2 : List Value} {e1 e2 : TypeId} (h1 : w.ownsRow B1 e1 1 v1 n1 x1) (h2 : w.ownsRow B2 e2 1 v2 n2 x2) (he : e1 ≠ e2) : v1.ownBlock = none ∨ v1.ownBlock ≠ v2.ownBlock := by
  rcases h1.2 with ⟨rfl, _⟩ | ⟨g1, c1, cur1, rfl, _, hh1, _⟩
  · exact .inl rfl
  · refine .inr (fun e => ?_)
    rcases h2.2 with ⟨rfl, _⟩ | ⟨g2, c2, cur2, rfl, _, hh2, _⟩
    · cases e
    · simp only [Value.ownBlock, Option.some.injEq] at e
      subst e
      rw [hh1] at hh2
      injection hh2 with hh2
      injection hh2 with _ hh2 _
      exact he hh2
theorem RowsM.add {l : List Int} {A1 : Option Addr} {c1 g2 cap2 : Nat} (h : RowsM B A n c cs VS w) (hl : w.ownsRow B 3 1 (.slice A1 l.length c1) l.length (rowV l))
    (hown : w2.ownsRow B 73 1 (.slice (some ⟨g2, 0, none⟩) (n + 1) cap2) (n + 1) (VS ++ [.slice A1 l.length c1])) (hgr : (w.alloc (.cells #[.slice A1 l.length c1] 73)).grownBy w2 (Value.slice A n c).ownBlock) :
    RowsM B (some ⟨g2, 0, none⟩) (n + 1) cap2 (cs ++ [l]) (VS ++ [.slice A1 l.length c1]) w2 := by
  have kA : ∀ {n' : Nat} {u : Value} {xs : List Value}, w.ownsRow B 3 1 u n' xs → w2.ownsRow B 3 1 u n' xs := fun ho => (ho.alloc _).kept hgr (blk_ne ho h.own (by decide))
  have hVS : VS.length = n := by have := h.own.1; simpa using this
  refine ⟨hown, by simp [h.len], fun i hi => ?_⟩
  rcases Nat.lt_or_ge i n with h1 | h1
  · obtain ⟨A', n', c', e1, e2, e3⟩ := h.each i h1
    have e : (cs ++ [l]).getD i [] = cs.getD i [] := by
      rw [List.getD_eq_getElem?_getD, List.getD_eq_getElem?_getD, List.getElem?_append_left (by rw [← h.len]; exact h1)]
    rw [e]
    exact ⟨A', n', c', e1, by rw [List.getElem?_append_left (by omega)]; exact e2, kA e3⟩
  · obtain rfl : i = n := by omega
    have e : (cs ++ [l]).getD i [] = l := by
      rw [List.getD_eq_getElem?_getD, List.getElem?_append_right (by rw [← h.len]; exact Nat.le_refl _), ← h.len, Nat.sub_self]; rfl
    rw [e]
    refine ⟨A1, l.length, c1, rfl, ?_, kA hl⟩
    rw [List.getElem?_append_right (by omega), hVS, Nat.sub_self]
    rfl
theorem RowsM.erow (h : RowsM B A n c cs VS w) : ERow w w.heap.size A cs := by
  rcases h.own.2 with ⟨_, h0⟩ | ⟨g, cap, cur, hv, hb, hh, hc, hm, hs, ht⟩
  · left
    have := h.len
    cases cs with
    | nil => rfl
    | cons x cs => simp at this; omega
  · injection hv with hA _ hcap
    refine .inr ⟨g, 0, hA, lt_of_block hh, fun j hj => ?_⟩
    obtain ⟨A', n', c', e1, e2, e3⟩ := h.each j (by rw [h.len]; exact hj)
    obtain ⟨A2, c2, ev, _, hc2, hcm, hir, _⟩ := own_irow e3
    injection ev with ev1 _ ev2
    subst ev1 ev2
    refine ⟨A', n', c', e1, hc2, hcm, hir, ?_⟩
    have hown := h.own
    subst hA hcap
    have hcell := hown.cellAt j (by rw [h.len]; omega)
    rw [e2] at hcell
    simpa using hcell

/-- what a text is read as. -/
def ReadEnd (s : ByteArray) (w : World) (e : Ending) (w' : World) : Prop :=
  Below w.heap.size w w' ∧ ((e = .returned (.tuple #[.int .i64 0, .slice none 0 0, .bool false])) ∨ ∃ (n0 : Int) (A : Option Addr) (n c : Nat) (cs : List (List Int)), n = cs.length ∧ e = .returned (.tuple #[.int .i64 n0, .slice A n c, .bool true]) ∧ ERow w' w'.heap.size A cs ∧
    s.data.toList = textL n0 cs ∧ (∀ l ∈ cs, OkC n0 l) ∧ 0 ≤ n0 ∧ n0 ≤ 9223372036854775807)
set_option maxHeartbeats 4000000 in
set_option maxRecDepth 100000 in
theorem read_any {B : Nat} {w : World} (h : LV B w) (hB : B ≤ w.heap.size) (s : ByteArray) (hs : s.size ≤ 3000) : Calls Tryd.prog 15 #[.string s] w (ReadEnd s w) := by
  obtain ⟨i0, hi0, hz⟩ := Option.map_eq_some_iff.1 (show (Tryd.prog.info? 73).map (fun i => (i.zero, i.size, i.bytes)) = some (some (.slice none 0 0), 1, 24) by kernel_rfl)
  simp only [Prod.mk.injEq] at hz
  obtain ⟨hz0, hz1, hz2⟩ := hz
  have INF := Lib.hid (And.intro hi0 (And.intro hz0 (And.intro hz1 hz2)))
  have CU := Lib.hid (cut_any s 10 hs w)
  have HV := Lib.hid h
  have HB := Lib.hid hB
  have HS := Lib.hid hs
  clear h hB hs hi0 hz0 hz1 hz2
  go_enter Tryd.func15, Tryd.ntmps15
  go_wp2_with fail
  go_at_call 28; refine CU.out.mono ?_
  rintro e w1 ⟨hd, r0, f, rfl, ⟨k1, hw1⟩, hhd, hr0, hf⟩
  have B1 : Hid (Below w.heap.size w w1) := Lib.hid (by rw [hw1]; exact ⟨rfl, rfl, rfl, Nat.le_refl _, fun _ _ => rfl⟩)
  have HF := Lib.hid hf
  have HD := Lib.hid (head_any (HV.out.below (B1.out.mono HB.out)) (Nat.le_trans HB.out B1.out.size) hd (by have := HS.out; omega))
  have RS0 : Hid (r0.size ≤ 3000) := Lib.hid (by have := HS.out; omega)
  clear hw1 hhd hr0 hf CU
  go_wp2_with fail
  go_at_call 29; refine HD.out.mono ?_
  rintro e w2 ⟨hb2, n0, cnt, okh, rfl, a0, a1, c0, c1, hh⟩
  have B2 : Hid (Below w.heap.size w w2) := Lib.hid (B1.out.trans (hb2.mono B1.out.size))
  have HH := Lib.hid hh
  have HN1 := Lib.hid a1
  have R : Hid (ReadEnd s w (.returned (.tuple #[.int .i64 0, .slice none 0 0, .bool false])) w2) := Lib.hid ⟨B2.out, .inl rfl⟩
  clear hb2 hh HD a0 a1 c0 c1
  cases f
  · go_wp2_with fail
    go_ret3
    exact R.out
  · cases okh
    · go_wp2_with fail
      go_ret3
      exact R.out
    · have HEAD := Lib.hid (HH.out rfl)
      have CUT := Lib.hid (HF.out rfl)
      clear R HH HF
      go_wp2_with fail
      go_loopw [6, 7, 11, 12, 13, 14] (fun rest _ rows _ _ _ wr => ∃ (r : ByteArray) (cs : List (List Int)) (VS : List Value) (A : Option Addr) (n c : Nat), rest = .string r ∧ rows = .slice A n c ∧ r0.data.toList = restL cs ++ r.data.toList ∧ (∀ l ∈ cs, OkC n0 l) ∧ RowsM w.heap.size A n c cs VS wr ∧ Below w.heap.size w wr)
        (fun rest _ _ _ _ _ _ => match rest with | .string r => r.size | _ => 0)
      case atStart => exact ⟨r0, [], [], none, 0, 0, rfl, rfl, rfl, fun l hl => absurd hl List.not_mem_nil, RowsM.nil _ _, B2.out⟩
      case round =>
        obtain ⟨r, cs, VS, A, n, c, rfl, rfl, hrl, hok, hrows, hbw⟩ := hrel
        have RW := Lib.hid hrows
        have BW := Lib.hid hbw
        have RL := Lib.hid hrl
        have OK := Lib.hid hok
        have RZ : Hid (r.size ≤ 3000 ∧ n ≤ 3000 ∧ n = cs.length) := Lib.hid (by
          have h := congrArg List.length hrl
          rw [List.length_append, ← size_l, ← size_l] at h
          have := restL_len cs
          have := RS0.out
          have := hrows.len
          omega)
        clear hrows hbw hrl hok
        by_cases hr : r.toList = []
        · have g0 : (r.toList == []) = true := by rw [hr]; rfl
          have RE : Hid (r.data.toList = []) := Lib.hid (by rw [← Lib.toList_data]; exact hr)
          have n3 : (n : Int) ≤ 3000 := by have := RZ.out; omega
          by_cases hc : (n : Int) = cnt
          · have R : Hid (ReadEnd s w (.returned (.tuple #[.int .i64 n0, .slice A n c, .bool true])) wr) := Lib.hid ⟨BW.out, .inr ⟨n0, A, n, c, cs, RZ.out.2.2, rfl, RW.out.erow, by
              rw [(CUT.out).1, HEAD.out.1, RL.out, RE.out, List.append_nil]
              unfold textL
              rw [← RZ.out.2.2, hc], OK.out, HEAD.out.2, HN1.out⟩⟩
            have g1 : ((n : Int) != cnt) = false := by rw [hc]; simp
            clear hr
            subst hc
            go_wp2_with fail
            go_ret3
            exact R.out
          · have R : Hid (ReadEnd s w (.returned (.tuple #[.int .i64 0, .slice none 0 0, .bool false])) wr) := Lib.hid ⟨BW.out, .inl rfl⟩
            have g1 : ((n : Int) == cnt) = false := beq_eq_false_iff_ne.2 hc
            clear hr
            go_wp2_with fail
            go_ret3
            exact R.out
        · have g0 : (r.toList == []) = false := beq_eq_false_iff_ne.2 hr
          clear hr
          have CU := Lib.hid (cut_any r 10 RZ.out.1 wr)
          go_wp2_with fail
          go_at_call 28; refine CU.out.mono ?_
          rintro e w3 ⟨ln, r2, f, rfl, ⟨k3, hw3⟩, hln, hr2, hf⟩
          have B3 : Hid (Below wr.heap.size wr w3) := Lib.hid (by rw [hw3]; exact ⟨rfl, rfl, rfl, Nat.le_refl _, fun _ _ => rfl⟩)
          have HF := Lib.hid hf
          have CR := Lib.hid (clause_rd (HV.out.below ((BW.out.trans (B3.out.mono BW.out.size)).mono HB.out)) (by have := HB.out; have := BW.out.size; have := B3.out.size; omega) ln (by have := RZ.out; omega) n0 HEAD.out.2 HN1.out)
          clear hw3 hln hr2 hf CU
          go_wp2_with fail
          go_at_call 30; refine CR.out.mono ?_
          rintro e w4 ⟨hb4, rfl | ⟨A1, n1, c1, l, hn1, rfl, hown1, hl1, hok1⟩⟩
          · have B4 : Hid (Below w.heap.size w w4) := Lib.hid (BW.out.trans ((B3.out.trans (hb4.mono B3.out.size)).mono BW.out.size))
            have R : Hid (ReadEnd s w (.returned (.tuple #[.int .i64 0, .slice none 0 0, .bool false])) w4) := Lib.hid ⟨B4.out, .inl rfl⟩
            clear hb4 CR
            cases f
            · go_wp2_with fail
              go_ret3
              exact R.out
            · go_wp2_with fail
              go_ret3
              exact R.out
          · have B34 : Hid (Below wr.heap.size wr w4) := Lib.hid (B3.out.trans (hb4.mono B3.out.size))
            have B4 : Hid (Below w.heap.size w w4) := Lib.hid (BW.out.trans (B34.out.mono BW.out.size))
            have O1 := Lib.hid hown1
            have L1 := Lib.hid hl1
            have K1 := Lib.hid hok1
            have NN1 := Lib.hid hn1
            have R : Hid (ReadEnd s w (.returned (.tuple #[.int .i64 0, .slice none 0 0, .bool false])) w4) := Lib.hid ⟨B4.out, .inl rfl⟩
            clear hb4 CR hown1 hl1 hok1 hn1
            cases f
            · go_wp2_with fail
              go_ret3
              exact R.out
            · have RW4 := Lib.hid (RW.out.below B34.out)
              have h63 : n + 1 ≤ maxLen := by have := RZ.out; unfold maxLen; omega
              have hby : (n + 1) * 24 ≤ 140737488355328 := by have := RZ.out; omega
              have BS : w.heap.size ≤ w4.heap.size := B4.out.size
              obtain ⟨hi0, hz0, hz1, hz2⟩ := INF.out
              have O1' : Hid (w4.ownsRow w.heap.size 3 1 (.slice A1 n1 c1) n1 (rowV l)) := Lib.hid (own_low O1.out (by have := BW.out.size; have := B3.out.size; omega))
              clear R
              go_wp2_with (at_builtin; refine wp_append_one _ rfl (.tmp 53) (.tmp 55) 45 rfl w.heap.size 73 i0 _ 24 Tryd.underlying45 hi0 hz0 hz1 hz2 rfl _ _ _ rfl RW4.out.own _ rfl rfl h63 hby BS ?_; intro g2 cap2 w5 hown2 hg2 hgs2 hbel2 hsz2 hgr2; have O5 := Lib.hid hown2; have B5 := Lib.hid hbel2; have G5 := Lib.hid hgr2; clear hown2 hg2 hgs2 hbel2 hsz2 hgr2)
              go_roundw
              case rel =>
                have e := NN1.out
                subst e
                refine ⟨r2, cs ++ [l], _, some ⟨g2, 0, none⟩, n + 1, cap2, rfl, rfl, ?_, ?_, RW4.out.add O1'.out O5.out G5.out, B4.out.trans B5.out⟩
                · rw [RL.out, (HF.out (by first | rfl | trivial)).1, L1.out, restL_app]
                  unfold clauseL
                  simp
                · intro x hx
                  rw [List.mem_append, List.mem_singleton] at hx
                  rcases hx with hx | rfl
                  · exact OK.out x hx
                  · exact K1.out
              case measure => exact (HF.out (by first | rfl | trivial)).2

end Go.Proofs.YtlgakejjakeomaaDoor.Rd
