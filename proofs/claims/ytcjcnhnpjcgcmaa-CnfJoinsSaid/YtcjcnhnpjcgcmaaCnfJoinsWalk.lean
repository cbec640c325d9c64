/- The law that clauses hold together just if both parts do, walked. -/
import Derived.Test.YtcjcnhnpjcgcmaaCnfN
namespace Go.Proofs.Ytcjcnhnpjcgcmaa.Cnf
set_option linter.unusedVariables false
set_option linter.unusedSimpArgs false
open Go.RowKit Go.Lib
open Go.Proofs.Ytcjcnhnpjcgcmaa.Order (IRow ERow add_at)

/-- 'append(row, xs...)', row the call's own and no nil: nor is what comes of it. -/
theorem wpList_append_no {P : Program} (w : World) {ops : Array Oper} {rest : List Oper} {o : Oper} {a : Act} {Q : Exit → Act → World → Prop} (hgd : o.guard = none) (s x : Operand) (t : TypeId)
    (ho : o.op = .call { callee := .builtin .append, args := #[s, x], argTypes := #[t, t] })
    (base : Nat) (e : TypeId) (i : TypeInfo) (z : Value) (bytes : Nat) (ht : P.underlying t = some (.slice e)) (hi : P.info? e = some i) (hz : i.zero = some z)
    (hsize : i.size = 1) (hby : i.bytes = bytes) (hzs : z.cells.size = 1)
    (g n cap : Nat) (xs : List Value) (hs : a.eval s = .slice (some ⟨g, 0, none⟩) n cap) (hown : w.ownsRow base e 1 (.slice (some ⟨g, 0, none⟩) n cap) n xs)
    (A : Option Addr) (m c : Nat) (news : List Value) (hx : a.eval x = .slice A m c) (hl : news.length = m)
    (hnews : news = [] ∨ ∃ ad, A = some ad ∧ ∀ j u, news[j]? = some u → w.cell? (ad.add j) = some u) (h1 : ∀ u ∈ news, u.oneCell' = true)
    (N : Nat) (hN : n + m = N) (h63 : N ≤ maxLen) (hbytes : N * bytes ≤ 140737488355328) (hbase : base ≤ w.heap.size)
    (h : ∀ g' cap' w', w'.ownsRow base e 1 (.slice (some ⟨g', 0, none⟩) N cap') N (xs ++ news) → w.grownBy w' (some g) → wpList P ops Q rest (a.put o.dst (.slice (some ⟨g', 0, none⟩) N cap')) w') : wpList P ops Q (o :: rest) a w := by
  subst hN
  cases A with
  | some ad =>
    refine wpList_append_own _ hgd s x t ho base e i z 1 bytes ht hi hz hsize hby hzs (by decide) _ n xs hs hown ad m c news hx (by omega) ?_ h1 h63 hbytes hbase ?_
    · intro j u hj
      rcases hnews with e1 | ⟨ad', e1, hc⟩
      · rw [e1] at hj; simp at hj
      · injection e1 with e1; rw [e1]; exact hc j u hj
    · intro v' w' hown' hgrow hnil
      rcases hown'.2 with ⟨e1, _⟩ | ⟨g', cap', cur, e1, _⟩
      · have := (hnil.1 e1).1; cases this
      · subst e1
        exact h g' cap' w' hown' hgrow
  | none =>
    have hnil : news = [] := by
      rcases hnews with e1 | ⟨ad', e1, _⟩
      · exact e1
      · cases e1
    subst hnil
    have hm : m = 0 := by simpa using hl.symm
    subst hm
    have hnc : n ≤ cap := by
      rcases hown.2 with ⟨e1, _⟩ | ⟨g', cap', cur, e1, _, _, hc, _⟩
      · cases e1
      · injection e1 with _ _ e3; omega
    refine wpList_plain hgd fun _ hK => ?_
    have hr : (Builtin.append_ #[t, t] o.type #[.slice (some ⟨g, 0, none⟩) n cap, .slice none 0 c]).run P w = .ok (.slice (some ⟨g, 0, none⟩) n cap) w := by
      simp [Builtin.append_, run_underlying ht, sizeOf, typeInfo, hi, Builtin.lenOf, Builtin.firstCells, storeCells, hnc]
    unfold Oper.wp execOp
    simp only [ho, resolve, invoke, builtin, Sem.run_bind, Sem.run_pure, Result.andThen_ok, List.map_toArray, List.map_cons, List.map_nil, hs, hx, hr]
    exact hK _ _ (h g cap w (by rw [Nat.add_zero, List.append_nil]; exact hown) ⟨rfl, rfl, rfl, Nat.le_refl _, fun k _ _ => rfl⟩)

set_option maxHeartbeats 1000000 in
theorem joins_great (A B C D : Option Addr) (a b : List (List Int)) (n c m d p e k f : Nat) (w : World) (ha : ERow w w.heap.size A a) (hn : n = a.length) (hnm : n ≤ maxLen) (hb : ERow w w.heap.size B b) (hm : m = b.length) (hmm : m ≤ maxLen)
    (h : greatB a = true ∨ greatB b = true ∨ 100 < p ∨ 300 < k) :
    Calls Try.prog 4 #[.slice A n c, .slice B m d, .slice C p e, .slice D k f] w fun e w' => e = .returned (.bool true) ∧ Below w.heap.size w w' := by
  have FX := Lib.hid (fixed_any w)
  have G1 := Lib.hid (great_any A a n c w ha hn hnm)
  have G2 := Lib.hid (great_any B b m d w hb hm hmm)
  obtain ⟨ga, hga⟩ : ∃ ga, ga = greatB a := ⟨_, rfl⟩
  obtain ⟨gb, hgb⟩ : ∃ ga, ga = greatB b := ⟨_, rfl⟩
  rw [← hga] at G1 h
  rw [← hgb] at G2 h
  clear ha hn hnm hb hm hmm hga hgb
  cases ga with
  | true =>
    clear h
    go_enter Try.func4, Try.ntmps4
    go_wp2_with fail
    refine G1.out.mono ?_
    rintro e w' ⟨rfl, rfl⟩
    go_wp2_with fail
    refine FX.out.mono ?_
    rintro e w' ⟨rfl, hb⟩
    have B := Lib.hid hb
    clear hb
    go_wp2_with fail
    go_ret
    exact ⟨rfl, B.out⟩
  | false =>
    cases gb with
    | true =>
      clear h
      go_enter Try.func4, Try.ntmps4
      go_wp2_with fail
      refine G1.out.mono ?_
      rintro e w' ⟨rfl, rfl⟩
      go_wp2_with fail
      refine G2.out.mono ?_
      rintro e w' ⟨rfl, rfl⟩
      go_wp2_with fail
      refine FX.out.mono ?_
      rintro e w' ⟨rfl, hb⟩
      have B := Lib.hid hb
      clear hb
      go_wp2_with fail
      go_ret
      exact ⟨rfl, B.out⟩
    | false =>
      by_cases hp : 100 < p
      · have z : (100 : Int) < (p : Int) := by omega
        clear h
        go_enter Try.func4, Try.ntmps4
        go_wp2_with fail
        refine G1.out.mono ?_
        rintro e w' ⟨rfl, rfl⟩
        go_wp2_with fail
        refine G2.out.mono ?_
        rintro e w' ⟨rfl, rfl⟩
        go_wp2_with fail
        refine FX.out.mono ?_
        rintro e w' ⟨rfl, hb⟩
        have B := Lib.hid hb
        clear hb
        go_wp2_with fail
        go_ret
        exact ⟨rfl, B.out⟩
      · have z1 : (p : Int) ≤ 100 := by omega
        have z : (300 : Int) < (k : Int) := by
          rcases h with h | h | h | h
          · cases h
          · cases h
          · omega
          · omega
        clear h
        go_enter Try.func4, Try.ntmps4
        go_wp2_with fail
        refine G1.out.mono ?_
        rintro e w' ⟨rfl, rfl⟩
        go_wp2_with fail
        refine G2.out.mono ?_
        rintro e w' ⟨rfl, rfl⟩
        go_wp2_with fail
        refine FX.out.mono ?_
        rintro e w' ⟨rfl, hb⟩
        have B := Lib.hid hb
        clear hb
        go_wp2_with fail
        go_ret
        exact ⟨rfl, B.out⟩

theorem rgE_app {a b : List (List Int)} (ha : RgE a) (hb : RgE b) : RgE (a ++ b) := fun l hl => by
  rcases List.mem_append.1 hl with h | h
  · exact ha l h
  · exact hb l h
theorem rg_wide {a : List (List Int)} {more : List Int} (ha : RgE a) (hm : RgL more) : RgE (wideE a more) := fun l hl => by
  obtain ⟨c, hc, rfl⟩ := List.mem_map.1 hl
  intro x hx
  rcases List.mem_append.1 hx with h | h
  · exact ha c hc x h
  · exact hm x h

set_option maxHeartbeats 8000000 in
set_option maxRecDepth 100000 in
theorem joins_main (A B C D : Option Addr) (a b : List (List Int)) (more : List Int) (model : List Bool) (n c m d p e k f : Nat) (w : World) (ha : ERow w w.heap.size A a) (hn : n = a.length) (hnm : n ≤ maxLen) (hb : ERow w w.heap.size B b) (hm : m = b.length) (hmm : m ≤ maxLen)
    (hra : RgE a) (hrb : RgE b) (hmo : IRow w w.heap.size C more) (hp : p = more.length) (hrm : RgL more) (hmd : BRow w w.heap.size D model) (hk : k = model.length) (hkm : k ≤ maxLen)
    (hga : greatB a = false) (hgb : greatB b = false) (hp1 : p ≤ 100) (hk1 : k ≤ 300) :
    Calls Try.prog 4 #[.slice A n c, .slice B m d, .slice C p e, .slice D k f] w fun e w' => e = .returned (.bool true) ∧ Below w.heap.size w w' := by
  have sa := great_small (by omega) (by omega) hga
  have sb := great_small (by omega) (by omega) hgb
  have z1 : (p : Int) ≤ 100 := by omega
  have z2 : (k : Int) ≤ 300 := by omega
  have zn : (n : Int) ≤ 3000 := by omega
  have zm : (m : Int) ≤ 3000 := by omega
  have SA : Hid (n ≤ 3000 ∧ ∀ i, (a.getD i []).length ≤ 3000) := Lib.hid ⟨by omega, sa.2⟩
  have SB : Hid (m ≤ 3000) := Lib.hid (by omega)
  have SP := Lib.hid hp1
  have G1 : Hid (Calls Try.prog 14 #[.slice A n c] w fun e w' => e = .returned (.bool false) ∧ w = w') := Lib.hid (by have h := great_any A a n c w ha hn hnm; rwa [hga] at h)
  have G2 : Hid (Calls Try.prog 14 #[.slice B m d] w fun e w' => e = .returned (.bool false) ∧ w = w') := Lib.hid (by have h := great_any B b m d w hb hm hmm; rwa [hgb] at h)
  have CRW : Hid (∀ W, Below w.heap.size w W → IRow W w.heap.size C more) := Lib.hid (fun W h => hmo.below (Nat.le_refl _) h)
  have DR : Hid (∀ W, Below w.heap.size w W → BRow W W.heap.size D model) := Lib.hid (fun W h => hmd.below h.size h)
  have AE : Hid (∀ W, Below w.heap.size w W → ERow W W.heap.size A a) := Lib.hid (fun W h => ha.below h.size h)
  have BE : Hid (∀ W, Below w.heap.size w W → ERow W W.heap.size B b) := Lib.hid (fun W h => hb.below h.size h)
  obtain ⟨Va, gda, nda, oda⟩ := goods_of ha
  obtain ⟨Vb, gdb, ndb, odb⟩ := goods_of hb
  have GA := Lib.hid gda
  have GBh := Lib.hid gdb
  have NA : Hid (∀ W, Below w.heap.size w W → (Va = [] ∨ ∃ ad, A = some ad ∧ ∀ j u, Va[j]? = some u → W.cell? (ad.add j) = some u)) := Lib.hid (fun W h => news_below nda h)
  have NB : Hid (∀ W, Below w.heap.size w W → (Vb = [] ∨ ∃ ad, B = some ad ∧ ∀ j u, Vb[j]? = some u → W.cell? (ad.add j) = some u)) := Lib.hid (fun W h => news_below ndb h)
  have OA := Lib.hid oda
  have OB := Lib.hid odb
  have LA : Hid (Va.length = n) := Lib.hid (by rw [gda.1, hn])
  have LB : Hid (Vb.length = m) := Lib.hid (by rw [gdb.1, hm])
  have HN := Lib.hid hn
  have HM := Lib.hid hm
  have HP := Lib.hid hp
  have HK := Lib.hid hk
  have RA := Lib.hid hra
  have RB := Lib.hid hrb
  have RM := Lib.hid hrm
  have KM : Hid (k ≤ maxLen) := Lib.hid hkm
  have H1 : Hid (Calls Try.prog 12 #[.slice A n c, .slice D k f] w fun e w' => e = .returned (.bool (holdsB model a)) ∧ Below w.heap.size w w') := Lib.hid (holdsC_any A a n c D model k f w ha hn hnm hra hmd hk hkm)
  have H2 : Hid (∀ W, Below w.heap.size w W → Calls Try.prog 12 #[.slice B m d, .slice D k f] W fun e w' => e = .returned (.bool (holdsB model b)) ∧ Below W.heap.size W w') := Lib.hid (fun W h => holdsC_any B b m d D model k f W (BE.out W h) hm hmm hrb (DR.out W h) hk hkm)
  have HAPP := Lib.hid (holds_app a b model)
  have HWD : Hid (holdsB model a = true → holdsB model (wideE a more) = true) := Lib.hid (fun h => wide_holds h)
  obtain ⟨i0, hi0, hz0, hz1, hz2⟩ := ints_info
  obtain ⟨i1, hj0, hy0, hy1, hy2⟩ := int_info
  have HJ := Lib.hid (And.intro hj0 (And.intro hy0 (And.intro hy1 hy2)))
  obtain ⟨hx, hhx⟩ : ∃ hx, hx = holdsB model a := ⟨_, rfl⟩
  obtain ⟨hy, hhy⟩ : ∃ hx, hx = holdsB model b := ⟨_, rfl⟩
  rw [← hhx] at H1 HAPP HWD
  rw [← hhy] at H2 HAPP
  clear ha hb hmo hmd gda gdb nda ndb oda odb hn hm hp hk hra hrb hrm hkm hnm hmm sa sb hga hgb hp1 hk1 hj0 hy0 hy1 hy2 hhx hhy
  go_enter Try.func4, Try.ntmps4
  go_wp2_with fail
  refine G1.out.mono ?_
  rintro e w' ⟨rfl, rfl⟩
  go_wp2_with fail
  refine G2.out.mono ?_
  rintro e w' ⟨rfl, rfl⟩
  go_wp2_with fail
  refine H1.out.mono ?_
  rintro e w1 ⟨rfl, hb1⟩
  have B1 := Lib.hid hb1
  have H2' := Lib.hid (H2.out w1 hb1)
  clear hb1 H1 H2 G1 G2
  go_wp2_with fail
  refine H2'.out.mono ?_
  rintro e w2 ⟨rfl, hb2⟩
  have B2 := Lib.hid (B1.out.trans (hb2.mono B1.out.size))
  have B3 := Lib.hid (below_alloc B2.out B2.out.size (.cells #[] 22))
  have O3 : Hid ((w2.alloc (.cells #[] 22)).ownsRow w2.heap.size 22 1 (.slice (some ⟨w2.heap.size, 0, none⟩) 0 0) 0 []) := Lib.hid own_madeE
  have N3 := Lib.hid (NA.out _ B3.out)
  have HNA : Hid (0 + n = n) := Lib.hid (by omega)
  have H63 : Hid (n ≤ maxLen) := Lib.hid (by have := SA.out.1; unfold maxLen; omega)
  have HBY : Hid (n * 24 ≤ 140737488355328) := Lib.hid (by have := SA.out.1; omega)
  have H64 : Hid (n + m ≤ maxLen) := Lib.hid (by have := SA.out.1; have := SB.out; unfold maxLen; omega)
  have HBZ : Hid ((n + m) * 24 ≤ 140737488355328) := Lib.hid (by have := SA.out.1; have := SB.out; omega)
  have S3 : Hid (w2.heap.size ≤ (w2.alloc (.cells #[] 22)).heap.size) := Lib.hid (by simp)
  clear hb2 H2'
  go_wp2_with (first
    | (at_builtin; refine wpList_append_no _ (by rfl) (.tmp 37) (.tmp 38) 29 (by rfl) w2.heap.size 22 i0 _ 24 Try.underlying29 hi0 hz0 hz1 hz2 (by rfl) w2.heap.size 0 0 [] (by rfl) O3.out A n c Va (by rfl) LA.out N3.out OA.out n HNA.out H63.out HBY.out S3.out ?_; intro g4 cap4 w4 hown hgrow; have O4 := Lib.hid hown; have B4 := Lib.hid (B3.out.grown hgrow B3.out.size (fun k hk => by have := (O3.out.lt k hk).1; have := B2.out.size; omega)); have N4 := Lib.hid (NB.out w4 B4.out); have S4 : Hid (w2.heap.size ≤ w4.heap.size) := Lib.hid (by have := hgrow.size; have := S3.out; omega); clear hown hgrow)
    | (at_builtin; refine wpList_append_no _ (by rfl) (.tmp 39) (.tmp 40) 29 (by rfl) w2.heap.size 22 i0 _ 24 Try.underlying29 hi0 hz0 hz1 hz2 (by rfl) g4 n cap4 Va (by rfl) O4.out B m d Vb (by rfl) LB.out N4.out OB.out (n + m) rfl H64.out HBZ.out S4.out ?_; intro g5 cap5 w5 hown hgrow; have O5 := Lib.hid hown; have B5 := Lib.hid (B4.out.grown hgrow B4.out.size (fun k hk => by have := (O4.out.lt k hk).1; have := B2.out.size; omega)) ; have O5g : Hid (g5 < w5.heap.size) := Lib.hid (O5.out.lt g5 rfl).2; have B6 := Lib.hid (below_alloc B5.out B5.out.size (.cells #[] 22)); have N6 := Lib.hid (NA.out _ B6.out); have O6 : Hid ((w5.alloc (.cells #[] 22)).ownsRow w5.heap.size 22 1 (.slice (some ⟨w5.heap.size, 0, none⟩) 0 0) 0 []) := Lib.hid own_madeE; have S6 : Hid (w5.heap.size ≤ (w5.alloc (.cells #[] 22)).heap.size) := Lib.hid (by simp); clear hown hgrow)
    | (at_builtin; refine wpList_append_no _ (by rfl) (.tmp 42) (.tmp 43) 29 (by rfl) w5.heap.size 22 i0 _ 24 Try.underlying29 hi0 hz0 hz1 hz2 (by rfl) w5.heap.size 0 0 [] (by rfl) O6.out A n c Va (by rfl) LA.out N6.out OA.out n HNA.out H63.out HBY.out S6.out ?_; intro G capG w7 hown hgrow; have O7 := Lib.hid hown; have B7 := Lib.hid (B6.out.grown hgrow B6.out.size (fun k hk => by have := (O6.out.lt k hk).1; have := B5.out.size; omega)); have O5 := Lib.hid ((O5.out.alloc (.cells #[] 22)).kept hgrow (.inr (by intro e; have := (O5.out.lt _ rfl).2; injection e with e; omega))); clear hown hgrow))
  have J0 : Hid (JR w.heap.size G n 0 a more Va w7) := Lib.hid (JR.first O7.out)
  have GNE : Hid (g5 ≠ G) := Lib.hid (by have := (O5.out.lt g5 rfl); have h2 := (O7.out.lt G rfl).1; intro e; have := O5g.out; omega)
  have O50 := Lib.hid (own_low O5.out B2.out.size)
  have GW : Hid (w.heap.size ≤ G) := Lib.hid (by have h2 := (O7.out.lt G rfl).1; have := B5.out.size; omega)
  clear N3 N4 N6 O3 O4 O6 S3 S4 S6 B3 B4 B6
  have h63n : (n : Int) ≤ 9223372036854775807 := by omega
  have B70 := Lib.hid B7.out
  clear O5 O5g B5 B7 O7
  go_wp2_with fail
  go_loopw [13, 47] (fun _ v wr => ∃ kk : Nat, v = .int .i64 kk ∧ kk ≤ n ∧ Below w.heap.size w wr ∧ JR w.heap.size G n kk a more Va wr ∧ wr.ownsRow w.heap.size 22 1 (.slice (some ⟨g5, 0, none⟩) (n + m) cap5) (n + m) (Va ++ Vb)) (fun _ v _ => n - (intOf v).toNat)
  case atStart => exact ⟨0, rfl, Nat.zero_le _, B70.out, J0.out, O50.out⟩
  case round =>
    obtain ⟨kk, rfl, hkk, hbel, hjr, hown⟩ := hrel
    have BL := Lib.hid hbel
    have JK := Lib.hid hjr
    have OK' := Lib.hid hown
    clear hbel hjr hown B70 J0 O50
    by_cases hlt : kk < n
    · have hlt' : (kk : Int) < (n : Int) := by omega
      obtain ⟨cells, hc1, hc2, -, hc4⟩ := JK.out.row
      obtain ⟨V, v1, v2⟩ := hc4 kk (Nat.le_refl _) hlt
      have GV : Good wr w.heap.size V (a.getD kk []) := by
        obtain ⟨V', e1, e2⟩ := (GA.out.below BL.out).2 kk (by have := HN.out; omega)
        rw [v2] at e1
        injection e1 with e1
        rw [e1]; exact e2
      obtain ⟨Ak, nk, ck, rfl, k1, k2, k3, k4⟩ := GV
      have cz := blk_cell (j := kk) hc1 v1
      have fz := blk_free kk hc1
      have HGl : Hid (G < wr.heap.size) := Lib.hid (lt_of_block hc1)
      have KN := Lib.hid k1
      have LK : Hid (nk ≤ 3000) := Lib.hid (by have := SA.out.2 kk; omega)
      obtain ⟨r, hr⟩ : ∃ r, r = a.getD kk [] := ⟨_, rfl⟩
      have HR := Lib.hid hr
      rw [← hr] at k4 KN
      have BA := Lib.hid (below_alloc BL.out BL.out.size (.cells #[] 3))
      have BX : Hid (Below wr.heap.size wr (wr.alloc (.cells #[] 3))) := Lib.hid ((Below.refl _ _).alloc (Nat.le_refl _) _)
      have OM : Hid ((wr.alloc (.cells #[] 3)).ownsRow wr.heap.size 3 1 (.slice (some ⟨wr.heap.size, 0, none⟩) 0 0) 0 []) := Lib.hid own_made
      have NK := Lib.hid (irow_news (k4.below (B' := (wr.alloc (.cells #[] 3)).heap.size) (by have := BA.out.size; omega) (((Below.refl w.heap.size wr).alloc BL.out.size (.cells #[] 3)))))
      have LK1 : Hid ((rowV r).length = nk) := Lib.hid (by rw [List.length_map]; exact KN.out.symm)
      have ON1 := Lib.hid (rowV_one r)
      have ON2 := Lib.hid (rowV_one more)
      have LM : Hid ((rowV more).length = p) := Lib.hid (by rw [List.length_map]; exact HP.out.symm)
      have K0 : Hid (0 + nk = nk) := Lib.hid (by omega)
      have K63 : Hid (nk ≤ maxLen) := Lib.hid (by have := LK.out; unfold maxLen; omega)
      have KBY : Hid (nk * 8 ≤ 140737488355328) := Lib.hid (by have := LK.out; omega)
      have K64 : Hid (nk + p ≤ maxLen) := Lib.hid (by have := LK.out; have := SP.out; unfold maxLen; omega)
      have KBZ : Hid ((nk + p) * 8 ≤ 140737488355328) := Lib.hid (by have := LK.out; have := SP.out; omega)
      have SX : Hid (wr.heap.size ≤ (wr.alloc (.cells #[] 3)).heap.size) := Lib.hid (by simp)
      have HB1 := Lib.hid hc1
      have cz0 : (wr.alloc (.cells #[] 3)).cell? ⟨G, kk, none⟩ = some (.slice Ak nk ck) := (BX.out.cell (p := ⟨G, kk, none⟩) HGl.out).trans cz
      obtain ⟨hj0, hy0, hy1, hy2⟩ := HJ.out
      clear hr k1 k2 k3 k4 v1 v2 hc1 hc2 hc4
      go_wp2_with (first
        | (at_builtin; refine wpList_append_no _ (by rfl) (.tmp 52) (.tmp 56) 22 (by rfl) wr.heap.size 3 i1 _ 8 Try.underlying22 hj0 hy0 hy1 hy2 (by rfl) wr.heap.size 0 0 [] (by rfl) OM.out Ak nk ck (rowV r) (by rfl) LK1.out NK.out ON1.out nk K0.out K63.out KBY.out SX.out ?_; intro g8 cap8 w8 hown hgrow; have O8 := Lib.hid hown; have B8 : Hid (Below wr.heap.size wr w8) := Lib.hid (BX.out.grown hgrow SX.out (fun k hk => (OM.out.lt k hk).1)); have N8 := Lib.hid (irow_news (CRW.out w8 (BL.out.trans (B8.out.mono BL.out.size)))); have S8 : Hid (wr.heap.size ≤ w8.heap.size) := Lib.hid B8.out.size; clear hown hgrow)
        | (at_builtin; refine wpList_append_no _ (by rfl) (.tmp 57) (.tmp 58) 22 (by rfl) wr.heap.size 3 i1 _ 8 Try.underlying22 hj0 hy0 hy1 hy2 (by rfl) g8 nk cap8 (rowV r) (by rfl) O8.out C p e (rowV more) (by rfl) LM.out N8.out ON2.out (nk + p) rfl K64.out KBZ.out S8.out ?_; intro g9 cap9 w9 hown hgrow; have O9 := Lib.hid hown; have B9 : Hid (Below wr.heap.size wr w9) := Lib.hid (B8.out.grown hgrow S8.out (fun k hk => (O8.out.lt k hk).1)); have cz9 := (B9.out.cell (p := ⟨G, kk, none⟩) HGl.out).trans cz; have fz9 : w9.frozen? ⟨G, kk, none⟩ = false := blk_free kk ((B9.out.block G HGl.out).trans HB1.out); clear hown hgrow))
      have JN : Hid (JR w.heap.size G n (kk + 1) a more Va (w9.setCell ⟨G, kk, none⟩ (.slice (some ⟨g9, 0, none⟩) (nk + p) cap9))) := Lib.hid (JK.out.step hlt B9.out rfl BL.out.size (by
        rw [← HR.out]
        have h := O9.out
        rw [show (r ++ more).length = nk + p by rw [List.length_append]; have := KN.out; have := HP.out; omega]
        simpa using h))
      have BN : Hid (Below w.heap.size w (w9.setCell ⟨G, kk, none⟩ (.slice (some ⟨g9, 0, none⟩) (nk + p) cap9))) := Lib.hid ((BL.out.trans (B9.out.mono BL.out.size)).setCell (p := ⟨G, kk, none⟩) GW.out _)
      have ON : Hid ((w9.setCell ⟨G, kk, none⟩ (.slice (some ⟨g9, 0, none⟩) (nk + p) cap9)).ownsRow w.heap.size 22 1 (.slice (some ⟨g5, 0, none⟩) (n + m) cap5) (n + m) (Va ++ Vb)) := Lib.hid ((keep_of OK'.out B9.out).kept (grown_set w9 ⟨G, kk, none⟩ _) (.inr (by simp [Value.ownBlock]; exact GNE.out)))
      go_roundw
      case rel => exact ⟨kk + 1, by go_num, by omega, BN.out, JN.out, ON.out⟩
      case measure => simp [intOf]; omega
    · obtain rfl : kk = n := by omega
      have EW := Lib.hid (JK.out.erow HN.out.symm)
      have EA := Lib.hid (erow_own OK'.out (goods_app (GA.out.below BL.out) (GBh.out.below BL.out)) BL.out.size)
      have WL : Hid (kk = (wideE a more).length) := Lib.hid (by unfold wideE; rw [List.length_map]; exact HN.out)
      have FX := Lib.hid (fixed_any wr)
      clear JK OK'
      go_wp2_with fail
      refine FX.out.mono ?_
      rintro e w8 ⟨rfl, hb8⟩
      have B8 := Lib.hid (BL.out.trans (hb8.mono BL.out.size))
      have EW8 := Lib.hid (EW.out.below hb8.size hb8)
      have EA8 := Lib.hid (EA.out.2.below hb8.size hb8)
      have HA8 : Hid (Calls Try.prog 12 #[.slice (some ⟨g5, 0, none⟩) (kk + m) cap5, .slice D k f] w8 fun e w' => e = .returned (.bool (hx && hy)) ∧ Below w8.heap.size w8 w') := Lib.hid (by
        have h := holdsC_any (some ⟨g5, 0, none⟩) (a ++ b) (kk + m) cap5 D model k f w8 EA8.out EA.out.1 H64.out (rgE_app RA.out RB.out) (DR.out w8 B8.out) HK.out KM.out
        rwa [HAPP.out] at h)
      have T : Hid (∀ W, Below w8.heap.size w8 W → Calls Try.prog 15 #[.slice (some ⟨g5, 0, none⟩) (kk + m) cap5] W fun e w' => e = .returned (.int .i64 (max (atomsM a) (atomsM b))) ∧ W = w') := Lib.hid (fun W h => by
        have t := atoms_any (some ⟨g5, 0, none⟩) (a ++ b) (kk + m) cap5 W (EA8.out.below h.size h) EA.out.1 H64.out (rgE_app RA.out RB.out)
        rwa [atomsM_app] at t)
      have T1 : Hid (∀ W, Below w8.heap.size w8 W → Calls Try.prog 15 #[.slice A kk c] W fun e w' => e = .returned (.int .i64 (atomsM a)) ∧ W = w') := Lib.hid (fun W h => atoms_any A a kk c W (AE.out W (B8.out.trans (h.mono B8.out.size))) HN.out H63.out RA.out)
      have T2 : Hid (∀ W, Below w8.heap.size w8 W → Calls Try.prog 15 #[.slice B m d] W fun e w' => e = .returned (.int .i64 (atomsM b)) ∧ W = w') := Lib.hid (fun W h => atoms_any B b m d W (BE.out W (B8.out.trans (h.mono B8.out.size))) HM.out (by have := SB.out; unfold maxLen; omega) RB.out)
      obtain ⟨qa, hqa⟩ : ∃ q, q = atomsM a := ⟨_, rfl⟩
      obtain ⟨qb, hqb⟩ : ∃ q, q = atomsM b := ⟨_, rfl⟩
      rw [← hqa] at T T1
      rw [← hqb] at T T2
      have EQ : (hy == hy) = true := by cases hy <;> rfl
      clear hb8 FX EW EA hqa hqb
      cases hx with
      | false =>
        go_wp2_with fail
        refine HA8.out.mono ?_
        rintro e w9 ⟨rfl, hb9⟩
        have B9 := Lib.hid (B8.out.trans (hb9.mono B8.out.size))
        have T' := Lib.hid (T.out w9 hb9)
        have T1' := Lib.hid (T1.out w9 hb9)
        have T2' := Lib.hid (T2.out w9 hb9)
        clear hb9 HA8 T T1 T2
        go_wp2_with fail
        refine T'.out.mono ?_
        rintro e w' ⟨rfl, rfl⟩
        go_wp2_with fail
        refine T1'.out.mono ?_
        rintro e w' ⟨rfl, rfl⟩
        go_wp2_with fail
        refine T2'.out.mono ?_
        rintro e w' ⟨rfl, rfl⟩
        go_wp2_with fail
        go_ret
        exact ⟨rfl, B9.out⟩
      | true =>
        have HW8 : Hid (∀ W, Below w8.heap.size w8 W → Calls Try.prog 12 #[.slice (some ⟨G, 0, none⟩) kk capG, .slice D k f] W fun e w' => e = .returned (.bool true) ∧ Below W.heap.size W w') := Lib.hid (fun W h => by
          have t := holdsC_any (some ⟨G, 0, none⟩) (wideE a more) kk capG D model k f W (EW8.out.below h.size h) WL.out H63.out (rg_wide RA.out RM.out) (DR.out W (B8.out.trans (h.mono B8.out.size))) HK.out KM.out
          rwa [HWD.out rfl] at t)
        go_wp2_with fail
        refine HA8.out.mono ?_
        rintro e w9 ⟨rfl, hb9⟩
        have B9 := Lib.hid (B8.out.trans (hb9.mono B8.out.size))
        have HW9 := Lib.hid (HW8.out w9 hb9)
        have H89 := Lib.hid hb9
        clear hb9 HA8 HW8
        go_wp2_with fail
        refine HW9.out.mono ?_
        rintro e w10 ⟨rfl, hb10⟩
        have B10 := Lib.hid (B9.out.trans (hb10.mono B9.out.size))
        have h810 := H89.out.trans (hb10.mono H89.out.size)
        have T' := Lib.hid (T.out w10 h810)
        have T1' := Lib.hid (T1.out w10 h810)
        have T2' := Lib.hid (T2.out w10 h810)
        clear hb10 HW9 T T1 T2 h810
        go_wp2_with fail
        refine T'.out.mono ?_
        rintro e w' ⟨rfl, rfl⟩
        go_wp2_with fail
        refine T1'.out.mono ?_
        rintro e w' ⟨rfl, rfl⟩
        go_wp2_with fail
        refine T2'.out.mono ?_
        rintro e w' ⟨rfl, rfl⟩
        go_wp2_with fail
        go_ret
        exact ⟨rfl, B10.out⟩

theorem law_joinsI (A : Option Addr) (a : List (List Int)) (n c : Nat) (B : Option Addr) (b : List (List Int)) (m d : Nat) (C : Option Addr) (more : List Int) (p e : Nat) (D : Option Addr) (model : List Bool) (k f : Nat) (w : World)
    (ha : ERow w w.heap.size A a) (hn : n = a.length) (hnc : n ≤ c) (hc : c ≤ maxLen) (fa : Order.FitE a) (hb : ERow w w.heap.size B b) (hm : m = b.length) (hmd : m ≤ d) (hd : d ≤ maxLen) (fb : Order.FitE b)
    (hmo : IRow w w.heap.size C more) (hp : p = more.length) (hpe : p ≤ e) (he : e ≤ maxLen) (fm : ∀ t ∈ more, (Lit.int .i64 t).wf = true) (hmd' : BRow w w.heap.size D model) (hk : k = model.length) (hkf : k ≤ f) (hf : f ≤ maxLen) (_ : True) :
    Calls Try.prog 4 #[.slice A n c, .slice B m d, .slice C p e, .slice D k f] w fun e w' => e = .returned (.bool true) ∧ Below w.heap.size w w' := by
  by_cases h : greatB a = true ∨ greatB b = true ∨ 100 < p ∨ 300 < k
  · exact joins_great A B C D a b n c m d p e k f w ha hn (by omega) hb hm (by omega) h
  · have h1 : greatB a = false := by cases e : greatB a <;> simp_all
    have h2 : greatB b = false := by cases e : greatB b <;> simp_all
    exact joins_main A B C D a b more model n c m d p e k f w ha hn (by omega) hb hm (by omega) (fun l hl x hx => rg_of (fa l hl x hx)) (fun l hl x hx => rg_of (fb l hl x hx)) hmo hp (fun x hx => rg_of (fm x hx)) hmd' hk (by omega) h1 h2 (by omega) (by omega)

end Go.Proofs.Ytcjcnhnpjcgcmaa.Cnf
