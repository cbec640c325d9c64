/- The law that a clause's form is the same, whichever order its literals stand in, walked. -/
import Derived.Test.YtcjcnhnpjcgcmaaCnfL
namespace Go.Proofs.Ytcjcnhnpjcgcmaa.Cnf
set_option linter.unusedVariables false
set_option linter.unusedSimpArgs false
open Go.RowKit Go.Lib
open Go.Proofs.Ytcjcnhnpjcgcmaa.Order (IRow ERow add_at)

/-- 'append(row, xs...)', row the call's own and no nil, xs nil, empty or not. -/
theorem wpList_append_any {P : Program} (w : World) {ops : Array Oper} {rest : List Oper} {o : Oper} {a : Act} {Q : Exit → Act → World → Prop} (hgd : o.guard = none) (s x : Operand) (t : TypeId)
    (ho : o.op = .call { callee := .builtin .append, args := #[s, x], argTypes := #[t, t] })
    (base : Nat) (e : TypeId) (i : TypeInfo) (z : Value) (bytes : Nat) (ht : P.underlying t = some (.slice e)) (hi : P.info? e = some i) (hz : i.zero = some z)
    (hsize : i.size = 1) (hby : i.bytes = bytes) (hzs : z.cells.size = 1)
    (g n cap : Nat) (xs : List Value) (hs : a.eval s = .slice (some ⟨g, 0, none⟩) n cap) (hown : w.ownsRow base e 1 (.slice (some ⟨g, 0, none⟩) n cap) n xs)
    (A : Option Addr) (m c : Nat) (news : List Value) (hx : a.eval x = .slice A m c) (hl : news.length = m)
    (hnews : news = [] ∨ ∃ ad, A = some ad ∧ ∀ j u, news[j]? = some u → w.cell? (ad.add j) = some u) (h1 : ∀ u ∈ news, u.oneCell' = true)
    (h63 : n + m ≤ maxLen) (hbytes : (n + m) * bytes ≤ 140737488355328) (hbase : base ≤ w.heap.size)
    (h : ∀ v' w', w'.ownsRow base e 1 v' (n + m) (xs ++ news) → w.grownBy w' (some g) → wpList P ops Q rest (a.put o.dst v') w') : wpList P ops Q (o :: rest) a w := by
  cases A with
  | some ad =>
    refine wpList_append_own _ hgd s x t ho base e i z 1 bytes ht hi hz hsize hby hzs (by decide) _ n xs hs hown ad m c news hx (by omega) ?_ h1 h63 hbytes hbase ?_
    · intro j u hj
      rcases hnews with e1 | ⟨ad', e1, hc⟩
      · rw [e1] at hj; simp at hj
      · injection e1 with e1; rw [e1]; exact hc j u hj
    · intro v' w' hown' hgrow _
      exact h v' w' hown' hgrow
  | none =>
    have hnil : news = [] := by
      rcases hnews with e1 | ⟨ad', e1, _⟩
      · exact e1
      · cases e1
    subst hnil
    have hm : m = 0 := by simpa using hl.symm
    subst hm
    have hnc : n ≤ cap := by
      rcases hown.2 with ⟨e1, _⟩ | ⟨g', cap', cur, e1, _, _, hc, _⟩
      · cases e1
      · injection e1 with _ _ e3; omega
    refine wpList_plain hgd fun _ hK => ?_
    have hr : (Builtin.append_ #[t, t] o.type #[.slice (some ⟨g, 0, none⟩) n cap, .slice none 0 c]).run P w = .ok (.slice (some ⟨g, 0, none⟩) n cap) w := by
      simp [Builtin.append_, run_underlying ht, sizeOf, typeInfo, hi, Builtin.lenOf, Builtin.firstCells, storeCells, hnc]
    unfold Oper.wp execOp
    simp only [ho, resolve, invoke, builtin, Sem.run_bind, Sem.run_pure, Result.andThen_ok, List.map_toArray, List.map_cons, List.map_nil, hs, hx, hr]
    exact hK _ _ (h _ w (by rw [Nat.add_zero, List.append_nil]; exact hown) ⟨rfl, rfl, rfl, Nat.le_refl _, fun k _ _ => rfl⟩)

theorem own_made1 {w : World} (x : Int) : (w.alloc (.cells #[.int .i64 x] 3)).ownsRow w.heap.size 3 1 (.slice (some ⟨w.heap.size, 0, none⟩) 1 1) 1 [.int .i64 x] :=
  ⟨rfl, .inr ⟨w.heap.size, 1, #[.int .i64 x], rfl, Nat.le_refl _, heap_alloc_new w _, Nat.le_refl _, by unfold maxLen; omega, rfl, rfl⟩⟩

/-- so far these ones stand in the other row. -/
def Put (l : List Int) (t k : Nat) (xs : List Int) : Prop := xs.length = k + k ∧ ∀ y, y ∈ xs ↔ ∃ j, j < k ∧ y = l.getD ((j + t) % l.length) 0
theorem Put.first (l : List Int) (t : Nat) : Put l t 0 [] := ⟨rfl, fun y => by simp⟩
theorem Put.next {l : List Int} {t k : Nat} {xs : List Int} (h : Put l t k xs) {x : Int} (hx : x = l.getD ((k + t) % l.length) 0) : Put l t (k + 1) (x :: xs ++ [x]) := by
  refine ⟨by simp [h.1]; omega, fun y => ?_⟩
  simp only [List.cons_append, List.mem_cons, List.mem_append, h.2]
  constructor
  · rintro (h1 | ⟨j, hj, e⟩ | h1)
    · exact ⟨k, by omega, by rw [h1, hx]⟩
    · exact ⟨j, by omega, e⟩
    · simp at h1; exact ⟨k, by omega, by rw [h1, hx]⟩
  · rintro ⟨j, hj, e⟩
    rcases Nat.lt_or_ge j k with h1 | h1
    · exact .inr (.inl ⟨j, h1, e⟩)
    · left; rw [e, hx]; congr 2; omega
theorem Put.done {l : List Int} {t : Nat} {xs : List Int} (h : Put l t l.length xs) : ∀ x, x ∈ xs ↔ x ∈ l := by
  intro y
  rw [h.2]
  constructor
  · rintro ⟨j, hj, e⟩
    have hlt : (j + t) % l.length < l.length := Nat.mod_lt _ (by omega)
    rw [e, List.getD_eq_getElem?_getD, List.getElem?_eq_getElem hlt]
    exact List.getElem_mem _
  · intro hy
    obtain ⟨p, hp, e⟩ := List.getElem_of_mem hy
    refine ⟨(p + (l.length - t % l.length)) % l.length, Nat.mod_lt _ (by omega), ?_⟩
    have ht : t % l.length < l.length := Nat.mod_lt _ (by omega)
    have e2 : ((p + (l.length - t % l.length)) % l.length + t) % l.length = p := by
      rw [Nat.mod_add_mod, ← Nat.add_mod_mod, show p + (l.length - t % l.length) + t % l.length = p + l.length by omega, Nat.add_mod_right, Nat.mod_eq_of_lt hp]
    rw [e2, List.getD_eq_getElem?_getD, List.getElem?_eq_getElem hp]
    exact e.symm

/-- the state ahead of a round. -/
structure FS (B : Nat) (l : List Int) (t k : Nat) (xs : List Int) (V : Value) (w wr : World) : Prop where
  bel : Below B w wr
  own : wr.ownsRow B 3 1 V (k + k) (rowV xs)
  put : Put l t k xs

set_option maxHeartbeats 4000000 in
set_option maxRecDepth 100000 in
theorem law_formsI (A : Option Addr) (l : List Int) (n c : Nat) (a : Int) (w : World) (hl : IRow w w.heap.size A l) (hn : n = l.length) (hc : n ≤ c) (hcm : c ≤ maxLen) (hr0 : ∀ t ∈ l, (Lit.int .i64 t).wf = true) (ha : (Lit.int .u8 a).wf = true) :
    Calls Try.prog 5 #[.slice A n c, .int .u8 a] w fun e w' => e = .returned (.bool true) ∧ Below w.heap.size w w' := by
  have hr : RgL l := fun x hx => rg_of (hr0 x hx)
  simp [Lit.wf, IntKind.min, IntKind.max, IntKind.signed, IntKind.bits] at ha
  obtain ⟨t, rfl⟩ : ∃ t : Nat, a = (t : Int) := ⟨a.toNat, by omega⟩
  have ht : (t : Int) ≤ 255 := by omega
  have FX := Lib.hid (fixed_any w)
  by_cases h1 : 100 < n
  · have z : (100 : Int) < (n : Int) := by omega
    clear hl hn hc hcm hr0 hr ha
    go_enter Try.func5, Try.ntmps5
    go_wp2_with fail
    refine FX.out.mono ?_
    rintro e w' ⟨rfl, hb⟩
    have B := Lib.hid hb
    clear hb
    go_wp2_with fail
    go_ret
    exact ⟨rfl, B.out⟩
  have z1 : (n : Int) ≤ 100 := by omega
  obtain ⟨i0, hi0, hz0, hz1, hz2⟩ := int_info
  have HI := Lib.hid (And.intro hi0 (And.intro hz0 (And.intro hz1 hz2)))
  have LR : Hid (∀ W, Below w.heap.size w W → IRow W W.heap.size A l) := Lib.hid (fun W hb => hl.below hb.size hb)
  have HN := Lib.hid hn
  have HR := Lib.hid hr
  have HL := Lib.hid hl
  have N1 : Hid (n ≤ 100) := Lib.hid (by omega)
  have F0 : Hid (FS w.heap.size l t 0 [] (.slice none 0 0) w w) := Lib.hid ⟨Below.refl _ _, World.ownsRow_nil _ _ _ _, Put.first l t⟩
  clear hl hn hc hcm hr0 hr ha h1 hi0 hz0 hz1 hz2 FX
  go_enter Try.func5, Try.ntmps5
  go_wp2_with fail
  go_loopw [5, 6, 7, 18] (fun o _ _ v wr => ∃ (k m : Nat) (xs : List Int) (A' : Option Addr) (c' : Nat), v = .int .i64 k ∧ k ≤ n ∧ m = k + k ∧ o = .slice A' m c' ∧ FS w.heap.size l t k xs (.slice A' m c') w wr) (fun _ _ _ v _ => n - (intOf v).toNat)
  case atStart => exact ⟨0, 0, [], none, 0, rfl, Nat.zero_le _, rfl, rfl, F0.out⟩
  case round =>
    obtain ⟨k, m, xs, A', c', rfl, hk, hmk, rfl, hfs⟩ := hrel
    have FK := Lib.hid hfs
    have HMK := Lib.hid hmk
    clear hfs hmk F0
    by_cases hlt : k < n
    · have hlt' : (k : Int) < (n : Int) := by omega
      rcases HL.out with h' | ⟨b, o, rfl, hb, hcell⟩
      · exfalso; have := HN.out; rw [h'] at this; simp at this; omega
      obtain ⟨q, hq⟩ : ∃ q, q = (k + t) % n := ⟨_, rfl⟩
      have hqn : q < n := by rw [hq]; exact Nat.mod_lt _ (by omega)
      have hqn' : (q : Int) < (n : Int) := by omega
      have ft := (FK.out.bel.cell (p := ⟨b, o + q, none⟩) hb).trans (hcell q (by have := HN.out; omega))
      have e1 : ((k : Int) + (t : Int)).tmod (n : Int) = (q : Int) := by
        rw [hq]
        have := Int.ofNat_tmod (k + t) n
        push_cast at this ⊢
        exact this.symm
      have n0 : ¬ (n : Int) = 0 := by omega
      have n1 : ¬ n = 0 := by omega
      obtain ⟨x, hx⟩ : ∃ x, x = l.getD q 0 := ⟨_, rfl⟩
      rw [← hx] at ft
      have PN : Hid (Put l t (k + 1) (x :: xs ++ [x])) := Lib.hid (FK.out.put.next (by rw [hx, hq, HN.out]))
      clear hx hq hcell
      have OM : Hid ((wr.alloc (.cells #[.int .i64 x] 3)).ownsRow wr.heap.size 3 1 (.slice (some ⟨wr.heap.size, 0, none⟩) 1 1) 1 [.int .i64 x]) := Lib.hid (own_made1 x)
      have BA : Hid (Below w.heap.size w (wr.alloc (.cells #[.int .i64 x] 3))) := Lib.hid (FK.out.bel.alloc FK.out.bel.size _)
      have NEWS : Hid (rowV xs = [] ∨ ∃ ad, A' = some ad ∧ ∀ j u, (rowV xs)[j]? = some u → (wr.alloc (.cells #[.int .i64 x] 3)).cell? (ad.add j) = some u) := Lib.hid (by
        obtain ⟨A1, c1, e, _, _, _, hi, _⟩ := own_irow (FK.out.own.alloc (.cells #[.int .i64 x] 3))
        injection e with e1 e2 e3
        subst e1
        exact irow_news hi)
      have HLX : Hid ((rowV xs).length = m) := Lib.hid (by rw [List.length_map, FK.out.put.1]; exact HMK.out.symm)
      have ONE := Lib.hid (rowV_one xs)
      have H63 : Hid (1 + m ≤ maxLen) := Lib.hid (by have := HMK.out; have := N1.out; unfold maxLen; omega)
      have HBY : Hid ((1 + m) * 8 ≤ 140737488355328) := Lib.hid (by have := HMK.out; have := N1.out; omega)
      have H63B : Hid (1 + m + 1 ≤ maxLen) := Lib.hid (by have := HMK.out; have := N1.out; unfold maxLen; omega)
      have HBYB : Hid ((1 + m + 1) * 8 ≤ 140737488355328) := Lib.hid (by have := HMK.out; have := N1.out; omega)
      have SZ : Hid (wr.heap.size ≤ (wr.alloc (.cells #[.int .i64 x] 3)).heap.size) := Lib.hid (by simp)
      obtain ⟨hi0, hz0, hz1, hz2⟩ := HI.out
      go_wp2_with (first | (at_builtin; refine wpList_append_any _ (by rfl) (.tmp 32) (.tmp 33) 22 (by rfl) wr.heap.size 3 i0 _ 8 Try.underlying22 hi0 hz0 hz1 hz2 (by rfl) wr.heap.size 1 1 [.int .i64 x] (by rfl) OM.out A' m c' (rowV xs) (by rfl) HLX.out NEWS.out ONE.out H63.out HBY.out SZ.out ?_; intro v2 w2 hown hgrow; have O2 := Lib.hid hown; have B2 : Hid (Below w.heap.size w w2) := Lib.hid (BA.out.grown hgrow BA.out.size (fun k hk => by injection hk with hk; have := FK.out.bel.size; omega)); have S2 : Hid (wr.heap.size ≤ w2.heap.size) := Lib.hid (by have := hgrow.size; have := SZ.out; omega); clear hown hgrow; obtain ⟨A2, c2, rfl, -⟩ := own_irow (l := x :: xs) O2.out) | (at_builtin; refine wp_append_one _ rfl (.tmp 34) (.tmp 36) 22 rfl wr.heap.size 3 i0 _ 8 Try.underlying22 hi0 hz0 hz1 hz2 rfl _ _ _ rfl O2.out _ rfl rfl H63B.out HBYB.out S2.out ?_; intro g3 cap3 w3 hown3 hg3 hgs3 hbel3 hsz3 hgr3; have O3 := Lib.hid hown3; have B3 : Hid (Below w.heap.size w w3) := Lib.hid (B2.out.trans (hbel3.mono FK.out.bel.size)); clear hown3 hg3 hgs3 hbel3 hsz3 hgr3))
      have FN : Hid (FS w.heap.size l t (k + 1) (x :: xs ++ [x]) (.slice (some ⟨g3, 0, none⟩) (1 + m + 1) cap3) w w3) := Lib.hid ⟨B3.out, by
        have h := own_low O3.out FK.out.bel.size
        rw [show k + 1 + (k + 1) = 1 + m + 1 by have := HMK.out; omega]
        simpa using h, PN.out⟩
      go_roundw
      case rel => exact ⟨k + 1, 1 + m + 1, _, some ⟨g3, 0, none⟩, cap3, by go_num, by omega, by have := HMK.out; omega, rfl, FN.out⟩
      case measure => simp [intOf]; omega
    · have e : k = n := by omega
      subst e
      have SAME : Hid (∀ x, x ∈ l ↔ x ∈ xs) := Lib.hid (fun x => by have h := FK.out.put; rw [HN.out] at h; exact (h.done x).symm)
      have FE : Hid (formOf xs = formOf l) := Lib.hid (form_perm fun x => (SAME.out x).symm)
      have RX : Hid (RgL xs) := Lib.hid (fun x hx => HR.out x ((SAME.out x).2 hx))
      have F1 := Lib.hid (formC_any A l k c wr (LR.out wr FK.out.bel) HN.out (by have := N1.out; omega) HR.out)
      have XO := Lib.hid FK.out.own
      have B0 := Lib.hid FK.out.bel
      have XL : Hid (m = xs.length) := Lib.hid (by rw [FK.out.put.1]; exact HMK.out)
      rw [← HMK.out] at XO
      clear FK
      go_wp2_with fail
      refine F1.out.mono ?_
      rintro e w1 ⟨v1, b1, rfl, ho1, hb1⟩
      have B1 := Lib.hid (B0.out.trans (hb1.mono B0.out.size))
      have X1 := Lib.hid (own_below XO.out hb1 (Nat.le_refl _))
      have F2 : Hid (Calls Try.prog 9 #[.slice A' m c'] w1 fun e w' => ∃ v b, e = .returned (.tuple #[v, .bool b]) ∧ FormOut w' w1.heap.size v b xs ∧ Below w1.heap.size w1 w') := Lib.hid (by
        obtain ⟨A1, c1, e, _, _, _, hi, _⟩ := own_irow X1.out
        injection e with e1 e2 e3
        subst e1
        exact formC_any A' xs m c' w1 hi XL.out (by have := HMK.out; have := N1.out; omega) RX.out)
      cases hf : formOf l with
      | none =>
        have HF := Lib.hid hf
        have V1 : v1 = .slice none 0 0 ∧ b1 = false := by
          rcases ho1 with ⟨_, h1, h2⟩ | ⟨f', h1, _⟩
          · exact ⟨h1, h2⟩
          · rw [HF.out] at h1; cases h1
        obtain ⟨rfl, rfl⟩ := V1
        clear ho1 hb1 F1 hf
        go_wp2_with fail
        refine F2.out.mono ?_
        rintro e w2 ⟨v2, b2, rfl, ho2, hb2⟩
        have V2 : v2 = .slice none 0 0 ∧ b2 = false := by
          rcases ho2 with ⟨_, h1, h2⟩ | ⟨f', h1, _⟩
          · exact ⟨h1, h2⟩
          · rw [FE.out, HF.out] at h1; cases h1
        obtain ⟨rfl, rfl⟩ := V2
        have B2 := Lib.hid (B1.out.trans (hb2.mono B1.out.size))
        have FX := Lib.hid (fixed_any w2)
        clear ho2 hb2 F2
        go_wp2_with fail
        refine FX.out.mono ?_
        rintro e w3 ⟨rfl, hb3⟩
        have B3 := Lib.hid (B2.out.trans (hb3.mono B2.out.size))
        have S1 : Hid (Calls Try.prog 11 #[.slice none 0 0, .slice none 0 0] w3 fun e w' => e = .returned (.bool true) ∧ ∃ q, w' = w3.drewN q) := Lib.hid
          (same_any none none [] [] 0 0 0 0 w3 (.inl rfl) (.inl rfl) rfl rfl (by unfold maxLen; omega))
        clear hb3 FX
        go_wp2_with fail
        refine S1.out.mono ?_
        rintro e w4 ⟨rfl, q, rfl⟩
        have B4 := Lib.hid (drewN_below B3.out q)
        go_wp2_with fail
        go_ret
        exact ⟨rfl, B4.out⟩
      | some f =>
        have HF := Lib.hid hf
        have V1 : b1 = true ∧ w1.ownsRow wr.heap.size 3 1 v1 f.length (rowV f) := by
          rcases ho1 with ⟨h1, _⟩ | ⟨f', h1, h2, h3⟩
          · rw [HF.out] at h1; cases h1
          · rw [HF.out] at h1; cases h1; exact ⟨h2, h3⟩
        obtain ⟨rfl, hv1⟩ := V1
        obtain ⟨fl, hfl⟩ : ∃ fl, fl = f.length := ⟨_, rfl⟩
        have FL := Lib.hid hfl
        rw [← hfl] at hv1
        have O1 := Lib.hid hv1
        obtain ⟨A1, c1, rfl, -⟩ := own_irow hv1
        clear ho1 hb1 F1 hf hfl hv1
        go_wp2_with fail
        refine F2.out.mono ?_
        rintro e w2 ⟨v2, b2, rfl, ho2, hb2⟩
        have V2 : b2 = true ∧ w2.ownsRow w1.heap.size 3 1 v2 fl (rowV f) := by
          rcases ho2 with ⟨h1, _⟩ | ⟨f', h1, h2, h3⟩
          · rw [FE.out, HF.out] at h1; cases h1
          · rw [FE.out, HF.out] at h1; cases h1; rw [← FL.out] at h3; exact ⟨h2, h3⟩
        obtain ⟨rfl, hv2⟩ := V2
        have O1 := Lib.hid (own_below O1.out hb2 (Nat.le_refl _))
        have O2 := Lib.hid hv2
        obtain ⟨A2, c2, rfl, -⟩ := own_irow hv2
        have B2 := Lib.hid (B1.out.trans (hb2.mono B1.out.size))
        have FX := Lib.hid (fixed_any w2)
        clear ho2 hb2 F2 hv2
        go_wp2_with fail
        refine FX.out.mono ?_
        rintro e w3 ⟨rfl, hb3⟩
        have B3 := Lib.hid (B2.out.trans (hb3.mono B2.out.size))
        have O1 := Lib.hid (own_below O1.out hb3 (Nat.le_refl _))
        have O2 := Lib.hid (own_below O2.out hb3 (Nat.le_refl _))
        have S1 : Hid (Calls Try.prog 11 #[.slice A1 fl c1, .slice A2 fl c2] w3 fun e w' => e = .returned (.bool true) ∧ ∃ q, w' = w3.drewN q) := Lib.hid (by
          obtain ⟨A', c', e, _, h5, h6, hi, _⟩ := own_irow O1.out
          injection e with e1 e2 e3
          subst e1
          obtain ⟨A'', c'', e, _, _, _, hi2, _⟩ := own_irow O2.out
          injection e with e1 e2 e3
          subst e1
          have := same_any A1 A2 f f fl fl c1 c2 w3 hi hi2 FL.out FL.out (by omega)
          simpa using this)
        clear hb3 FX
        go_wp2_with fail
        refine S1.out.mono ?_
        rintro e w4 ⟨rfl, q, rfl⟩
        have B4 := Lib.hid (drewN_below B3.out q)
        go_wp2_with fail
        go_ret
        exact ⟨rfl, B4.out⟩

end Go.Proofs.Ytcjcnhnpjcgcmaa.Cnf
