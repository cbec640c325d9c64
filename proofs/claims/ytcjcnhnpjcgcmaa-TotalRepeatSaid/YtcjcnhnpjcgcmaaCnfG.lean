/- Clauses: the document's own form. -/
import Derived.Test.YtcjcnhnpjcgcmaaCnfF
namespace Go.Proofs.Ytcjcnhnpjcgcmaa.Cnf
set_option linter.unusedVariables false
set_option linter.unusedSimpArgs false
open Go.RowKit Go.Lib
open Go.Proofs.Ytcjcnhnpjcgcmaa.Order (IRow ERow add_at)

theorem insAt_le (out : List Int) (x : Int) : insAt out x ≤ out.length := List.Sublist.length_le (List.takeWhile_sublist _)
theorem insAt_lt : ∀ {out : List Int} {x : Int} {a : Nat}, a < insAt out x → (out.getD a 0).natAbs < x.natAbs
  | [], x, a, h => by simp [insAt] at h
  | y :: out, x, a, h => by
    unfold insAt at h
    rw [List.takeWhile_cons] at h
    split at h
    · rename_i hy
      cases a with
      | zero => simpa using hy
      | succ a =>
        have := insAt_lt (out := out) (x := x) (a := a) (by unfold insAt; simpa using h)
        simpa using this
    · simp at h
theorem insAt_at : ∀ {out : List Int} {x : Int}, insAt out x < out.length → ¬ (out.getD (insAt out x) 0).natAbs < x.natAbs
  | [], x, h => by simp at h
  | y :: out, x, h => by
    unfold insAt at h ⊢
    rw [List.takeWhile_cons] at h ⊢
    split
    · rename_i hy
      rw [if_pos hy] at h
      have := insAt_at (out := out) (x := x) (by unfold insAt; simpa using h)
      simpa [insAt] using this
    · rename_i hy
      simpa using hy

theorem own_lower {w : World} {base base' n : Nat} {v : Value} {xs : List Value} (h : w.ownsRow base 3 1 v n xs) (hb : base' ≤ base) : w.ownsRow base' 3 1 v n xs := by
  refine ⟨h.1, ?_⟩
  rcases h.2 with h1 | ⟨g, cap, cur, h1, h2, h3⟩
  · exact .inl h1
  · exact .inr ⟨g, cap, cur, h1, by omega, h3⟩
theorem own_made {w : World} : (w.alloc (.cells #[] 3)).ownsRow w.heap.size 3 1 (.slice (some ⟨w.heap.size, 0, none⟩) 0 0) 0 [] :=
  ⟨rfl, .inr ⟨w.heap.size, 0, #[], rfl, Nat.le_refl _, heap_alloc_new w _, Nat.le_refl _, Nat.zero_le _, rfl, rfl⟩⟩
theorem rowV_one (l : List Int) : ∀ u ∈ rowV l, u.oneCell' = true := by
  intro u hu
  obtain ⟨x, _, rfl⟩ := List.mem_map.1 hu
  rfl
theorem news_drop {w : World} {g a : Nat} {out : List Int} (h : ∀ j, j < out.length → w.cell? ⟨g, j, none⟩ = some (.int .i64 (out.getD j 0))) :
    ∀ j u, (rowV (out.drop a))[j]? = some u → w.cell? ((⟨g, a, none⟩ : Addr).add j) = some u := by
  intro j u hu
  rw [add_at]
  have hj : a + j < out.length := by
    have := (List.getElem?_eq_some_iff.1 hu).1
    simp at this; omega
  rw [h (a + j) hj, ← hu, List.getElem?_map, List.getElem?_drop, List.getElem?_eq_getElem hj, List.getD_eq_getElem?_getD, List.getElem?_eq_getElem hj]
  rfl
theorem news_none {w : World} {ad : Addr} {a : Nat} {out : List Int} (h : out.drop a = []) : ∀ j u, (rowV (out.drop a))[j]? = some u → w.cell? (ad.add j) = some u := by
  intro j u hu
  rw [h] at hu
  simp at hu
theorem int_info : ∃ i, Try.prog.info? 3 = some i ∧ i.zero = some (.int .i64 0) ∧ i.size = 1 ∧ i.bytes = 8 := by
  obtain ⟨i, hi, hz⟩ := Option.map_eq_some_iff.1 (show (Try.prog.info? 3).map (fun i => (i.zero, i.size, i.bytes)) = some (some (.int .i64 0), 1, 8) by kernel_rfl)
  simp only [Prod.mk.injEq] at hz
  exact ⟨i, hi, hz⟩

/-- the state ahead of a round: a row that is the call's own, and what is still to be put into it. -/
structure RF (B k : Nat) (l out : List Int) (g cap : Nat) (w wr : World) : Prop where
  bel : Below B w wr
  own : wr.ownsRow B 3 1 (.slice (some ⟨g, 0, none⟩) out.length cap) out.length (rowV out)
  asc : Asc out
  ok : ∀ y ∈ out, noneI y = false ∧ Rg y
  few : out.length ≤ k
  left : formFrom out (l.drop k) = formOf l
theorem RF.drew {B k : Nat} {l out : List Int} {g cap : Nat} {w wr : World} (h : RF B k l out g cap w wr) (q : Nat) : RF B k l out g cap w (wr.drewN q) :=
  ⟨drewN_below h.bel q, own_drewN h.own q, h.asc, h.ok, h.few, h.left⟩
theorem RF.first (B : Nat) (l : List Int) (w : World) (hB : B = w.heap.size) : RF B 0 l [] w.heap.size 0 w (w.alloc (.cells #[] 3)) :=
  ⟨by subst hB; exact (Below.refl _ _).alloc (Nat.le_refl _) _, by subst hB; exact own_made, asc_nil, (fun y hy => by cases hy), Nat.le_refl _, rfl⟩
theorem drop_at {l : List Int} {k : Nat} (hk : k < l.length) : l.drop k = l.getD k 0 :: l.drop (k + 1) := by
  rw [List.drop_eq_getElem_cons hk]
  congr 1
  rw [List.getD_eq_getElem?_getD, List.getElem?_eq_getElem hk]; rfl
theorem RF.step {B k : Nat} {l out : List Int} {g cap : Nat} {w wr : World} (h : RF B k l out g cap w wr) (hk : k < l.length) : (stepF out (l.getD k 0)).bind (fun o => formFrom o (l.drop (k + 1))) = formOf l := by
  have := h.left
  rw [drop_at hk] at this
  exact this
theorem RF.fails {B k : Nat} {l out : List Int} {g cap : Nat} {w wr : World} (h : RF B k l out g cap w wr) (hk : k < l.length) (hs : stepF out (l.getD k 0) = none) : formOf l = none := by
  rw [← h.step hk, hs]; rfl
theorem RF.next {B k : Nat} {l out o : List Int} {g cap g' cap' : Nat} {w wr w' : World} (h : RF B k l out g cap w wr) (hk : k < l.length) (hr : RgL l) (hs : stepF out (l.getD k 0) = some o) (hb : Below B w w')
    (hown : w'.ownsRow B 3 1 (.slice (some ⟨g', 0, none⟩) o.length cap') o.length (rowV o)) (hl : o.length ≤ out.length + 1) : RF B (k + 1) l o g' cap' w w' := by
  obtain ⟨h0, h1, h2⟩ := step_some h.asc hs
  refine ⟨hb, hown, h1, fun y hy => ?_, by have := h.few; omega, ?_⟩
  · rcases (h2 y).1 hy with h3 | h3
    · exact h.ok y h3
    · rw [h3]; exact ⟨h0, hr.at hk⟩
  · have := h.step hk
    rw [hs] at this
    exact this
theorem RF.cell {B k : Nat} {l out : List Int} {g cap : Nat} {w wr : World} (h : RF B k l out g cap w wr) {j : Nat} (hj : j < out.length) : wr.cell? ⟨g, j, none⟩ = some (.int .i64 (out.getD j 0)) := by
  obtain ⟨A, c, e, _, _, _, hi, _⟩ := own_irow h.own
  injection e with e1 e2 e3
  subst e1
  rcases hi with hi | ⟨b, o, e, hb, hc⟩
  · rw [hi] at hj; simp at hj
  · injection e with e
    injection e with e1 e2
    subst e1 e2
    have := hc j hj
    rwa [Nat.zero_add] at this
theorem step_same {out : List Int} {x : Int} (h0 : noneI x = false) (h : out[insAt out x]? = some x) (hne : x ≠ -x) : stepF out x = some out := by
  unfold stepF
  rw [h0, h]
  simp [hne]
theorem step_opp {out : List Int} {x : Int} (h : out[insAt out x]? = some (-x)) : stepF out x = none := by
  unfold stepF
  rw [h]
  simp
theorem step_put {out : List Int} {x : Int} (h0 : noneI x = false) (h1 : out[insAt out x]? ≠ some (-x)) (h2 : out[insAt out x]? ≠ some x) : stepF out x = some (out.take (insAt out x) ++ [x] ++ out.drop (insAt out x)) := by
  unfold stepF
  rw [h0, if_neg h1, if_neg h2]
  simp

/-- what the document's form is in memory. -/
def FormR (w : World) (base : Nat) (v : Value) (b : Bool) (l : List Int) : Prop :=
  (formOf l = none ∧ b = false ∧ w.ownsRow base 3 1 v 0 []) ∨ ∃ f, formOf l = some f ∧ b = true ∧ w.ownsRow base 3 1 v f.length (rowV f)

set_option maxHeartbeats 8000000 in
set_option maxRecDepth 100000 in
theorem formR_any (A : Option Addr) (l : List Int) (n c : Nat) (w : World) (h : IRow w w.heap.size A l) (hn : n = l.length) (hm : n ≤ 100000) (hr : RgL l) :
    Calls Try.prog 10 #[.slice A n c] w fun e w' => ∃ v b, e = .returned (.tuple #[v, .bool b]) ∧ FormR w' w.heap.size v b l ∧ Below w.heap.size w w' := by
  have z : (n : Int) ≤ 100000 := by omega
  obtain ⟨i0, hi0, hz0, hz1, hz2⟩ := int_info
  have HI := Lib.hid (And.intro hi0 (And.intro hz0 (And.intro hz1 hz2)))
  have HN := Lib.hid hn
  have H := Lib.hid h
  have HR := Lib.hid hr
  have HM := Lib.hid hm
  have NR : Hid (∀ x W, Rg x → Calls Try.prog 18 #[.int .i64 x] W fun e w' => e = .returned (.bool (noneI x)) ∧ W = w') := Lib.hid (fun x W hx => noneR_any x hx W)
  have AR : Hid (∀ x W, Rg x → Calls Try.prog 19 #[.int .i64 x] W fun e w' => e = .returned (.int .i64 (atomW x)) ∧ w' = W) := Lib.hid (fun x W hx => (atomR_any x hx W).mono fun e w' h => ⟨h.1, h.2.symm⟩)
  have F0 := Lib.hid (RF.first w.heap.size l w rfl)
  clear hn h hm hr hi0 hz0 hz1 hz2
  go_enter Try.func10, Try.ntmps10
  go_wp2_with fail
  go_loopw [4, 5, 6, 7, 11] (fun o _ _ _ v wr => ∃ (k : Nat) (out : List Int) (g cap : Nat), v = .int .i64 k ∧ k ≤ n ∧ o = .slice (some ⟨g, 0, none⟩) out.length cap ∧ RF w.heap.size k l out g cap w wr) (fun _ _ _ _ v _ => n - (intOf v).toNat)
  case atStart => exact ⟨0, [], _, 0, rfl, Nat.zero_le _, rfl, F0.out⟩
  case round =>
    obtain ⟨k, out, g, cap, rfl, hk, rfl, hrf⟩ := hrel
    have RK := Lib.hid hrf
    clear hrf F0
    by_cases hlt : k < n
    · have hlt' : (k : Int) < (n : Int) := by omega
      have KL : Hid (k < l.length) := Lib.hid (by have := HN.out; omega)
      rcases H.out with h' | ⟨b, o, rfl, hb, hcell⟩
      · exfalso; have := KL.out; rw [h'] at this; simp at this
      have ft := (RK.out.bel.cell (p := ⟨b, o + k, none⟩) hb).trans (hcell k KL.out)
      have XR := Lib.hid (HR.out.at KL.out)
      have FAIL := Lib.hid (fun hs => RK.out.fails KL.out hs)
      obtain ⟨wo, hwo⟩ : ∃ wo : World, wo = wr := ⟨_, rfl⟩
      subst hwo
      have NEXT : Hid (∀ (o' : List Int) (g' cap' : Nat) (w' : World), stepF out (l.getD k 0) = some o' → Below w.heap.size w w' → w'.ownsRow w.heap.size 3 1 (.slice (some ⟨g', 0, none⟩) o'.length cap') o'.length (rowV o') → o'.length ≤ out.length + 1 → RF w.heap.size (k + 1) l o' g' cap' w w') :=
        Lib.hid (fun o' g' cap' w' h1 h2 h3 h4 => RK.out.next KL.out HR.out h1 h2 h3 h4)
      obtain ⟨x, hx⟩ : ∃ x, x = l.getD k 0 := ⟨_, rfl⟩
      rw [← hx] at ft XR FAIL NEXT
      have CX : Hid (∀ W, b < w.heap.size → Below w.heap.size w W → W.cell? ⟨b, o + k, none⟩ = some (.int .i64 x)) := Lib.hid (fun W h1 h2 => by rw [hx]; exact (h2.cell (p := ⟨b, o + k, none⟩) h1).trans (hcell k KL.out))
      have HB := Lib.hid hb
      have NX := Lib.hid (NR.out x wo XR.out)
      clear hx hcell hb
      cases hq : noneI x with
      | true =>
        have F : Hid (formOf l = none) := Lib.hid (FAIL.out (by unfold stepF; rw [hq]; rfl))
        have OE := Lib.hid (own_lower (base' := w.heap.size) (own_made (w := wo)) RK.out.bel.size)
        have BE := Lib.hid (RK.out.bel.alloc RK.out.bel.size (.cells #[] 3))
        rw [hq] at NX
        clear hq
        go_wp2_with fail
        refine NX.out.mono ?_
        rintro e w' ⟨rfl, rfl⟩
        go_wp2_with fail
        go_ret2
        exact ⟨_, _, rfl, .inl ⟨F.out, rfl, OE.out⟩, BE.out⟩
      | false =>
        have NONE := Lib.hid hq
        rw [hq] at NX
        have HX0 : Hid (x ≠ -x) := Lib.hid (by intro e; have : x = 0 := by omega
                                               subst this; simp [noneI] at hq)
        have rx1 : -9223372036854775807 ≤ x := by
          have := XR.out.1
          have h2 : ¬ x = -9223372036854775808 := by simp [noneI] at hq; exact hq.2
          omega
        have rx2 : x ≤ 9223372036854775807 := XR.out.2
        have AX : Hid (atomW x = (x.natAbs : Int)) := Lib.hid (atomW_abs hq)
        have OKO : Hid (∀ j, j < out.length → noneI (out.getD j 0) = false ∧ Rg (out.getD j 0)) := Lib.hid (fun j hj => RK.out.ok _ (by
          rw [List.getD_eq_getElem?_getD, List.getElem?_eq_getElem hj]; exact List.getElem_mem _))
        have CAPL : Hid (out.length ≤ cap) := Lib.hid (by obtain ⟨A, c, e, _, h1, _⟩ := own_irow RK.out.own; injection e with _ _ e3; omega)
        have LO : Hid (out.length ≤ 100000) := Lib.hid (by have := RK.out.few; have := HM.out; omega)
        obtain ⟨len, hlen⟩ : ∃ len, len = out.length := ⟨_, rfl⟩
        have zl : (len : Int) ≤ 100000 := by have := LO.out; omega
        have HLEN := Lib.hid hlen
        rw [← hlen]
        clear hq hlen
        go_wp2_with fail
        refine NX.out.mono ?_
        rintro e w' ⟨rfl, rfl⟩
        go_wp2_with fail
        go_loopw [6] (fun v wq => ∃ a : Nat, v = .int .i64 a ∧ a ≤ insAt out x ∧ RF w.heap.size k l out g cap w wq) (fun v _ => len - (intOf v).toNat)
        case atStart => exact ⟨0, rfl, Nat.zero_le _, RK.out⟩
        case round =>
          obtain ⟨a, rfl, ha, hrq⟩ := hrel
          have RQ := Lib.hid hrq
          have HA := Lib.hid ha
          have ft := CX.out wr HB.out RQ.out.bel
          have DQ := Lib.hid (fun q => RQ.out.drew q)
          clear hrq ha
          by_cases hal : a < len
          · have hal' : (a : Int) < (len : Int) := by omega
            have AL : Hid (a < out.length) := Lib.hid (by have := HLEN.out; omega)
            have fy := RQ.out.cell AL.out
            have YR := Lib.hid (OKO.out a AL.out)
            have LTI := Lib.hid (fun h : a < insAt out x => insAt_lt h)
            have ATI := Lib.hid (fun h : insAt out x = a => by have := insAt_at (out := out) (x := x) (by rw [h]; exact AL.out); rw [h] at this; exact this)
            have GETA : Hid (out[a]? = some (out.getD a 0)) := Lib.hid (by rw [List.getD_eq_getElem?_getD, List.getElem?_eq_getElem AL.out]; rfl)
            obtain ⟨y, hy⟩ : ∃ y, y = out.getD a 0 := ⟨_, rfl⟩
            rw [← hy] at fy YR LTI ATI GETA
            have CXA := Lib.hid (fun W => AR.out x W XR.out)
            have CYA := Lib.hid (fun W => AR.out y W YR.out.2)
            have AY : Hid (atomW y = (y.natAbs : Int)) := Lib.hid (atomW_abs YR.out.1)
            have HY := Lib.hid hy
            clear hy
            obtain ⟨p, hp⟩ : ∃ p, p = atomW y := ⟨_, rfl⟩
            obtain ⟨r, hr⟩ : ∃ r, r = atomW x := ⟨_, rfl⟩
            rw [← hp] at CYA AY
            rw [← hr] at CXA AX
            clear hp hr
            by_cases hpr : p < r
            · have F : Hid (a + 1 ≤ insAt out x) := Lib.hid (by
                have h1 := HA.out
                have h2 : insAt out x ≠ a := fun h => ATI.out h (by have := AY.out; have := AX.out; omega)
                omega)
              go_wp2_with fail
              go_quiet ((first | (go_at_call 19; exact Calls.quiet_of_same (CYA.out _)) | (go_at_call 19; exact Calls.quiet_of_same (CXA.out _))))
              go_wp2_with fail
              go_roundw
              case rel => exact ⟨a + 1, by go_num, F.out, DQ.out _⟩
              case measure => simp [intOf]; omega
            · have F : Hid (insAt out x = a) := Lib.hid (by
                rcases Nat.lt_or_ge a (insAt out x) with h | h
                · have := LTI.out h; have := AY.out; have := AX.out; omega
                · have := HA.out; omega)
              have hpr' : r ≤ p := by omega
              go_wp2_with fail
              go_quiet ((first | (go_at_call 19; exact Calls.quiet_of_same (CYA.out _)) | (go_at_call 19; exact Calls.quiet_of_same (CXA.out _))))
              obtain ⟨wq, hwq⟩ : ∃ wq : World, wq = wr.drewN nq := ⟨_, rfl⟩
              have RQ1 := Lib.hid (show RF w.heap.size k l out g cap w wq by rw [hwq]; exact DQ.out nq)
              rw [← hwq]
              clear hwq ft fy RQ DQ CXA CYA
              have ft := CX.out wq HB.out RQ1.out.bel
              have fy := RQ1.out.cell AL.out
              rw [← HY.out] at fy
              go_wp2_with fail
              by_cases hyx : y = -x
              · have FN : Hid (formOf l = none) := Lib.hid (FAIL.out (step_opp (by rw [F.out, GETA.out, hyx])))
                clear HY
                subst hyx
                go_quiet (fail)
                have OE := Lib.hid (own_lower (base' := w.heap.size) (own_made (w := wq.drewN nq)) (show w.heap.size ≤ (wq.drewN nq).heap.size from (RQ1.out.drew nq).bel.size))
                have BE := Lib.hid ((RQ1.out.drew nq).bel.alloc (show w.heap.size ≤ (wq.drewN nq).heap.size from (RQ1.out.drew nq).bel.size) (.cells #[] 3))
                go_wp2_with fail
                go_ret2
                exact ⟨_, _, rfl, .inl ⟨FN.out, rfl, OE.out⟩, BE.out⟩
              · have hb1 : (y == -x) = false := beq_eq_false_iff_ne.2 hyx
                have NY := Lib.hid hyx
                clear hyx
                go_quiet (fail)
                obtain ⟨wr, hwr⟩ : ∃ wr : World, wr = wq.drewN nq := ⟨_, rfl⟩
                have RQ := Lib.hid (show RF w.heap.size k l out g cap w wr by rw [hwr]; exact RQ1.out.drew nq)
                rw [← hwr]
                clear hwr ft fy RQ1
                have ft := CX.out wr HB.out RQ.out.bel
                have fy := RQ.out.cell AL.out
                rw [← HY.out] at fy
                go_wp2_with fail
                by_cases hyx : y = x
                · clear HY
                  subst hyx
                  go_quiet (fail)
                  have FN := Lib.hid (NEXT.out out g cap (wr.drewN nq) (step_same NONE.out (by rw [F.out, GETA.out]) HX0.out) (RQ.out.drew nq).bel (RQ.out.drew nq).own (by omega))
                  go_wp2_with fail
                  go_roundw
                  case rel => exact ⟨k + 1, out, g, cap, by go_num, by omega, by rw [HLEN.out], FN.out⟩
                  case measure => simp [intOf]; omega
                · have hb2 : (y == x) = false := beq_eq_false_iff_ne.2 hyx
                  have NY2 := Lib.hid hyx
                  clear hyx
                  go_quiet (fail)
                  obtain ⟨wq, hwq⟩ : ∃ wq : World, wq = wr.drewN nq := ⟨_, rfl⟩
                  have RQ1 := Lib.hid (show RF w.heap.size k l out g cap w wq by rw [hwq]; exact RQ.out.drew nq)
                  rw [← hwq]
                  clear hwq ft fy RQ
                  have NE1 : Hid (out[insAt out x]? ≠ some (-x)) := Lib.hid (by rw [F.out, GETA.out]; intro e; injection e with e; exact NY.out e)
                  have NE2 : Hid (out[insAt out x]? ≠ some x) := Lib.hid (by rw [F.out, GETA.out]; intro e; injection e with e; exact NY2.out e)
                  have ALA : Hid (a ≤ len) := Lib.hid (by have := AL.out; have := HLEN.out; omega)
                  have OO : Hid ((wq.alloc (.cells #[] 3)).ownsRow wq.heap.size 3 1 (.slice (some ⟨wq.heap.size, 0, none⟩) 0 0) 0 []) := Lib.hid (by exact own_made)
                  have bq : Below wq.heap.size wq (wq.alloc (.cells #[] 3)) := by exact (Below.refl _ _).alloc (Nat.le_refl _) _
                  have SQ : Hid (wq.heap.size ≤ (wq.alloc (.cells #[] 3)).heap.size) := Lib.hid (by have := bq.size; omega)
                  have GB : Hid (w.heap.size ≤ wq.heap.size) := Lib.hid (by have := RQ1.out.bel.size; omega)
                  have gq : g < wq.heap.size := by have := (RQ1.out.own.lt g rfl).2; omega
                  have CO : Hid (∀ W, Below wq.heap.size (wq.alloc (.cells #[] 3)) W → ∀ j, j < out.length → W.cell? ⟨g, j, none⟩ = some (.int .i64 (out.getD j 0))) := Lib.hid (fun W hb j hj => (hb.cell (p := ⟨g, j, none⟩) gq).trans ((bq.cell (p := ⟨g, j, none⟩) gq).trans (RQ1.out.cell hj)))
                  have BW : Hid (Below w.heap.size w (wq.alloc (.cells #[] 3))) := Lib.hid (RQ1.out.bel.trans (bq.mono GB.out))
                  have NEWS : Hid (∀ j u, (rowV (out.take a))[j]? = some u → (wq.alloc (.cells #[] 3)).cell? ((⟨g, 0, none⟩ : Addr).add j) = some u) := Lib.hid (fun j u hu => by
                    rw [add_at]
                    have hj : j < a ∧ j < out.length := by
                      have := (List.getElem?_eq_some_iff.1 hu).1
                      simp at this; omega
                    have hu' : u = .int .i64 (out.getD j 0) := by
                      rw [List.getElem?_map, List.getElem?_take, if_pos hj.1, List.getElem?_eq_getElem hj.2] at hu
                      rw [List.getD_eq_getElem?_getD, List.getElem?_eq_getElem hj.2]
                      simpa using hu.symm
                    rw [hu', Nat.zero_add]
                    exact CO.out (wq.alloc (.cells #[] 3)) (Below.refl _ _) j hj.2)
                  have ALE : Hid (a ≤ out.length) := Lib.hid (by have := insAt_le out x; have := F.out; omega)
                  have L1 : Hid ((rowV (out.take a)).length = a * 1) := Lib.hid (by have := ALE.out; simp; omega)
                  have ONE1 := Lib.hid (rowV_one (out.take a))
                  have H63 : Hid (0 + a ≤ maxLen) := Lib.hid (by unfold maxLen; have := LO.out; have := ALE.out; omega)
                  have HBY : Hid ((0 + a) * 8 ≤ 140737488355328) := Lib.hid (by have := LO.out; have := ALE.out; omega)
                  clear bq gq
                  obtain ⟨hi0, hz0, hz1, hz2⟩ := HI.out
                  have capl := CAPL.out
                  have lenl := HLEN.out
                  have ala := ALA.out
                  have acap : a ≤ cap := by omega
                  have hlc : len ≤ cap := by omega
                  have ONE3 := Lib.hid (rowV_one (out.drop a))
                  have L3 : Hid ((rowV (out.drop a)).length = (len - a) * 1) := Lib.hid (by have := HLEN.out; simp; omega)
                  have H63C : Hid ((a + 1) + (len - a) ≤ maxLen) := Lib.hid (by unfold maxLen; have := LO.out; have := ALE.out; omega)
                  have HBYC : Hid (((a + 1) + (len - a)) * 8 ≤ 140737488355328) := Lib.hid (by have := LO.out; have := ALE.out; omega)
                  clear capl lenl
                  go_wp2_with (first | (at_builtin; refine wpList_append_own _ (by rfl) (.tmp 72) (.tmp 75) 22 (by rfl) wq.heap.size 3 i0 _ 1 8 Try.underlying22 hi0 hz0 hz1 hz2 (by rfl) (by decide) (.slice (some ⟨wq.heap.size, 0, none⟩) 0 0) 0 [] (by rfl) OO.out ⟨g, 0, none⟩ a cap (rowV (out.take a)) (by rfl) L1.out NEWS.out ONE1.out H63.out HBY.out SQ.out ?_; intro v2 w2 hown hgrow _; have O2 : Hid (w2.ownsRow wq.heap.size 3 1 v2 a (rowV (out.take a))) := Lib.hid (by rw [Nat.zero_add, List.nil_append] at hown; exact hown); have B2 : Hid (Below wq.heap.size (wq.alloc (.cells #[] 3)) w2) := Lib.hid ((Below.refl wq.heap.size (wq.alloc (.cells #[] 3))).grown hgrow SQ.out (fun k hk => (OO.out.lt k hk).1)); clear hown hgrow; obtain ⟨A2, c2, rfl, -⟩ := own_irow O2.out; have ftx := CX.out w2 HB.out (BW.out.trans (B2.out.mono GB.out)); have S2 : Hid (wq.heap.size ≤ w2.heap.size) := Lib.hid (by have := B2.out.size; have := SQ.out; omega); have H63B : Hid (a + 1 ≤ maxLen) := Lib.hid (by unfold maxLen; have := LO.out; have := ALE.out; omega); have HBYB : Hid ((a + 1) * 8 ≤ 140737488355328) := Lib.hid (by have := LO.out; have := ALE.out; omega)) | (at_builtin; refine wp_append_one _ rfl (.tmp 77) (.tmp 82) 22 rfl wq.heap.size 3 i0 _ 8 Try.underlying22 hi0 hz0 hz1 hz2 rfl _ _ _ rfl O2.out _ rfl rfl H63B.out HBYB.out S2.out ?_; intro g3 cap3 w3 hown3 hg3 hgs3 hbel3 hsz3 hgr3; have O3 := Lib.hid hown3; have B3 := Lib.hid (B2.out.trans hbel3); have S3 : Hid (wq.heap.size ≤ w3.heap.size) := Lib.hid (by have := S2.out; omega); have NEWS3 : Hid (∀ j u, (rowV (out.drop a))[j]? = some u → w3.cell? ((⟨g, a, none⟩ : Addr).add j) = some u) := Lib.hid (by as_aux_lemma => exact news_drop (fun j hj => CO.out w3 B3.out j hj)); clear hown3 hg3 hgs3 hbel3 hsz3 hgr3 ftx) | (at_builtin; refine wpList_append_own _ (by rfl) (.tmp 84) (.tmp 87) 22 (by rfl) wq.heap.size 3 i0 _ 1 8 Try.underlying22 hi0 hz0 hz1 hz2 (by rfl) (by decide) (.slice (some ⟨g3, 0, none⟩) (a + 1) cap3) (a + 1) (rowV (out.take a) ++ [.int .i64 x]) (by rfl) O3.out ⟨g, a, none⟩ (len - a) (cap - a) (rowV (out.drop a)) (by rfl) L3.out NEWS3.out ONE3.out H63C.out HBYC.out S3.out ?_; intro v4 w4 hown hgrow _; have O4 := Lib.hid hown; have B4 : Hid (Below wq.heap.size w3 w4) := Lib.hid ((Below.refl wq.heap.size w3).grown hgrow S3.out (fun k hk => (O3.out.lt k hk).1)); clear hown hgrow; obtain ⟨g4, cap4, rfl, -⟩ := owned_shape O4.out (by omega)))
                  have BF := Lib.hid (BW.out.trans ((B3.out.trans B4.out).mono GB.out))
                  have NL : (out.take a ++ [x] ++ out.drop a).length = a + 1 + (len - a) := by have := ALE.out; have := HLEN.out; simp; omega
                  have OF : w4.ownsRow w.heap.size 3 1 (.slice (some ⟨g4, 0, none⟩) (out.take a ++ [x] ++ out.drop a).length cap4) (out.take a ++ [x] ++ out.drop a).length (rowV (out.take a ++ [x] ++ out.drop a)) := by
                    rw [NL]
                    have h := own_lower O4.out GB.out
                    simpa using h
                  have ST := step_put NONE.out NE1.out NE2.out
                  rw [F.out] at ST
                  have FN := Lib.hid (NEXT.out _ g4 cap4 w4 ST BF.out OF (by rw [NL]; have := HLEN.out; omega))
                  have NLH := Lib.hid NL
                  clear OF ST NL
                  go_roundw
                  case rel => exact ⟨k + 1, _, g4, cap4, by go_num, by omega, by rw [NLH.out], FN.out⟩
                  case measure => simp [intOf]; omega
          · have F : Hid (insAt out x = a) := Lib.hid (by have := insAt_le out x; have := HA.out; have := HLEN.out; omega)
            have ga : (len : Int) ≤ (a : Int) := by omega
            have GN : Hid (out[insAt out x]? = none) := Lib.hid (by rw [F.out]; exact List.getElem?_eq_none (by have := HLEN.out; omega))
            have NE1 : Hid (out[insAt out x]? ≠ some (-x)) := Lib.hid (by rw [GN.out]; simp)
            have NE2 : Hid (out[insAt out x]? ≠ some x) := Lib.hid (by rw [GN.out]; simp)
            have ALA : Hid (a ≤ len) := Lib.hid (by have := HA.out; have := insAt_le out x; have := HLEN.out; omega)
            go_wp2_with fail
            go_quiet (fail)
            obtain ⟨wa, hwa⟩ : ∃ wa : World, wa = wr.drewN nq := ⟨_, rfl⟩
            have RA := Lib.hid (show RF w.heap.size k l out g cap w wa by rw [hwa]; exact DQ.out nq)
            rw [← hwa]
            clear hwa ft RQ DQ
            go_wp2_with fail
            go_quiet (fail)
            obtain ⟨wb, hwb⟩ : ∃ wb : World, wb = wa.drewN nq := ⟨_, rfl⟩
            have RB := Lib.hid (show RF w.heap.size k l out g cap w wb by rw [hwb]; exact RA.out.drew nq)
            rw [← hwb]
            clear hwb RA
            go_wp2_with fail
            go_quiet (fail)
            obtain ⟨wq, hwq⟩ : ∃ wq : World, wq = wb.drewN nq := ⟨_, rfl⟩
            have RQ1 := Lib.hid (show RF w.heap.size k l out g cap w wq by rw [hwq]; exact RB.out.drew nq)
            rw [← hwq]
            clear hwq RB
            obtain rfl : a = len := by have := ALA.out; omega
            clear hal ga
            by_cases hcap : cap = a
            · subst hcap
              have DN : Hid (out.drop cap = []) := Lib.hid (List.drop_of_length_le (by have := HLEN.out; omega))
              have OO : Hid ((wq.alloc (.cells #[] 3)).ownsRow wq.heap.size 3 1 (.slice (some ⟨wq.heap.size, 0, none⟩) 0 0) 0 []) := Lib.hid (by exact own_made)
              have bq : Below wq.heap.size wq (wq.alloc (.cells #[] 3)) := by exact (Below.refl _ _).alloc (Nat.le_refl _) _
              have SQ : Hid (wq.heap.size ≤ (wq.alloc (.cells #[] 3)).heap.size) := Lib.hid (by have := bq.size; omega)
              have GB : Hid (w.heap.size ≤ wq.heap.size) := Lib.hid (by have := RQ1.out.bel.size; omega)
              have gq : g < wq.heap.size := by have := (RQ1.out.own.lt g rfl).2; omega
              have CO : Hid (∀ W, Below wq.heap.size (wq.alloc (.cells #[] 3)) W → ∀ j, j < out.length → W.cell? ⟨g, j, none⟩ = some (.int .i64 (out.getD j 0))) := Lib.hid (fun W hb j hj => (hb.cell (p := ⟨g, j, none⟩) gq).trans ((bq.cell (p := ⟨g, j, none⟩) gq).trans (RQ1.out.cell hj)))
              have BW : Hid (Below w.heap.size w (wq.alloc (.cells #[] 3))) := Lib.hid (RQ1.out.bel.trans (bq.mono GB.out))
              have NEWS : Hid (∀ j u, (rowV (out.take cap))[j]? = some u → (wq.alloc (.cells #[] 3)).cell? ((⟨g, 0, none⟩ : Addr).add j) = some u) := Lib.hid (fun j u hu => by
                rw [add_at]
                have hj : j < cap ∧ j < out.length := by
                  have := (List.getElem?_eq_some_iff.1 hu).1
                  simp at this; omega
                have hu' : u = .int .i64 (out.getD j 0) := by
                  rw [List.getElem?_map, List.getElem?_take, if_pos hj.1, List.getElem?_eq_getElem hj.2] at hu
                  rw [List.getD_eq_getElem?_getD, List.getElem?_eq_getElem hj.2]
                  simpa using hu.symm
                rw [hu', Nat.zero_add]
                exact CO.out (wq.alloc (.cells #[] 3)) (Below.refl _ _) j hj.2)
              have ALE : Hid (cap ≤ out.length) := Lib.hid (by have := insAt_le out x; have := F.out; omega)
              have L1 : Hid ((rowV (out.take cap)).length = cap * 1) := Lib.hid (by have := ALE.out; simp; omega)
              have ONE1 := Lib.hid (rowV_one (out.take cap))
              have H63 : Hid (0 + cap ≤ maxLen) := Lib.hid (by unfold maxLen; have := LO.out; have := ALE.out; omega)
              have HBY : Hid ((0 + cap) * 8 ≤ 140737488355328) := Lib.hid (by have := LO.out; have := ALE.out; omega)
              clear bq gq
              obtain ⟨hi0, hz0, hz1, hz2⟩ := HI.out
              have capl := CAPL.out
              have lenl := HLEN.out
              have ala := ALA.out
              have acap : cap ≤ cap := by omega
              have hlc : cap ≤ cap := by omega
              have ONE3 := Lib.hid (rowV_one (out.drop cap))
              have L3 : Hid ((rowV (out.drop cap)).length = 0 * 1) := Lib.hid (by have := HLEN.out; simp; omega)
              have H63C : Hid ((cap + 1) + 0 ≤ maxLen) := Lib.hid (by unfold maxLen; have := LO.out; have := ALE.out; omega)
              have HBYC : Hid (((cap + 1) + 0) * 8 ≤ 140737488355328) := Lib.hid (by have := LO.out; have := ALE.out; omega)
              clear capl lenl
              go_wp2_with (first | (at_builtin; refine wpList_append_own _ (by rfl) (.tmp 72) (.tmp 75) 22 (by rfl) wq.heap.size 3 i0 _ 1 8 Try.underlying22 hi0 hz0 hz1 hz2 (by rfl) (by decide) (.slice (some ⟨wq.heap.size, 0, none⟩) 0 0) 0 [] (by rfl) OO.out ⟨g, 0, none⟩ cap cap (rowV (out.take cap)) (by rfl) L1.out NEWS.out ONE1.out H63.out HBY.out SQ.out ?_; intro v2 w2 hown hgrow _; have O2 : Hid (w2.ownsRow wq.heap.size 3 1 v2 cap (rowV (out.take cap))) := Lib.hid (by rw [Nat.zero_add, List.nil_append] at hown; exact hown); have B2 : Hid (Below wq.heap.size (wq.alloc (.cells #[] 3)) w2) := Lib.hid ((Below.refl wq.heap.size (wq.alloc (.cells #[] 3))).grown hgrow SQ.out (fun k hk => (OO.out.lt k hk).1)); clear hown hgrow; obtain ⟨A2, c2, rfl, -⟩ := own_irow O2.out; have ftx := CX.out w2 HB.out (BW.out.trans (B2.out.mono GB.out)); have S2 : Hid (wq.heap.size ≤ w2.heap.size) := Lib.hid (by have := B2.out.size; have := SQ.out; omega); have H63B : Hid (cap + 1 ≤ maxLen) := Lib.hid (by unfold maxLen; have := LO.out; have := ALE.out; omega); have HBYB : Hid ((cap + 1) * 8 ≤ 140737488355328) := Lib.hid (by have := LO.out; have := ALE.out; omega)) | (at_builtin; refine wp_append_one _ rfl (.tmp 77) (.tmp 82) 22 rfl wq.heap.size 3 i0 _ 8 Try.underlying22 hi0 hz0 hz1 hz2 rfl _ _ _ rfl O2.out _ rfl rfl H63B.out HBYB.out S2.out ?_; intro g3 cap3 w3 hown3 hg3 hgs3 hbel3 hsz3 hgr3; have O3 := Lib.hid hown3; have B3 := Lib.hid (B2.out.trans hbel3); have S3 : Hid (wq.heap.size ≤ w3.heap.size) := Lib.hid (by have := S2.out; omega); have NEWS3 : Hid (∀ j u, (rowV (out.drop cap))[j]? = some u → w3.cell? ((⟨g, 0, none⟩ : Addr).add j) = some u) := Lib.hid (by as_aux_lemma => exact news_none DN.out); clear hown3 hg3 hgs3 hbel3 hsz3 hgr3 ftx) | (at_builtin; refine wpList_append_own _ (by rfl) (.tmp 84) (.tmp 87) 22 (by rfl) wq.heap.size 3 i0 _ 1 8 Try.underlying22 hi0 hz0 hz1 hz2 (by rfl) (by decide) (.slice (some ⟨g3, 0, none⟩) (cap + 1) cap3) (cap + 1) (rowV (out.take cap) ++ [.int .i64 x]) (by rfl) O3.out ⟨g, 0, none⟩ 0 0 (rowV (out.drop cap)) (by rfl) L3.out NEWS3.out ONE3.out H63C.out HBYC.out S3.out ?_; intro v4 w4 hown hgrow _; have O4 := Lib.hid hown; have B4 : Hid (Below wq.heap.size w3 w4) := Lib.hid ((Below.refl wq.heap.size w3).grown hgrow S3.out (fun k hk => (O3.out.lt k hk).1)); clear hown hgrow; obtain ⟨g4, cap4, rfl, -⟩ := owned_shape O4.out (by omega)))
              have BF := Lib.hid (BW.out.trans ((B3.out.trans B4.out).mono GB.out))
              have NL : (out.take cap ++ [x] ++ out.drop cap).length = cap + 1 + 0 := by have := ALE.out; have := HLEN.out; simp; omega
              have OF : w4.ownsRow w.heap.size 3 1 (.slice (some ⟨g4, 0, none⟩) (out.take cap ++ [x] ++ out.drop cap).length cap4) (out.take cap ++ [x] ++ out.drop cap).length (rowV (out.take cap ++ [x] ++ out.drop cap)) := by
                rw [NL]
                have h := own_lower O4.out GB.out
                simpa using h
              have ST := step_put NONE.out NE1.out NE2.out
              rw [F.out] at ST
              have FN := Lib.hid (NEXT.out _ g4 cap4 w4 ST BF.out OF (by rw [NL]; have := HLEN.out; omega))
              have NLH := Lib.hid NL
              clear OF ST NL
              go_roundw
              case rel => exact ⟨k + 1, _, g4, cap4, by go_num, by omega, by rw [NLH.out], FN.out⟩
              case measure => simp [intOf]; omega
            · have hcap' : ¬ a = cap := fun e => hcap e.symm
              have DN : Hid (out.drop a = []) := Lib.hid (List.drop_of_length_le (by have := HLEN.out; omega))
              have OO : Hid ((wq.alloc (.cells #[] 3)).ownsRow wq.heap.size 3 1 (.slice (some ⟨wq.heap.size, 0, none⟩) 0 0) 0 []) := Lib.hid (by exact own_made)
              have bq : Below wq.heap.size wq (wq.alloc (.cells #[] 3)) := by exact (Below.refl _ _).alloc (Nat.le_refl _) _
              have SQ : Hid (wq.heap.size ≤ (wq.alloc (.cells #[] 3)).heap.size) := Lib.hid (by have := bq.size; omega)
              have GB : Hid (w.heap.size ≤ wq.heap.size) := Lib.hid (by have := RQ1.out.bel.size; omega)
              have gq : g < wq.heap.size := by have := (RQ1.out.own.lt g rfl).2; omega
              have CO : Hid (∀ W, Below wq.heap.size (wq.alloc (.cells #[] 3)) W → ∀ j, j < out.length → W.cell? ⟨g, j, none⟩ = some (.int .i64 (out.getD j 0))) := Lib.hid (fun W hb j hj => (hb.cell (p := ⟨g, j, none⟩) gq).trans ((bq.cell (p := ⟨g, j, none⟩) gq).trans (RQ1.out.cell hj)))
              have BW : Hid (Below w.heap.size w (wq.alloc (.cells #[] 3))) := Lib.hid (RQ1.out.bel.trans (bq.mono GB.out))
              have NEWS : Hid (∀ j u, (rowV (out.take a))[j]? = some u → (wq.alloc (.cells #[] 3)).cell? ((⟨g, 0, none⟩ : Addr).add j) = some u) := Lib.hid (fun j u hu => by
                rw [add_at]
                have hj : j < a ∧ j < out.length := by
                  have := (List.getElem?_eq_some_iff.1 hu).1
                  simp at this; omega
                have hu' : u = .int .i64 (out.getD j 0) := by
                  rw [List.getElem?_map, List.getElem?_take, if_pos hj.1, List.getElem?_eq_getElem hj.2] at hu
                  rw [List.getD_eq_getElem?_getD, List.getElem?_eq_getElem hj.2]
                  simpa using hu.symm
                rw [hu', Nat.zero_add]
                exact CO.out (wq.alloc (.cells #[] 3)) (Below.refl _ _) j hj.2)
              have ALE : Hid (a ≤ out.length) := Lib.hid (by have := insAt_le out x; have := F.out; omega)
              have L1 : Hid ((rowV (out.take a)).length = a * 1) := Lib.hid (by have := ALE.out; simp; omega)
              have ONE1 := Lib.hid (rowV_one (out.take a))
              have H63 : Hid (0 + a ≤ maxLen) := Lib.hid (by unfold maxLen; have := LO.out; have := ALE.out; omega)
              have HBY : Hid ((0 + a) * 8 ≤ 140737488355328) := Lib.hid (by have := LO.out; have := ALE.out; omega)
              clear bq gq
              obtain ⟨hi0, hz0, hz1, hz2⟩ := HI.out
              have capl := CAPL.out
              have lenl := HLEN.out
              have ala := ALA.out
              have acap : a ≤ cap := by omega
              have hlc : a ≤ cap := by omega
              have ONE3 := Lib.hid (rowV_one (out.drop a))
              have L3 : Hid ((rowV (out.drop a)).length = 0 * 1) := Lib.hid (by have := HLEN.out; simp; omega)
              have H63C : Hid ((a + 1) + 0 ≤ maxLen) := Lib.hid (by unfold maxLen; have := LO.out; have := ALE.out; omega)
              have HBYC : Hid (((a + 1) + 0) * 8 ≤ 140737488355328) := Lib.hid (by have := LO.out; have := ALE.out; omega)
              clear capl lenl
              go_wp2_with (first | (at_builtin; refine wpList_append_own _ (by rfl) (.tmp 72) (.tmp 75) 22 (by rfl) wq.heap.size 3 i0 _ 1 8 Try.underlying22 hi0 hz0 hz1 hz2 (by rfl) (by decide) (.slice (some ⟨wq.heap.size, 0, none⟩) 0 0) 0 [] (by rfl) OO.out ⟨g, 0, none⟩ a cap (rowV (out.take a)) (by rfl) L1.out NEWS.out ONE1.out H63.out HBY.out SQ.out ?_; intro v2 w2 hown hgrow _; have O2 : Hid (w2.ownsRow wq.heap.size 3 1 v2 a (rowV (out.take a))) := Lib.hid (by rw [Nat.zero_add, List.nil_append] at hown; exact hown); have B2 : Hid (Below wq.heap.size (wq.alloc (.cells #[] 3)) w2) := Lib.hid ((Below.refl wq.heap.size (wq.alloc (.cells #[] 3))).grown hgrow SQ.out (fun k hk => (OO.out.lt k hk).1)); clear hown hgrow; obtain ⟨A2, c2, rfl, -⟩ := own_irow O2.out; have ftx := CX.out w2 HB.out (BW.out.trans (B2.out.mono GB.out)); have S2 : Hid (wq.heap.size ≤ w2.heap.size) := Lib.hid (by have := B2.out.size; have := SQ.out; omega); have H63B : Hid (a + 1 ≤ maxLen) := Lib.hid (by unfold maxLen; have := LO.out; have := ALE.out; omega); have HBYB : Hid ((a + 1) * 8 ≤ 140737488355328) := Lib.hid (by have := LO.out; have := ALE.out; omega)) | (at_builtin; refine wp_append_one _ rfl (.tmp 77) (.tmp 82) 22 rfl wq.heap.size 3 i0 _ 8 Try.underlying22 hi0 hz0 hz1 hz2 rfl _ _ _ rfl O2.out _ rfl rfl H63B.out HBYB.out S2.out ?_; intro g3 cap3 w3 hown3 hg3 hgs3 hbel3 hsz3 hgr3; have O3 := Lib.hid hown3; have B3 := Lib.hid (B2.out.trans hbel3); have S3 : Hid (wq.heap.size ≤ w3.heap.size) := Lib.hid (by have := S2.out; omega); have NEWS3 : Hid (∀ j u, (rowV (out.drop a))[j]? = some u → w3.cell? ((⟨g, a, none⟩ : Addr).add j) = some u) := Lib.hid (by as_aux_lemma => exact news_none DN.out); clear hown3 hg3 hgs3 hbel3 hsz3 hgr3 ftx) | (at_builtin; refine wpList_append_own _ (by rfl) (.tmp 84) (.tmp 87) 22 (by rfl) wq.heap.size 3 i0 _ 1 8 Try.underlying22 hi0 hz0 hz1 hz2 (by rfl) (by decide) (.slice (some ⟨g3, 0, none⟩) (a + 1) cap3) (a + 1) (rowV (out.take a) ++ [.int .i64 x]) (by rfl) O3.out ⟨g, a, none⟩ 0 (cap - a) (rowV (out.drop a)) (by rfl) L3.out NEWS3.out ONE3.out H63C.out HBYC.out S3.out ?_; intro v4 w4 hown hgrow _; have O4 := Lib.hid hown; have B4 : Hid (Below wq.heap.size w3 w4) := Lib.hid ((Below.refl wq.heap.size w3).grown hgrow S3.out (fun k hk => (O3.out.lt k hk).1)); clear hown hgrow; obtain ⟨g4, cap4, rfl, -⟩ := owned_shape O4.out (by omega)))
              have BF := Lib.hid (BW.out.trans ((B3.out.trans B4.out).mono GB.out))
              have NL : (out.take a ++ [x] ++ out.drop a).length = a + 1 + 0 := by have := ALE.out; have := HLEN.out; simp; omega
              have OF : w4.ownsRow w.heap.size 3 1 (.slice (some ⟨g4, 0, none⟩) (out.take a ++ [x] ++ out.drop a).length cap4) (out.take a ++ [x] ++ out.drop a).length (rowV (out.take a ++ [x] ++ out.drop a)) := by
                rw [NL]
                have h := own_lower O4.out GB.out
                simpa using h
              have ST := step_put NONE.out NE1.out NE2.out
              rw [F.out] at ST
              have FN := Lib.hid (NEXT.out _ g4 cap4 w4 ST BF.out OF (by rw [NL]; have := HLEN.out; omega))
              have NLH := Lib.hid NL
              clear OF ST NL
              go_roundw
              case rel => exact ⟨k + 1, _, g4, cap4, by go_num, by omega, by rw [NLH.out], FN.out⟩
              case measure => simp [intOf]; omega
    · have e : k = n := by omega
      subst e
      have F : Hid (formOf l = some out) := Lib.hid (by
        have h := RK.out.left
        rw [List.drop_of_length_le (by rw [HN.out]; exact Nat.le_refl _)] at h
        exact h.symm)
      go_wp2_with fail
      go_ret2
      exact ⟨_, _, rfl, .inr ⟨out, F.out, rfl, RK.out.own⟩, RK.out.bel⟩

end Go.Proofs.Ytcjcnhnpjcgcmaa.Cnf
