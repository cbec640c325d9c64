/- The law AtomsRow, walked. -/
import Derived.Test.YtbffcehaednefaaAtomsD
namespace Go.Proofs.Ytbffcehaednefaa.Atoms
set_option linter.unusedVariables false
set_option linter.unusedSimpArgs false
open Go.RowKit Go.Maps

/-- the table has the atoms R, the law's own row has R'; all that both are made of is new. -/
structure MS (base tb lim : Nat) (f : Bool) (A : Option Addr) (cp : Nat) (R : List At4) (Ar : Option Addr) (cr : Nat) (R' : List At4) (w wr : World) : Prop where
  bel : Below base w wr
  ts : TS base tb lim f A cp R wr
  own : wr.ownsRow base 44 4 (.slice Ar R'.length cr) R'.length (flatA R')
  apart : ∀ g, blkOf Ar R'.length cr = some g → blkOf A R.length cp ≠ some g
  lo : base ≤ tb
variable {base tb lim cp cr : Nat} {f : Bool} {A Ar : Option Addr} {R R' : List At4} {w wr w' : World}
theorem MS.below (h : MS base tb lim f A cp R Ar cr R' w wr) (hb : Below wr.heap.size wr w') : MS base tb lim f A cp R Ar cr R' w w' := by
  have hz : base ≤ wr.heap.size := by have := lt_of_block h.ts.tab; have := h.lo; omega
  exact ⟨h.bel.trans (hb.mono hz), h.ts.below hb, own_fr h.own (Fr.of_below hb (fun _ => False)) (fun _ _ x => x), h.apart, h.lo⟩
theorem MS.size (h : MS base tb lim f A cp R Ar cr R' w wr) : tb + 1 < wr.heap.size ∧ base ≤ wr.heap.size := by
  have := lt_of_block h.ts.tab; have := h.lo; omega
theorem MS.num {x : At4} {e : Ending} (h : MS base tb lim f A cp R Ar cr (addF lim R x) w wr) (hn : NumEnd base tb lim cp A R x wr e w') :
    e = .returned (.int .i64 (findF (addF lim R x) x : Nat)) ∧ (∃ f' A' cp', MS base tb lim f' A' cp' (addF lim R x) Ar cr (addF lim R x) w w') ∧
      wr.heap.size ≤ w'.heap.size ∧ ∀ b, b < wr.heap.size → tb + 1 < b → blkOf A R.length cp ≠ some b → w'.heap[b]? = wr.heap[b]? := by
  obtain ⟨he, f', A', cp', hts, hfr, hbl⟩ := hn
  have hz := h.size
  have n0 : some tb ≠ blkOf Ar (addF lim R x).length cr := by obtain ⟨D, ho, _⟩ := h.ts.om; exact own_not_map h.own ho
  have n1 : some (tb + 1) ≠ blkOf Ar (addF lim R x).length cr := own_not_tab h.own h.ts.tab
  refine ⟨he, ⟨f', A', cp', ?_, hts, ?_, ?_, h.lo⟩, hfr.size, fun b hb h1 h2 => hfr.block b hb (fun e => by rcases e with e | e | e <;> first | omega | exact h2 e)⟩
  · refine h.bel.trans (hfr.below hz.2 ?_)
    rintro k (e | e | e)
    · have := h.lo; omega
    · have := h.lo; omega
    · exact (h.ts.own.lt k e).1
  · refine own_fr h.own hfr ?_
    rintro i hi (e | e | e)
    · exact n0 (by rw [hi, e])
    · exact n1 (by rw [hi, e])
    · exact h.apart i hi e
  · intro g hg
    rcases hbl with hb | ⟨g2, hb, hlt⟩
    · rw [hb]; exact h.apart g hg
    · rw [hb]
      intro e
      injection e with e
      have := (h.own.lt g hg).2
      omega
theorem MS.app {x : At4} {g cap H : Nat} (h : MS base tb lim f A cp R Ar cr R w wr) (hg : wr.grownBy w' (Value.slice Ar R.length cr).ownBlock) (hown : w'.ownsRow base 44 4 (.slice (some ⟨g, 0, none⟩) (R.length + 1) cap) (R.length + 1) (flatA R ++ avs x))
    (hl : (Value.slice Ar R.length cr).ownBlock = some g ∨ g = wr.heap.size) : MS base tb lim f A cp R (some ⟨g, 0, none⟩) cap (R ++ [x]) w w' := by
  have hz := h.size
  have n0 : some tb ≠ blkOf Ar R.length cr := by obtain ⟨D, ho, _⟩ := h.ts.om; exact own_not_map h.own ho
  have n1 : some (tb + 1) ≠ blkOf Ar R.length cr := own_not_tab h.own h.ts.tab
  have hfr : Fr (fun i => blkOf Ar R.length cr = some i) wr w' := Fr.of_grown hg (fun i e => e)
  refine ⟨h.bel.trans (hfr.below hz.2 fun k e => (h.own.lt k e).1), h.ts.keep hfr (fun e => n0 e.symm) (fun e => n1 e.symm) (fun i hi e => h.apart i e hi), ?_, ?_, h.lo⟩
  · have e1 : (R ++ [x]).length = R.length + 1 := by simp
    rw [e1, flatA_app]
    exact hown
  · intro g' hg' e
    have : g' = g := by simpa [Value.ownBlock] using hg'.symm
    subst this
    rcases hl with hl | hl
    · exact h.apart _ hl e
    · have := (h.ts.own.lt _ e).2; omega

set_option maxHeartbeats 8000000 in
set_option maxRecDepth 100000 in
theorem law_row (lim : Nat) (A : Option Addr) (l : List At4) (n cap : Nat) (w : World) (hlim : lim ≤ 255) (h : ARow w w.heap.size A l) (hn : n = l.length) (hm : n ≤ maxLen) (hwf : ∀ (i : Nat) (x : At4), l[i]? = some x → WfA x) :
    Calls Try.prog 7 #[.int .u8 (lim : Nat), .slice A n cap] w fun e w' => e = .returned (.bool true) ∧ Below w.heap.size w w' := by
  have FX := Lib.hid fixed_any
  by_cases h200 : n ≤ 200
  · have z200 : (n : Int) ≤ 200 := by omega
    have zl : (lim : Int) ≤ 255 := by omega
    have NW := Lib.hid (new_any lim hlim w w.heap.size (Nat.le_refl _))
    have FA : Hid (∀ (A : Option Addr) (l : List At4) (n c : Nat) (x : At4) (w : World), ARow w w.heap.size A l → n = l.length → n ≤ 1000 → _) := Lib.hid findA_any
    have NE := Lib.hid ne_atom
    have HN := Lib.hid hn
    have H := Lib.hid h
    have WF := Lib.hid hwf
    obtain ⟨i0, hi, hz0, hz1, hz2⟩ := info_parts info_atom
    have HI := Lib.hid (And.intro hi (And.intro hz0 (And.intro hz1 hz2)))
    clear hn h hm hwf hlim hi hz0 hz1 hz2
    go_enter Try.func7, Try.ntmps7
    go_wp2_with fail
    go_at_call 28; refine NW.out.mono ?_; rintro e wa ⟨rfl, hts, hb⟩
    have M0 : Hid (MS w.heap.size w.heap.size lim false none 0 [] (some ⟨wa.heap.size, 0, none⟩) 0 [] w (wa.alloc (.cells #[] 44))) := Lib.hid
      ⟨hb.alloc hb.size _, hts.below ((Below.refl _ _).alloc (Nat.le_refl _) _), ⟨rfl, .inr ⟨wa.heap.size, 0, #[], rfl, hb.size, heap_alloc_new wa _, Nat.le_refl _, Nat.zero_le _, rfl, rfl⟩⟩, fun g _ e => by simp [Value.ownBlock] at e, Nat.le_refl _⟩
    clear hts hb NW
    go_wp2_with fail
    go_loopw [6, 8, 9, 24] (fun r _ _ v wr => ∃ (i : Nat) (R : List At4) (f : Bool) (A1 : Option Addr) (c1 : Nat) (Ar : Option Addr) (cr : Nat), v = .int .i64 i ∧ i ≤ n ∧ r = .slice Ar R.length cr ∧ R.length ≤ i ∧ MS w.heap.size w.heap.size lim f A1 c1 R Ar cr R w wr) (fun _ _ _ v _ => n - (intOf v).toNat)
    case atStart => exact ⟨0, [], false, none, 0, _, 0, rfl, Nat.zero_le _, rfl, Nat.le_refl _, M0.out⟩
    case round =>
      obtain ⟨i, R, f, A1, c1, Ar, cr, rfl, hi, rfl, hRi, hms⟩ := hrel
      have M := Lib.hid hms
      clear hms M0
      by_cases hlt : i < n
      · have hlt' : (i : Int) < (n : Int) := by omega
        have IL : i < l.length := by have := HN.out; omega
        rcases H.out with h' | ⟨d, o, rfl, hd, hcell⟩
        · exfalso; rw [h'] at IL; simp at IL
        obtain ⟨x, hx⟩ : ∃ x, x = l[i] := ⟨_, rfl⟩
        have hget : l[i]? = some x := by rw [List.getElem?_eq_getElem IL, hx]
        have ac := (hcell i x hget).below M.out.bel hd
        have XW := Lib.hid (WF.out i x hget)
        have hR : R.length ≤ 200 := by omega
        have hRc : (R.length : Int) ≤ 200 := by omega
        clear hcell hx hget IL
        obtain ⟨k, a, b, c⟩ := x
        obtain ⟨p0, p1, p2, p3⟩ := ac
        simp only at p0 p1 p2 p3
        have BX := Lib.hid ((Below.refl wr.heap.size wr).alloc (Nat.le_refl _) (.cells #[.int .u8 k, .int .i64 a, .int .i64 b, .int .i64 c] 44))
        have M1 := Lib.hid (M.out.below BX.out)
        obtain ⟨WB, hWB⟩ : ∃ WB, WB = wr.alloc (.cells #[.int .u8 k, .int .i64 a, .int .i64 b, .int .i64 c] 44) := ⟨_, rfl⟩
        have SX : Hid (wr.heap.size < WB.heap.size) := Lib.hid (by rw [hWB]; simp)
        have CB : Hid (AC WB wr.heap.size 0 (k, a, b, c)) := Lib.hid (by rw [hWB]; exact AC.box wr (k, a, b, c))
        rw [← hWB] at M1 BX
        have HWB := Lib.hid hWB
        have SZ := Lib.hid M.out.size
        have LT := Lib.hid (fun g (e : blkOf A1 R.length c1 = some g) => (M.out.ts.own.lt g e).2)
        have FC := Lib.hid (FA.out Ar R R.length cr (k, a, b, c) WB (ownA_row M1.out.own) rfl (by omega))
        obtain ⟨r0, r1, r2, r3⟩ := AC.box wr (k, a, b, c)
        simp only at r0 r1 r2 r3
        clear hWB
        go_wp2_with fail
        clear p0 p1 p2 p3 r0 r1 r2 r3
        rw [show wr.alloc (.cells #[.int .u8 k, .int .i64 a, .int .i64 b, .int .i64 c] 44) = WB from HWB.out.symm]
        go_at_call 29; refine FC.out.mono ?_; rintro e w2 ⟨rfl, hb⟩
        have M2 := Lib.hid (M1.out.below hb)
        have C2 := Lib.hid (CB.out.below hb SX.out)
        have SX2 : Hid (wr.heap.size < w2.heap.size) := Lib.hid (by have := SX.out; have := hb.size; omega)
        clear hb FC
        have FL := find_le R (k, a, b, c)
        cases hf : findF R (k, a, b, c) with
        | succ m =>
          rw [hf] at FL
          have hm1 : ((m + 1 : Nat) : Int) ≤ 200 := by omega
          have AE := Lib.hid (addF_find lim R (k, a, b, c) (by omega))
          have HF := Lib.hid hf
          have M3 : Hid (MS w.heap.size w.heap.size lim f A1 c1 R Ar cr (addF lim R (k, a, b, c)) w w2) := Lib.hid (by rw [AE.out]; exact M2.out)
          have C3 := Lib.hid C2.out
          have SX3 := Lib.hid SX2.out
          obtain ⟨z, hz⟩ : ∃ z, z = m + 1 := ⟨_, rfl⟩
          have hz0 : ((z : Int) == 0) = false := by
            cases hb : ((z : Int) == 0) with
            | false => rfl
            | true => have := eq_of_beq hb; omega
          rw [← hz] at hm1 ⊢
          have HZ := Lib.hid hz
          clear hf hz FL
          have NM := Lib.hid (number_any M3.out.ts (k, a, b, c) XW.out (by omega) (by have := M3.out.size; omega))
          obtain ⟨q0, q1, q2, q3⟩ := C3.out
          simp only at q0 q1 q2 q3
          go_wp2_with fail
          go_at_call 30; refine NM.out.mono ?_; rintro e w4 hne
          obtain ⟨rfl, ⟨f4, A4, c4, hm4⟩, hs4, hk4⟩ := M3.out.num hne
          have M4 := Lib.hid hm4
          have C4 : Hid (AC w4 wr.heap.size 0 (k, a, b, c)) := Lib.hid (C3.out.block (hk4 _ SX3.out (by have := SZ.out.1; omega) (fun e => by have := LT.out _ e; omega)))
          have LK := Lib.hid (lookT_any M4.out.ts (k, a, b, c) XW.out)
          have FE : Hid (findF (addF lim R (k, a, b, c)) (k, a, b, c) = z) := Lib.hid (by rw [AE.out, HF.out, HZ.out])
          rw [FE.out]
          rw [FE.out] at LK
          clear hne hm4 hs4 hk4 q0 q1 q2 q3 NM
          obtain ⟨q0, q1, q2, q3⟩ := C4.out
          simp only at q0 q1 q2 q3
          have hbe : ((z : Int) != (z : Int)) = false := by simp
          go_wp2_with fail
          go_at_call 31; refine LK.out.mono ?_; rintro e w5 ⟨rfl, hb⟩
          have M5 := Lib.hid (M4.out.below hb)
          rw [AE.out] at M5
          clear hb q0 q1 q2 q3 LK
          go_wp2_with fail
          go_roundw
          case rel => exact ⟨i + 1, _, f4, A4, c4, _, _, by go_num, by omega, rfl, by omega, M5.out⟩
          case measure => simp [intOf]; omega
        | zero =>
          have HF := Lib.hid hf
          clear hf FL
          rcases Nat.lt_or_ge R.length lim with hl | hl
          · have hl1 : (R.length : Int) < (lim : Int) := by omega
            have AE := Lib.hid (addF_new lim R (k, a, b, c) HF.out hl)
            have BY := Lib.hid ((Below.refl w2.heap.size w2).alloc (Nat.le_refl _) (.cells #[.int .u8 k, .int .i64 a, .int .i64 b, .int .i64 c] 44))
            have M6 := Lib.hid (M2.out.below BY.out)
            have C6 := Lib.hid (C2.out.below BY.out SX2.out)
            have NEWS : Hid (∀ j u, ([Value.int .u8 k, .int .i64 a, .int .i64 b, .int .i64 c] : List Value)[j]? = some u → (w2.alloc (.cells #[.int .u8 k, .int .i64 a, .int .i64 b, .int .i64 c] 44)).cell? ((⟨w2.heap.size, 0, none⟩ : Addr).add j) = some u) := Lib.hid (World.news_of_block (w := w2.alloc (.cells #[.int .u8 k, .int .i64 a, .int .i64 b, .int .i64 c] 44)) (cs := #[.int .u8 k, .int .i64 a, .int .i64 b, .int .i64 c]) (heap_alloc_new w2 _))
            have ONE : Hid (∀ u ∈ ([Value.int .u8 k, .int .i64 a, .int .i64 b, .int .i64 c] : List Value), u.oneCell' = true) := Lib.hid (by
              intro u hu
              simp at hu
              rcases hu with rfl | rfl | rfl | rfl <;> rfl)
            have h63 : R.length + 1 ≤ maxLen := by unfold maxLen; omega
            have hby : (R.length + 1) * 32 ≤ 140737488355328 := by omega
            have BS := Lib.hid M6.out.size.2
            obtain ⟨hi0, hz0, hz1, hz2⟩ := HI.out
            obtain ⟨q0, q1, q2, q3⟩ := C2.out
            simp only at q0 q1 q2 q3
            go_wp2_with (at_builtin; refine wpList_append_lies _ rfl (.tmp 40) (.tmp 42) 40 rfl w.heap.size 44 i0 _ 4 32 Try.underlying40 hi0 hz0 hz1 hz2 rfl (by decide) _ _ _ rfl M6.out.own ⟨w2.heap.size, 0, none⟩ 1 1 [.int .u8 k, .int .i64 a, .int .i64 b, .int .i64 c] rfl rfl NEWS.out ONE.out (Nat.lt_succ_self 0) h63 hby BS.out _ rfl ?_; intro g2 cap2 w3 hown3 hgrow3 hat3 _; have M3 : Hid (MS w.heap.size w.heap.size lim f A1 c1 R (some ⟨g2, 0, none⟩) cap2 (addF lim R (k, a, b, c)) w w3) := Lib.hid (by rw [AE.out]; exact M6.out.app (H := 0) hgrow3 hown3 hat3); have C3 : Hid (AC w3 wr.heap.size 0 (k, a, b, c)) := Lib.hid (C6.out.block (hgrow3.block _ (by have := SX2.out; simp; omega) (fun e => by have := (M.out.own.lt _ e.symm).2; omega))); have SX3 : Hid (wr.heap.size < w3.heap.size) := Lib.hid (by have := SX2.out; have := hgrow3.size; simp at this; omega); clear hown3 hgrow3 hat3 q0 q1 q2 q3; obtain ⟨q0, q1, q2, q3⟩ := C3.out; simp only at q0 q1 q2 q3)
            have NM := Lib.hid (number_any M3.out.ts (k, a, b, c) XW.out (by omega) (by have := M3.out.size; omega))
            go_at_call 30; refine NM.out.mono ?_; rintro e w4 hne
            obtain ⟨rfl, ⟨f4, A4, c4, hm4⟩, hs4, hk4⟩ := M3.out.num hne
            have M4 := Lib.hid hm4
            have C4 : Hid (AC w4 wr.heap.size 0 (k, a, b, c)) := Lib.hid (C3.out.block (hk4 _ SX3.out (by have := SZ.out.1; omega) (fun e => by have := LT.out _ e; omega)))
            have LK := Lib.hid (lookT_any M4.out.ts (k, a, b, c) XW.out)
            have FE : Hid (findF (addF lim R (k, a, b, c)) (k, a, b, c) = R.length + 1) := Lib.hid (by rw [AE.out, find_new R _ HF.out])
            rw [FE.out]
            rw [FE.out] at LK
            clear hne hm4 hs4 hk4 q0 q1 q2 q3 NM
            obtain ⟨q0, q1, q2, q3⟩ := C4.out
            simp only at q0 q1 q2 q3
            have hbe : ((R.length : Int) + 1 != (R.length : Int) + 1) = false := by simp
            go_wp2_with fail
            go_at_call 31; refine LK.out.mono ?_; rintro e w5 ⟨rfl, hb⟩
            have M5 := Lib.hid (M4.out.below hb)
            rw [AE.out] at M5
            clear hb q0 q1 q2 q3 LK
            go_wp2_with fail
            go_roundw
            case rel => exact ⟨i + 1, _, f4, A4, c4, _, _, by go_num, by omega, by simp, by simp; omega, M5.out⟩
            case measure => simp [intOf]; omega
          · have hl1 : (lim : Int) ≤ (R.length : Int) := by omega
            have AE := Lib.hid (addF_full lim R (k, a, b, c) hl)
            have M3 : Hid (MS w.heap.size w.heap.size lim f A1 c1 R Ar cr (addF lim R (k, a, b, c)) w w2) := Lib.hid (by rw [AE.out]; exact M2.out)
            have C3 := Lib.hid C2.out
            have SX3 := Lib.hid SX2.out
            have NM := Lib.hid (number_any M3.out.ts (k, a, b, c) XW.out (by omega) (by have := M3.out.size; omega))
            obtain ⟨q0, q1, q2, q3⟩ := C3.out
            simp only at q0 q1 q2 q3
            go_wp2_with fail
            go_at_call 30; refine NM.out.mono ?_; rintro e w4 hne
            obtain ⟨rfl, ⟨f4, A4, c4, hm4⟩, hs4, hk4⟩ := M3.out.num hne
            have M4 := Lib.hid hm4
            have C4 : Hid (AC w4 wr.heap.size 0 (k, a, b, c)) := Lib.hid (C3.out.block (hk4 _ SX3.out (by have := SZ.out.1; omega) (fun e => by have := LT.out _ e; omega)))
            have LK := Lib.hid (lookT_any M4.out.ts (k, a, b, c) XW.out)
            have FE : Hid (findF (addF lim R (k, a, b, c)) (k, a, b, c) = 0) := Lib.hid (by rw [AE.out, HF.out])
            rw [FE.out]
            rw [FE.out] at LK
            clear hne hm4 hs4 hk4 q0 q1 q2 q3 NM
            obtain ⟨q0, q1, q2, q3⟩ := C4.out
            simp only at q0 q1 q2 q3
            skip
            go_wp2_with fail
            go_at_call 31; refine LK.out.mono ?_; rintro e w5 ⟨rfl, hb⟩
            have M5 := Lib.hid (M4.out.below hb)
            rw [AE.out] at M5
            clear hb q0 q1 q2 q3 LK
            go_wp2_with fail
            go_roundw
            case rel => exact ⟨i + 1, _, f4, A4, c4, _, _, by go_num, by omega, rfl, by omega, M5.out⟩
            case measure => simp [intOf]; omega
      · obtain rfl : i = n := by omega
        obtain ⟨wo, rfl⟩ : ∃ wo : World, wo = wr := ⟨_, rfl⟩
        have hRc : (R.length : Int) ≤ 200 := by omega
        have hRn : R.length ≤ 200 := by omega
        have RR := Lib.hid (ownA_row M.out.own)
        go_wp2_with fail
        go_loopw [10, 11, 12, 13, 61] (fun _ _ _ _ v wq => ∃ j : Nat, v = .int .i64 j ∧ j ≤ R.length ∧ Below wo.heap.size wo wq) (fun _ _ _ _ v _ => R.length - (intOf v).toNat)
        case atStart => exact ⟨0, rfl, Nat.zero_le _, Below.refl _ _⟩
        case round =>
          obtain ⟨j, rfl, hj, hbel⟩ := hrel
          have J := Lib.hid hbel
          clear hbel
          by_cases hjl : j < R.length
          · have hjl' : (j : Int) < (R.length : Int) := by omega
            rcases RR.out with h' | ⟨d, o, rfl, hd, hcell⟩
            · exfalso; rw [h'] at hjl; simp at hjl
            obtain ⟨x, hx⟩ : ∃ x, x = R[j] := ⟨_, rfl⟩
            have hget : R[j]? = some x := by rw [List.getElem?_eq_getElem hjl, hx]
            have ac := (hcell j x hget).below J.out hd
            have HG := Lib.hid hget
            clear hcell hx hget
            obtain ⟨k, a, b, c⟩ := x
            obtain ⟨p0, p1, p2, p3⟩ := ac
            simp only at p0 p1 p2 p3
            have BX := Lib.hid ((Below.refl wr.heap.size wr).alloc (Nat.le_refl _) (.cells #[.int .u8 k, .int .i64 a, .int .i64 b, .int .i64 c] 44))
            have JB := Lib.hid (bstep' J.out BX.out)
            have SX : Hid (wr.heap.size < (wr.alloc (.cells #[.int .u8 k, .int .i64 a, .int .i64 b, .int .i64 c] 44)).heap.size) := Lib.hid (by simp)
            have CB := Lib.hid (AC.box wr (k, a, b, c))
            have AT := Lib.hid (at_any (M.out.below JB.out).ts j (k, a, b, c) HG.out (by omega))
            obtain ⟨r0, r1, r2, r3⟩ := CB.out
            simp only at r0 r1 r2 r3
            have hne := fun w => NE.out (k, a, b, c) (k, a, b, c) w
            rw [decide_eq_true rfl] at hne
            simp only [av, Bool.not_true] at hne
            have hj9 : (j : Int) + 1 ≤ 201 := by omega
            go_wp2_with fail
            clear p0 p1 p2 p3 r0 r1 r2 r3
            go_at_call 32; refine AT.out.mono ?_; rintro e w2 ⟨rfl, hb⟩
            have J2 := Lib.hid (bstep' JB.out hb)
            obtain ⟨r0, r1, r2, r3⟩ := (CB.out.below hb SX.out).below ((Below.refl w2.heap.size w2).alloc (Nat.le_refl _) (.cells #[.int .u8 k, .int .i64 a, .int .i64 b, .int .i64 c] 44)) (by have := SX.out; have := hb.size; omega)
            simp only at r0 r1 r2 r3
            obtain ⟨s0, s1, s2, s3⟩ := AC.box w2 (k, a, b, c)
            simp only at s0 s1 s2 s3
            have BE := Lib.hid (bstep' J2.out ((Below.refl w2.heap.size w2).alloc (Nat.le_refl _) (.cells #[.int .u8 k, .int .i64 a, .int .i64 b, .int .i64 c] 44)))
            clear hb
            go_wp2_with fail
            go_roundw
            case rel => exact ⟨j + 1, by go_num, by omega, BE.out⟩
            case measure => simp [intOf]; omega
          · obtain rfl : j = R.length := by omega
            go_wp2_with fail
            go_at_call 27; refine (FX.out _).mono ?_; rintro e w8 ⟨rfl, hb⟩
            have J8 := Lib.hid (bstep' J.out hb)
            have LN := Lib.hid (len_any (M.out.below J8.out).ts)
            have BE := Lib.hid ((M.out.below J8.out).bel)
            clear hb
            go_wp2_with fail
            go_at_call 33; refine LN.out.mono ?_; rintro e w9 ⟨rfl, rfl⟩
            go_wp2_with fail
            go_ret
            first | exact ⟨rfl, BE.out⟩ | exact ⟨by simp, BE.out⟩
  · have z200 : (200 : Int) < (n : Int) := by omega
    have hz : (n : Int) ≤ 9223372036854775807 := by unfold maxLen at hm; omega
    clear h hn hm hwf h200 hlim
    go_enter Try.func7, Try.ntmps7
    go_wp2_with fail
    go_at_call 27; refine (FX.out _).mono ?_; rintro e w1 ⟨rfl, hb⟩
    go_wp2_with fail
    go_ret
    exact ⟨rfl, hb⟩

end Go.Proofs.Ytbffcehaednefaa.Atoms
