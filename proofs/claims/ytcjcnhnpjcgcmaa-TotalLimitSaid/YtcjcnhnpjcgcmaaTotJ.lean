/- Counting: the count of any row of up to twenty. -/
import Derived.Test.YtcjcnhnpjcgcmaaTotI
import Derived.Deep.CutBlock
import Derived.Deep.DeepCutAuto
namespace Go.Proofs.Ytcjcnhnpjcgcmaa.Tot
set_option linter.unusedVariables false
set_option linter.unusedSimpArgs false
open Go.RowKit Go.Maps
open Go.Proofs.Ytcjcnhnpjcgcmaa.Order (IRow ERow add_at GI make_ints)
open Go.Proofs.Ytcjcnhnpjcgcmaa.Cnf (Bd Rg RgL formOf rowV own_irow hasNone)
open Go.Proofs.Ytcjcnhnpjcgcmaa.Tbl (Fr TS blkOf blkOf_eq hs HelpEnd help_gen)
variable {Z tb g cb lim : Nat} {cap : Int} {f : Bool}
theorem gi_made (w : World) (m : Nat) : GI (w.alloc (.cells (madeCells #[.int .i64 0] m) 3)) w.heap.size (List.replicate m 0) := by
  have h := heap_alloc_new w (.cells (madeCells #[.int .i64 0] m) 3)
  unfold GI
  rw [h]
  congr 2
  apply Array.ext'
  rw [toList_madeCells_one]
  simp
theorem CS.cap2 {k n : Nat} {w : World} (h : CS Z tb g cb lim cap k f n w) : w.cell? ⟨cb, 0, none⟩ = some (.pointer (some ⟨tb + 1, 0, none⟩)) ∧ w.cell? ⟨cb, 2, none⟩ = some (.int .i64 cap) := ⟨blk_cell h.ctr rfl, blk_cell h.ctr rfl⟩

set_option maxHeartbeats 4000000 in
set_option maxRecDepth 100000 in
theorem count_any (c : Nat) (hc : 1 ≤ c) (hcap : ∀ m : Nat, m ≤ 20 → ((m : Int) ≤ cap ∧ m ≤ c) ∨ (¬ (m : Int) ≤ cap ∧ c ≤ m ∧ cap = (c : Int))) : ∀ (N : Nat) (l : List Int), l.length = N → 1 ≤ N → N ≤ 20 → ∀ (k n : Nat) (w : World) (A : Option Addr) (d : Nat), N ≤ d → d ≤ maxLen → CS Z tb g cb lim cap k f n w → k + need c N ≤ 1000 →
    n + 1000 * N ≤ 262144 → Ir Z tb g w A l → (∀ x ∈ l, Okx x) → Calls Try.prog 41 #[.pointer (some ⟨cb, 0, none⟩), .slice A N d] w (CntEnd Z tb g cb lim cap c k f n l w) := by
  intro N
  induction N using Nat.strongRecOn with
  | _ N ih =>
  intro l hl hN1 hN2 k n w A d hd hdm hcs hk hn hir hok
  have hne : l ≠ [] := by intro e; rw [e] at hl; simp at hl; omega
  obtain ⟨b, o, rfl⟩ : ∃ b o, A = some ⟨b, o, none⟩ := by
    rcases hir with h | ⟨b, o, h, _⟩
    · exact (hne h).elim
    · exact ⟨b, o, h⟩
  by_cases h1 : N = 1
  · subst h1
    obtain ⟨x, rfl⟩ : ∃ x, l = [x] := List.length_eq_one_iff.1 hl
    have hx : w.cell? ⟨b, o, none⟩ = some (.int .i64 x) := by
      rcases hir with h | ⟨b', o', h, _, _, h4⟩
      · cases h
      · injection h with h
        injection h with e1 e2
        subst e1 e2
        exact h4 0 (by simp)
    refine (count_one' _ b o d x hx).mono ?_
    rintro e w' ⟨rfl, hw'⟩
    have hb : Below w.heap.size w w' := by rw [hw']; exact (Below.refl _ _).alloc (Nat.le_refl _) _
    obtain ⟨c1, s1⟩ := hcs.stb hb
    have e0 : k + need c 1 = k := by rw [need_one c (Nat.le_refl _)]; rfl
    refine ⟨n, by simp, s1, .inl ⟨by rw [show ([x] : List Int).length = 1 from rfl, e0]; exact hcs.kl, w.heap.size, 1, 1, rfl, rfl, ?_, by rw [show ([x] : List Int).length = 1 from rfl, e0]; exact c1⟩⟩
    rw [hw']
    exact heap_alloc_new w _
  · have hN3 : 2 ≤ N := by omega
    obtain ⟨p, hp⟩ : ∃ p, p = N / 2 := ⟨_, rfl⟩
    obtain ⟨q, hq⟩ : ∃ q, q = N - p := ⟨_, rfl⟩
    have np : need c N = need c p + need c q + min N c := by rw [need_two c hN3, hq, hp]
    obtain ⟨m, hm⟩ : ∃ m, m = min N c := ⟨_, rfl⟩
    have FACTS : Hid (p = N / 2 ∧ q = N - p ∧ 1 ≤ p ∧ 1 ≤ q ∧ p + q = N ∧ need c N = need c p + need c q + m ∧ m = min N c ∧ 1 ≤ m ∧ N ≤ 20 ∧ N ≤ d ∧ k + need c N ≤ 1000 ∧ n + 1000 * N ≤ 262144 ∧ l.length = N) := Lib.hid ⟨hp, hq, by omega, by omega, by omega, by rw [np, hm], hm, by omega, hN2, hd, hk, hn, hl⟩
    have C := Lib.hid hcs
    have IR := Lib.hid hir
    have OK := Lib.hid hok
    have CAP := Lib.hid (hcap N hN2)
    have P1 := Lib.hid (ih p (by omega) (l.take p) (by rw [List.length_take]; omega) (by omega) (by omega) k n w (some ⟨b, o, none⟩) d (by omega) hdm hcs (by omega) (by omega) (hir.take p) (fun x hx => hok x (List.mem_of_mem_take hx)))
    have P2 : Hid (∀ n1 w1, CS Z tb g cb lim cap (k + need c p) f n1 w1 → n1 + 1000 ≤ n + 1000 * p → Stp Z tb g w w1 → Calls Try.prog 41 #[.pointer (some ⟨cb, 0, none⟩), .slice (some ⟨b, o + p, none⟩) q (d - p)] w1 (CntEnd Z tb g cb lim cap c (k + need c p) f n1 (l.drop p) w1)) :=
      Lib.hid (fun n1 w1 h1 h2 h3 => ih q (by omega) (l.drop p) (by rw [List.length_drop]; omega) (by omega) (by omega) (k + need c p) n1 w1 (some ⟨b, o + p, none⟩) (d - p) (by omega) (by omega) h1 (by omega) (by omega) ((hir.stp h3).drop p) (fun x hx => hok x (List.mem_of_mem_drop hx)))
    have eN : ¬ (N : Int) = 1 := by omega
    have eN2 : (N : Int) ≤ 20 := by omega
    have ep : Int.tdiv (N : Int) 2 = (p : Int) := by rw [Int.tdiv_eq_ediv_of_nonneg (by omega)]; omega
    have wp : IntKind.i64.wrap (p : Int) = (p : Int) := IntWalk.i64_in _ (by omega)
    have pN : p ≤ N := by omega
    have pd : p ≤ d := by omega
    have pN' : (p : Int) ≤ (N : Int) := by omega
    have pd' : (p : Int) ≤ (d : Int) := by omega
    have Nd : N ≤ d := hd
    have eq' : N - p = q := by omega
    have dp : ¬ d = p := by omega
    have dp2 : ¬ (d : Int) = (p : Int) := by omega
    clear hcs hir hok hN1 hN2 hN3 np hk hn hd hdm hne ih hcap hc h1
    clear hp hq hm
    clear hl
    go_enter Try.func41, Try.ntmps41
    go_wp2_with fail
    go_at_call 41
    refine P1.out.mono ?_
    have LT : Hid ((l.take p).length = p) := Lib.hid (by rw [List.length_take]; have := FACTS.out; omega)
    have LD : Hid ((l.drop p).length = q) := Lib.hid (by rw [List.length_drop]; have := FACTS.out; omega)
    have F1E := Lib.hid (res_len_le c k (l.take p))
    have F2E := Lib.hid (res_len_le c (k + need c p) (l.drop p))
    have F1K := Lib.hid (res_ok c k (l.take p) (fun x hx => OK.out x (List.mem_of_mem_take hx)) (by rw [LT.out]; have := FACTS.out; omega))
    have F2K := Lib.hid (res_ok c (k + need c p) (l.drop p) (fun x hx => OK.out x (List.mem_of_mem_drop hx)) (by rw [LD.out]; have := FACTS.out; omega))
    rintro e w1 ⟨n1, hn1, hs1, (⟨hk1, q1, r1, d1, hr1, rfl, hg1, hc1⟩ | ⟨hk1, rfl, hc1⟩)⟩
    · rw [LT.out] at hn1 hk1 hc1
      have N1 := Lib.hid hn1
      have S1 := Lib.hid hs1
      have G1 := Lib.hid hg1
      have C1 := Lib.hid hc1
      have R1 := Lib.hid hr1
      have Q2 := Lib.hid (P2.out n1 w1 hc1 hn1 hs1)
      clear hn1 hs1 hg1 hc1 hr1 hk1 P1 P2
      go_wp2_with fail
      go_at_call 41
      refine Q2.out.mono ?_
      rintro e w2 ⟨n2, hn2, hs2, (⟨hk2, q2, r2, d2, hr2, rfl, hg2, hc2⟩ | ⟨hk2, rfl, hc2⟩)⟩
      · rw [LD.out] at hn2 hk2 hc2
        have N2 := Lib.hid hn2
        have S2 := Lib.hid hs2
        have G2 := Lib.hid hg2
        have C2 := Lib.hid hc2
        have R2 := Lib.hid hr2
        have K2 := Lib.hid hk2
        obtain ⟨hc20, hc22⟩ := hc2.cap2
        clear hn2 hs2 hg2 hc2 hr2 hk2 Q2
        have emin : min (N : Int) cap = (m : Int) := by have := FACTS.out; rcases CAP.out with ⟨a1, a2⟩ | ⟨a1, a2, a3⟩ <;> omega
        have hmk := make_ints m (by have := FACTS.out; omega) w2
        obtain ⟨qo, hqo⟩ : ∃ qo, qo = w2.heap.size := ⟨_, rfl⟩
        have G3 : Hid (GI (w2.alloc (.cells (madeCells #[.int .i64 0] m) 3)) qo (List.replicate m 0)) := Lib.hid (by rw [hqo]; exact gi_made w2 m)
        have B3 : Hid (Below w2.heap.size w2 (w2.alloc (.cells (madeCells #[.int .i64 0] m) 3))) := Lib.hid ((Below.refl _ _).alloc (Nat.le_refl _) _)
        obtain ⟨w3, hw3⟩ : ∃ w3, w3 = w2.alloc (.cells (madeCells #[.int .i64 0] m) 3) := ⟨_, rfl⟩
        rw [← hqo, ← hw3] at hmk
        rw [← hw3] at G3 B3
        have QO := Lib.hid hqo
        obtain ⟨k2, hk2⟩ : ∃ k2, k2 = k + need c p + need c q := ⟨_, rfl⟩
        have HK := Lib.hid hk2
        rw [← hk2] at C2 K2
        have KM : Hid (k2 + m = k + need c N ∧ k2 + m ≤ 1000 ∧ m ≤ 20 ∧ 1 ≤ m) := Lib.hid (by have := FACTS.out; omega)
        have m20 : (m : Int) ≤ 20 := by have := KM.out; omega
        have T3 : Hid (∃ (hp : Nat) (At : Option Addr) (cp : Nat), hp ≤ k2 ∧ TS Z tb lim (hp : Nat) f At cp (hs k2) w3) := Lib.hid (by
          obtain ⟨hp, At, cp, t1, t2⟩ := C2.out.tab
          exact ⟨hp, At, cp, t1, t2.below B3.out⟩)
        clear hqo hw3 hk2 hc20
        go_wp2_with fail
        clear hmk emin hc22
        go_loopw [11, 52] (fun _ v wr => ∃ i : Nat, v = .int .i64 i ∧ i ≤ m ∧ k2 + i ≤ lim ∧ Fr (St Z tb w2) w2 wr ∧ (∃ (hp : Nat) (At : Option Addr) (cp : Nat), hp ≤ k2 + i ∧ TS Z tb lim (hp : Nat) f At cp (hs (k2 + i)) wr) ∧ GI wr qo (hpart k2 m i)) (fun _ v _ => m - (intOf v).toNat)
        case atStart => exact ⟨0, rfl, Nat.zero_le _, K2.out, Fr.of_below B3.out _, T3.out, by rw [hpart_zero]; exact G3.out⟩
        case round =>
          obtain ⟨i, rfl, him, hkl, hfr, htab, hgi⟩ := hrel
          have CW := Lib.hid (ft_cs C2.out hfr hkl htab)
          have FR := Lib.hid hfr
          have GW := Lib.hid hgi
          have KL := Lib.hid hkl
          have IM := Lib.hid him
          by_cases hlt : i < m
          · have hlt' : (i : Int) < (m : Int) := by omega
            have i20 : (i : Int) ≤ 20 := by omega
            obtain ⟨hp, At, cp, hhp, hts⟩ := htab
            have TW := Lib.hid hts
            have HE := Lib.hid (help_gen hts (by have := KM.out; omega) hhp (CW.out.zw))
            have qc := CW.out.cap2.1
            have LTM := Lib.hid hlt
            clear hfr hgi hkl him hts hhp hlt
            by_cases hfull : k2 + i < lim
            · obtain ⟨z, hz⟩ : ∃ z : Nat, z = k2 + i + 1 := ⟨_, rfl⟩
              have HE2 : Hid (Calls Try.prog 38 #[.pointer (some ⟨tb + 1, 0, none⟩)] wr fun e w' => e = .returned (.int .i64 (z : Nat)) ∧ Fr (St Z tb w2) w2 w' ∧ (∃ (hp : Nat) (At : Option Addr) (cp : Nat), hp ≤ k2 + (i + 1) ∧ TS Z tb lim (hp : Nat) f At cp (hs (k2 + (i + 1))) w') ∧ GI w' qo (hpart k2 m i)) := Lib.hid (by
                refine HE.out.mono ?_
                rintro e w' ⟨he, f', A', cp', h1, h2, _, h3⟩
                rw [if_pos hfull] at he h1 h3
                subst h3
                exact ⟨by rw [he, hz], ft_help FR.out TW.out h2, ⟨_, A', cp', by omega, h1⟩, gi_help TW.out GW.out h2⟩)
              have zne : ((z : Int) == 0) = false := by rw [beq_eq_false_iff_ne]; omega
              have ZB : Hid (z = k2 + i + 1) := Lib.hid hz
              have z1 : (z : Int) ≤ 2000 := by have := KM.out; have := IM.out; omega
              have KL2 : Hid (k2 + (i + 1) ≤ lim) := Lib.hid (by omega)
              clear HE hfull hz
              go_wp2_with fail
              go_at_call 38; refine HE2.out.mono ?_; rintro e w4 ⟨rfl, hfr, htab, hgi⟩
              have F4 := Lib.hid hfr
              have T4 := Lib.hid htab
              have G4 := Lib.hid hgi
              have cq := hgi.cell i (by rw [hpart_len _ _ _ IM.out]; exact LTM.out)
              have fq := hgi.free i
              clear hfr htab hgi
              have F5 := Lib.hid (ft_set (i := i) (v := .int .i64 z) F4.out (show w2.heap.size ≤ qo by rw [QO.out]; exact Nat.le_refl _))
              have T5 : Hid (∃ (hp : Nat) (At : Option Addr) (cp : Nat), hp ≤ k2 + (i + 1) ∧ TS Z tb lim (hp : Nat) f At cp (hs (k2 + (i + 1))) (w4.setCell ⟨qo, i, none⟩ (.int .i64 z))) := Lib.hid (by
                obtain ⟨hp, At, cp, t1, t2⟩ := T4.out
                exact ⟨hp, At, cp, t1, ts_set t2 G4.out⟩)
              have G5 : Hid (GI (w4.setCell ⟨qo, i, none⟩ (.int .i64 z)) qo (hpart k2 m (i + 1))) := Lib.hid (by
                have h := G4.out.set i z
                rw [ZB.out, hpart_set _ _ _ LTM.out] at h
                rw [ZB.out]; exact h)
              have e5 : (w4.setCell ⟨qo, i, none⟩ (.int .i64 z)).cell? ⟨qo, i, none⟩ = some (.int .i64 z) := by
                have h := G5.out.cell i (by rw [hpart_len _ _ _ (by have := LTM.out; omega)]; exact LTM.out)
                rw [hpart_at _ _ _ LTM.out, ← ZB.out] at h
                exact h
              go_wp2_with fail
              go_roundw
              case rel => exact ⟨i + 1, by go_num, by have := LTM.out; omega, KL2.out, F5.out, T5.out, G5.out⟩
              case measure => have := LTM.out; simp [intOf]; omega
            · have KE : Hid (k2 + i = lim) := Lib.hid (by have := KL.out; omega)
              have HE2 : Hid (Calls Try.prog 38 #[.pointer (some ⟨tb + 1, 0, none⟩)] wr fun e w' => e = .returned (.int .i64 0) ∧ Fr (St Z tb w2) w2 w' ∧ (∃ (hp : Nat) (At : Option Addr) (cp : Nat), hp ≤ lim ∧ TS Z tb lim (hp : Nat) true At cp (hs lim) w') ∧ GI w' qo (hpart k2 m i)) := Lib.hid (by
                refine HE.out.mono ?_
                rintro e w' ⟨he, f', A', cp', h1, h2, _, h3⟩
                rw [if_neg hfull] at he h1 h3
                subst h3
                have e2 : hs (k2 + i) = hs lim := by rw [KE.out]
                rw [e2] at h1
                exact ⟨by rw [he]; rfl, ft_help FR.out TW.out h2, ⟨k2 + i, A', cp', by have := KE.out; omega, h1⟩, gi_help TW.out GW.out h2⟩)
              clear HE hfull
              go_wp2_with fail
              go_at_call 38; refine HE2.out.mono ?_; rintro e w4 ⟨rfl, hfr, htab, hgi⟩
              have F4 := Lib.hid hfr
              have T4 := Lib.hid htab
              have G4 := Lib.hid hgi
              have cq := hgi.cell i (by rw [hpart_len _ _ _ IM.out]; exact LTM.out)
              have fq := hgi.free i
              clear hfr htab hgi
              have F5 := Lib.hid (ft_set (i := i) (v := .int .i64 0) F4.out (show w2.heap.size ≤ qo by rw [QO.out]; exact Nat.le_refl _))
              have T5 : Hid (∃ (hp : Nat) (At : Option Addr) (cp : Nat), hp ≤ lim ∧ TS Z tb lim (hp : Nat) true At cp (hs lim) (w4.setCell ⟨qo, i, none⟩ (.int .i64 0))) := Lib.hid (by
                obtain ⟨hp, At, cp, t1, t2⟩ := T4.out
                exact ⟨hp, At, cp, t1, ts_set t2 G4.out⟩)
              have e5 : (w4.setCell ⟨qo, i, none⟩ (.int .i64 0)).cell? ⟨qo, i, none⟩ = some (.int .i64 0) := by
                have h := (G4.out.set i 0).cell i (by rw [List.length_set, hpart_len _ _ _ IM.out]; exact LTM.out)
                rw [List.getD_eq_getElem?_getD, List.getElem?_set_self (by rw [hpart_len _ _ _ IM.out]; exact LTM.out)] at h
                exact h
              have R : Hid (CntEnd Z tb g cb lim cap c k f n l w (.returned (.tuple #[.slice none 0 0, .bool false])) (w4.setCell ⟨qo, i, none⟩ (.int .i64 0))) := Lib.hid (by
                have := FACTS.out
                have := KM.out
                have := LTM.out
                have c5 := ft_cs C2.out F5.out (Nat.le_refl _) T5.out
                exact ⟨n2, by have := N1.out; have := N2.out; omega, (S1.out.trans S2.out).trans (ft_stp C2.out F5.out), .inr ⟨by rw [show l.length = N by omega]; have := KE.out; omega, rfl, c5⟩⟩)
              go_wp2_with fail
              go_ret2
              exact R.out
          · obtain rfl : i = m := by omega
            have JN := Lib.hid (join_any (cm := i) (ca := d1) (cr := d2) CW.out (show n2 + 1000 ≤ 262144 by have := FACTS.out; have := N1.out; have := N2.out; omega) (by rw [← hpart_all]; exact GW.out : GI wr qo (hrow k2 i)) (C2.out.gi (C1.out.gi G1.out S2.out) (ft_stp C2.out FR.out)) (C2.out.gi G2.out (ft_stp C2.out FR.out))
              (hrow_len _ _).symm R1.out R2.out (by have := KM.out; omega) (by have := KM.out; omega) (by have := F1E.out; have := LT.out; have := R1.out; have := FACTS.out; omega) (by have := F2E.out; have := LD.out; have := R2.out; have := FACTS.out; omega)
              (hrow_ok _ _ (by have := KM.out; omega)) F1K.out F2K.out)
            clear hfr hgi hkl him htab hlt
            go_wp2_with fail
            go_at_call 52; refine JN.out.mono ?_; rintro e w5 ⟨rfl, n5, hn5, hc5, hs5⟩
            have R : Hid (CntEnd Z tb g cb lim cap c k f n l w (.returned (.tuple #[.slice (some ⟨qo, 0, none⟩) i i, .bool true])) w5) := Lib.hid (by
              have F := FACTS.out
              have := KM.out
              have eL : l.length = N := by omega
              have er : res c k l = hrow k2 i := by
                unfold res
                rw [if_neg (by omega), eL, ← F.1, ← F.2.1, HK.out, F.2.2.2.2.2.2.1]
              refine ⟨n5, by have := N1.out; have := N2.out; omega, ((S1.out.trans S2.out).trans (ft_stp C2.out FR.out)).trans hs5, .inl ⟨by rw [eL]; have := KL.out; omega, qo, i, i, by rw [er, hrow_len], rfl, ?_, by rw [eL, ← KM.out.1]; exact hc5⟩⟩
              rw [er]
              exact CW.out.gi (by rw [← hpart_all]; exact GW.out) hs5)
            clear hn5 hc5 hs5 JN
            go_wp2_with fail
            go_ret2
            exact R.out
      · rw [LD.out] at hn2 hk2
        have R : Hid (CntEnd Z tb g cb lim cap c k f n l w (.returned (.tuple #[.slice none 0 0, .bool false])) w2) := Lib.hid (by
          have := FACTS.out
          exact ⟨n2, by have := N1.out; omega, S1.out.trans hs2, .inr ⟨by rw [show l.length = N by omega]; omega, rfl, hc2⟩⟩)
        clear hn2 hs2 hk2 hc2 Q2
        go_wp2_with fail
        go_ret2
        exact R.out
    · have R : Hid (CntEnd Z tb g cb lim cap c k f n l w (.returned (.tuple #[.slice none 0 0, .bool false])) w1) := Lib.hid (by
        rw [LT.out] at hn1 hk1
        have := FACTS.out
        exact ⟨n1, by omega, hs1, .inr ⟨by rw [show l.length = N by omega]; omega, rfl, hc1⟩⟩)
      clear hn1 hs1 hk1 hc1 P1 P2
      go_wp2_with fail
      go_ret2
      exact R.out

end Go.Proofs.Ytcjcnhnpjcgcmaa.Tot
