/- Stable sorting: the other way of the search. -/
import Derived.Test.YtdilmiaaahpfcaaStabD
namespace Go.Proofs.Ytdilmiaaahpfcaa.Stab
set_option linter.unusedVariables false
set_option linter.unusedSimpArgs false
open Go.RowKit
open Go.Proofs.Ytdilmiaaahpfcaa.Ver (cmpV ord_v Ord Bs)

set_option maxHeartbeats 8000000 in
set_option maxRecDepth 100000 in
theorem sym_gen2 (hC : CMP) {B g n cap a m b : Nat} {f : Fn'} {w W : World} (IH : SymC B g n cap w (b - a)) (h : St B g n f w W) (hg : B ≤ g) (hw : B ≤ w.heap.size) (ham : a + 1 < m) (hmb : m + 1 < b) (hb : b ≤ n) (hn : n ≤ 1000) (hz : SZ f) (hs : Srt ltN (seg f a m)) (hs2 : Srt ltN (seg f m b)) (hside : m ≤ (a + b) / 2) :
    Calls Try.prog 41 #[.slice (some ⟨g, 0, none⟩) n cap, .int .i64 (a : Nat), .int .i64 (m : Nat), .int .i64 (b : Nat), cv] W fun e w' => e = .returned (.tuple #[]) ∧ ∃ f', St B g n f' w w' ∧ MergedIn ltN a b f f' := by
  obtain ⟨dd, hdd⟩ : ∃ d, d = m - a := ⟨_, rfl⟩
  have em : (m : Int) - (a : Int) = (dd : Int) := by omega
  have db : ((dd : Int) == 1) = false := by
    have : ¬ (dd : Int) = 1 := by omega
    simpa using this
  obtain ⟨de, hde⟩ : ∃ d, d = b - m := ⟨_, rfl⟩
  have em2 : (b : Int) - (m : Int) = (de : Int) := by omega
  have db2 : ((de : Int) == 1) = false := by
    have : ¬ (de : Int) = 1 := by omega
    simpa using this
  obtain ⟨mid, hmid⟩ : ∃ d, d = (a + b) / 2 := ⟨_, rfl⟩
  have emid : ((a : Int) + (b : Int)) / 2 = (mid : Int) := by omega
  obtain ⟨nn, hnn⟩ : ∃ d, d = mid + m := ⟨_, rfl⟩
  have enn : (mid : Int) + (m : Int) = (nn : Int) := by omega
  obtain ⟨p, hp⟩ : ∃ d, d = nn - 1 := ⟨_, rfl⟩
  have ep : (nn : Int) - 1 = (p : Int) := by omega
  have hside' : ¬ (mid : Int) < (m : Int) := by omega
  have z1 : (b : Int) ≤ 1000 := by omega
  have z2 : (m : Int) ≤ 1000 := by omega
  have z3 : (n : Int) ≤ 1000 := by omega
  have z4 : (a : Int) ≤ 1000 := by omega
  have z5 : (mid : Int) ≤ 1000 := by omega
  have z6 : (nn : Int) ≤ 2000 := by omega
  have z7 : (p : Int) ≤ 2000 := by omega
  have HD : Hid (a + 1 < m ∧ m + 1 < b ∧ b ≤ n ∧ mid = (a + b) / 2 ∧ nn = mid + m ∧ p = nn - 1 ∧ m ≤ mid) := Lib.hid ⟨ham, hmb, hb, hmid, hnn, hp, by omega⟩
  have S0 := Lib.hid h
  have HG := Lib.hid hg
  have HZ := Lib.hid hz
  have HS := Lib.hid hs
  have HS2 := Lib.hid hs2
  have HC := Lib.hid hC
  have HW := Lib.hid hw
  have HI := Lib.hid IH
  have HN := Lib.hid hn
  clear h hg ham hmb hb hn hz hs hs2 hC hw hdd hde hmid hnn hp IH hside
  go_enter Try.func41, Try.ntmps41
  go_wp2_with fail
  go_loopw [20, 21, 23] (fun v u _ wr => ∃ (i j : Nat), v = .int .i64 i ∧ u = .int .i64 j ∧ a ≤ i ∧ i ≤ j ∧ j ≤ m ∧ St B g n f w wr ∧ (∀ t, a ≤ t → t < i → ltN (f (p - t)) (f t) = false) ∧ (∀ t, j ≤ t → t < m → ltN (f (p - t)) (f t) = true)) (fun v u _ _ => (intOf u).toNat - (intOf v).toNat)
  case atStart => exact ⟨a, m, rfl, rfl, Nat.le_refl _, by have := HD.out; omega, Nat.le_refl _, S0.out, fun t h1 h2 => by omega, fun t h1 h2 => by omega⟩
  case round =>
    obtain ⟨i, j, rfl, rfl, h1, h2, h3, hst, hlo, hhi⟩ := hrel
    have SI := Lib.hid hst
    have LOW := Lib.hid hlo
    have HIG := Lib.hid hhi
    have BD : Hid (a ≤ i ∧ i ≤ j ∧ j ≤ m) := Lib.hid ⟨h1, h2, h3⟩
    have j1 : (j : Int) ≤ 1000 := by omega
    have i1 : (i : Int) ≤ 1000 := by omega
    clear hst hlo hhi h1 h2 h3 S0
    by_cases hlt : i < j
    · have hlt' : (i : Int) < (j : Int) := by omega
      obtain ⟨h, hh⟩ : ∃ h, h = (i + j) / 2 := ⟨_, rfl⟩
      have eh : ((i : Int) + (j : Int)) / 2 = (h : Int) := by omega
      have HH : Hid (i ≤ h ∧ h < j) := Lib.hid (by omega)
      obtain ⟨q, hq0⟩ : ∃ q, q = p - h := ⟨_, rfl⟩
      have HQ : Hid (q = p - h ∧ h < m ∧ m ≤ q ∧ q < b) := Lib.hid ⟨hq0, by have := BD.out; have := HD.out; omega, by have := BD.out; have := HD.out; omega, by have := BD.out; have := HD.out; omega⟩
      have eq0 : (p : Int) - (h : Int) = (q : Int) := by have := HQ.out; have := HD.out; omega
      have hn' : h < n := by have := HQ.out; have := HD.out; omega
      have hn2 : (h : Int) < (n : Int) := by omega
      have qn' : q < n := by have := HQ.out; have := HD.out; omega
      have qn2 : (q : Int) < (n : Int) := by omega
      have h1' : (h : Int) ≤ 1000 := by omega
      have q1' : (q : Int) ≤ 1000 := by omega
      have wq : IntKind.i64.wrap (q : Int) = (q : Int) := IntWalk.i64_in _ (by omega)
      have wq2 : IntKind.i64.wrap ((p : Int) - (h : Int)) = (q : Int) := by rw [eq0]; exact wq
      obtain ⟨z, hz⟩ : ∃ z, z = cfN (f q) (f h) := ⟨_, rfl⟩
      have CC : Hid (∀ W, Calls Try.prog 25 #[.string (f q), .string (f h)] W fun e w' => e = .returned (.int .i64 z) ∧ Below W.heap.size W w') := Lib.hid (fun W => by rw [hz]; exact HC.out _ _ W (HZ.out q) (HZ.out h))
      have S1 := Lib.hid (srt_seg.1 HS.out)
      have S2 := Lib.hid (srt_seg.1 HS2.out)
      clear hh hq0
      cases hq : ltN (f q) (f h) with
      | false =>
        have znn : 0 ≤ z := by
          have := cfN_lt (f q) (f h)
          rw [← hz, hq] at this
          simp at this; omega
        have zb : (!decide (z < 0)) = true := by simp; omega
        have LN : Hid (∀ t, a ≤ t → t < h + 1 → ltN (f (p - t)) (f t) = false) := Lib.hid (fun t h1 h2 => by
          have k1 : ltN (f (p - t)) (f q) = false := by
            rcases Nat.lt_or_ge t h with h3 | h3
            · exact S2.out q (p - t) (HQ.out.2.2.1) (by have := HQ.out; have := HD.out; omega) (by have := HQ.out; have := HD.out; omega)
            · rw [show p - t = q by have := HQ.out; omega]; exact woN.irrefl _
          have k2 : ltN (f h) (f t) = false := by
            rcases Nat.lt_or_ge t h with h3 | h3
            · exact S1.out t h (by have := HD.out; omega) h3 (by have := HQ.out; omega)
            · rw [show t = h by omega]; exact woN.irrefl _
          exact woN.ntrans _ _ _ (woN.ntrans _ _ _ k1 hq) k2)
        clear hz hq
        go_wp2_with fail
        have R := Lib.hid SI.out.drew1
        have c0 := R.out.row.cell qn'
        have c1 := R.out.row.cell hn'
        go_region_held3 (fun W' => W'.cell? ⟨g, q, none⟩ = some (.string (f (q))) ∧ W'.cell? ⟨g, h, none⟩ = some (.string (f (h))))
          (first | exact ⟨c0, c1⟩ | go_keep)
          (first | (go_at_call 25; (with_reducible refine (CC.out _).mono ?_); rintro e w1 ⟨rfl, hb⟩; have R := Lib.hid (R.out.below HW.out hb); clear hb; clear c0 c1; have c0 := R.out.row.cell qn'; have c1 := R.out.row.cell hn'))
        go_wp2_with fail
        go_roundw
        case rel => exact ⟨h + 1, j, by go_num, rfl, by have := BD.out; have := HH.out; omega, by have := HH.out; omega, by have := BD.out; omega, R.out, LN.out, HIG.out⟩
        case measure => have := HH.out; simp [intOf]; omega
      | true =>
        have zneg : z < 0 := by rw [hz]; exact (cfN_lt _ _).2 hq
        have HN2 : Hid (∀ t, h ≤ t → t < m → ltN (f (p - t)) (f t) = true) := Lib.hid (fun t h1 h2 => by
          have k1 : ltN (f q) (f (p - t)) = false := by
            rcases Nat.lt_or_ge h t with h3 | h3
            · exact S2.out (p - t) q (by have := HQ.out; have := HD.out; omega) (by have := HQ.out; have := HD.out; omega) (HQ.out.2.2.2)
            · rw [show p - t = q by have := HQ.out; rw [show t = h by omega]; omega]; exact woN.irrefl _
          have k2 : ltN (f t) (f h) = false := by
            rcases Nat.lt_or_ge h t with h3 | h3
            · exact S1.out h t (by have := BD.out; have := HH.out; have := HD.out; omega) h3 (by have := HD.out; omega)
            · rw [show t = h by omega]; exact woN.irrefl _
          exact woN.le_lt k1 (woN.lt_le hq k2))
        clear hz hq
        go_wp2_with fail
        have R := Lib.hid SI.out.drew1
        have c0 := R.out.row.cell qn'
        have c1 := R.out.row.cell hn'
        go_region_held3 (fun W' => W'.cell? ⟨g, q, none⟩ = some (.string (f (q))) ∧ W'.cell? ⟨g, h, none⟩ = some (.string (f (h))))
          (first | exact ⟨c0, c1⟩ | go_keep)
          (first | (go_at_call 25; (with_reducible refine (CC.out _).mono ?_); rintro e w1 ⟨rfl, hb⟩; have R := Lib.hid (R.out.below HW.out hb); clear hb; clear c0 c1; have c0 := R.out.row.cell qn'; have c1 := R.out.row.cell hn'))
        go_wp2_with fail
        go_roundw
        case rel => exact ⟨i, h, rfl, by go_num, by have := BD.out; omega, by have := HH.out; omega, by have := BD.out; have := HH.out; omega, R.out, LOW.out, HN2.out⟩
        case measure => have := HH.out; simp [intOf]; omega
    · have e : i = j := by have := BD.out; omega
      subst e
      obtain ⟨e, he⟩ : ∃ e, e = nn - i := ⟨_, rfl⟩
      have ee : (nn : Int) - (i : Int) = (e : Int) := by have := BD.out; have := HD.out; omega
      have C1 : i < m → m < e → ltN (f (e - 1)) (f i) = true := fun h1 h2 => by
        have := HIG.out i (Nat.le_refl _) (by have := BD.out; have := HD.out; omega)
        rwa [show p - i = e - 1 by have := HD.out; omega] at this
      have C2 : a < i → e < b → ltN (f e) (f (i - 1)) = false := fun h1 h2 => by
        have := LOW.out (i - 1) (by have := BD.out; have := HD.out; omega) (by omega)
        rwa [show p - (i - 1) = e by have := HD.out; omega] at this
      have CU : Hid (Cut f a m b mid nn i e) := Lib.hid { ham := by have := HD.out; omega, hmb := by have := HD.out; omega, hl := HS.out, hr := HS2.out, hmid := HD.out.2.2.2.1, hn := HD.out.2.2.2.2.1, he := he, has := by have := BD.out; have := HD.out; omega, hsm := by have := BD.out; have := HD.out; omega, hme := by have := BD.out; have := HD.out; omega, heb := by have := BD.out; have := HD.out; omega, h1 := C1, h2 := C2 }
      have e1' : (e : Int) ≤ 1000 := by have := CU.out.heb; omega
      have BE : Hid (mid + m = i + e) := Lib.hid (by have := BD.out; have := HD.out; omega)
      have SR : Hid (SZ (rotF f i m e)) := Lib.hid (SZ.rotF HZ.out _ _ _)
      clear he C1 C2
      by_cases hA : i < m ∧ m < e
      · obtain ⟨hA1, hA2⟩ := hA
        have hA1' : (i : Int) < (m : Int) := by omega
        have hA2' : (m : Int) < (e : Int) := by omega
        have k1 : (i : Int) < (mid : Int) := by have := BE.out; omega
        have k2 : (mid : Int) < (e : Int) := by have := BE.out; omega
        by_cases hc2 : a < i
        · have hc2' : (a : Int) < (i : Int) := by omega
          by_cases hc3 : e < b
          · have hc3' : (e : Int) < (b : Int) := by omega
            have CL := Lib.hid (rotate_any (cap := cap) (a := i) (m := m) (b := e) SI.out HG.out (by omega) (by omega) (by have := CU.out.heb; have := HD.out; omega) HN.out)
            go_wp2_with fail
            refine CL.out.mono ?_
            rintro _ w2 ⟨rfl, hs⟩
            have SI := Lib.hid hs
            clear hs CL
            have CL := Lib.hid (HI.out a i mid _ _ (by have := HD.out; omega) SI.out (by omega) (by omega) (by have := HD.out; omega) SR.out CU.out.p2.1 CU.out.p2.2)
            go_wp2_with fail
            refine CL.out.mono ?_
            rintro _ w3 ⟨rfl, f3, hs, hm2⟩
            have SI := Lib.hid hs
            have M2 := Lib.hid hm2
            have SR := Lib.hid (SZ.mrg SR.out hm2)
            clear hs hm2 CL
            have CL := Lib.hid (HI.out mid e b _ _ (by have := HD.out; omega) SI.out (by omega) (by omega) (by have := HD.out; omega) SR.out (CU.out.p3 M2.out).1 (CU.out.p3 M2.out).2)
            go_wp2_with fail
            refine CL.out.mono ?_
            rintro _ w4 ⟨rfl, f4, hs, hm3⟩
            have SI := Lib.hid hs
            have M3 := Lib.hid hm3
            clear hs hm3 CL
            go_wp2_with fail
            go_end0
            exact ⟨rfl, _, SI.out, CU.out.fin M2.out M3.out⟩
          · have hc3' : ¬ (e : Int) < (b : Int) := by omega
            have CL := Lib.hid (rotate_any (cap := cap) (a := i) (m := m) (b := e) SI.out HG.out (by omega) (by omega) (by have := CU.out.heb; have := HD.out; omega) HN.out)
            go_wp2_with fail
            refine CL.out.mono ?_
            rintro _ w2 ⟨rfl, hs⟩
            have SI := Lib.hid hs
            clear hs CL
            have CL := Lib.hid (HI.out a i mid _ _ (by have := HD.out; omega) SI.out (by omega) (by omega) (by have := HD.out; omega) SR.out CU.out.p2.1 CU.out.p2.2)
            go_wp2_with fail
            refine CL.out.mono ?_
            rintro _ w3 ⟨rfl, f3, hs, hm2⟩
            have SI := Lib.hid hs
            have M2 := Lib.hid hm2
            have SR := Lib.hid (SZ.mrg SR.out hm2)
            clear hs hm2 CL
            have M3 := Lib.hid (CU.out.t3 M2.out (.inr (by have := CU.out.heb; omega)))
            go_wp2_with fail
            go_end0
            exact ⟨rfl, _, SI.out, CU.out.fin M2.out M3.out⟩
        · have hc2' : ¬ (a : Int) < (i : Int) := by omega
          by_cases hc3 : e < b
          · have hc3' : (e : Int) < (b : Int) := by omega
            have CL := Lib.hid (rotate_any (cap := cap) (a := i) (m := m) (b := e) SI.out HG.out (by omega) (by omega) (by have := CU.out.heb; have := HD.out; omega) HN.out)
            go_wp2_with fail
            refine CL.out.mono ?_
            rintro _ w2 ⟨rfl, hs⟩
            have SI := Lib.hid hs
            clear hs CL
            have M2 := Lib.hid (CU.out.t2 (.inl (by have := CU.out.has; omega)))
            have CL := Lib.hid (HI.out mid e b _ _ (by have := HD.out; omega) SI.out (by omega) (by omega) (by have := HD.out; omega) SR.out (CU.out.p3 M2.out).1 (CU.out.p3 M2.out).2)
            go_wp2_with fail
            refine CL.out.mono ?_
            rintro _ w4 ⟨rfl, f4, hs, hm3⟩
            have SI := Lib.hid hs
            have M3 := Lib.hid hm3
            clear hs hm3 CL
            go_wp2_with fail
            go_end0
            exact ⟨rfl, _, SI.out, CU.out.fin M2.out M3.out⟩
          · have hc3' : ¬ (e : Int) < (b : Int) := by omega
            have CL := Lib.hid (rotate_any (cap := cap) (a := i) (m := m) (b := e) SI.out HG.out (by omega) (by omega) (by have := CU.out.heb; have := HD.out; omega) HN.out)
            go_wp2_with fail
            refine CL.out.mono ?_
            rintro _ w2 ⟨rfl, hs⟩
            have SI := Lib.hid hs
            clear hs CL
            have M2 := Lib.hid (CU.out.t2 (.inl (by have := CU.out.has; omega)))
            have M3 := Lib.hid (CU.out.t3 M2.out (.inr (by have := CU.out.heb; omega)))
            go_wp2_with fail
            go_end0
            exact ⟨rfl, _, SI.out, CU.out.fin M2.out M3.out⟩
      · have RT : Hid (i = m) := Lib.hid (by have := CU.out.hsm; have := CU.out.hme; have := HD.out; have := BE.out; omega)
        have kA : ¬ (i : Int) < (m : Int) := by have := RT.out; omega
        have kB : (a : Int) < (i : Int) := by have := HD.out; have := RT.out; omega
        have kC : ¬ (mid : Int) < (e : Int) := by have := BE.out; have := RT.out; omega
        by_cases hc2 : i < mid
        · have hc2' : (i : Int) < (mid : Int) := by omega
          have SI : Hid (St B g n (rotF f i m e) w wr) := Lib.hid (by rw [show rotF f i m e = f by rw [RT.out]; exact rotF_none_l f m e]; exact SI.out)
          have CL := Lib.hid (HI.out a i mid _ _ (by have := HD.out; omega) SI.out (by omega) (by omega) (by have := HD.out; omega) SR.out CU.out.p2.1 CU.out.p2.2)
          go_wp2_with fail
          refine CL.out.mono ?_
          rintro _ w3 ⟨rfl, f3, hs, hm2⟩
          have SI := Lib.hid hs
          have M2 := Lib.hid hm2
          have SR := Lib.hid (SZ.mrg SR.out hm2)
          clear hs hm2 CL
          have M3 := Lib.hid (CU.out.t3 M2.out (.inl (by have := BE.out; have := RT.out; omega)))
          go_wp2_with fail
          go_end0
          exact ⟨rfl, _, SI.out, CU.out.fin M2.out M3.out⟩
        · have hc2' : ¬ (i : Int) < (mid : Int) := by omega
          have SI : Hid (St B g n (rotF f i m e) w wr) := Lib.hid (by rw [show rotF f i m e = f by rw [RT.out]; exact rotF_none_l f m e]; exact SI.out)
          have M2 := Lib.hid (CU.out.t2 (.inr (by have := BE.out; have := HD.out; have := RT.out; omega)))
          have M3 := Lib.hid (CU.out.t3 M2.out (.inl (by have := BE.out; have := RT.out; omega)))
          go_wp2_with fail
          go_end0
          exact ⟨rfl, _, SI.out, CU.out.fin M2.out M3.out⟩

theorem sym_any (hC : CMP) {B g n cap : Nat} {w : World} (hg : B ≤ g) (hw : B ≤ w.heap.size) (hn : n ≤ 1000) : ∀ d, SymC B g n cap w d := by
  intro d
  induction d with
  | zero => intro a m b f W h; omega
  | succ d ih =>
    intro a m b f W hd h ham hmb hb hz hs hs2
    have IH : SymC B g n cap w (b - a) := fun a' m' b' f' W' h1 => ih a' m' b' f' W' (by omega)
    by_cases e1 : m = a + 1
    · subst e1
      exact sym_left hC h hg hw hmb hb hn hz hs2
    · by_cases e2 : b = m + 1
      · subst e2
        exact sym_right hC h hg hw (by omega) hb hn hz hs
      · by_cases e3 : (a + b) / 2 < m
        · exact sym_gen1 hC IH h hg hw (by omega) (by omega) hb hn hz hs hs2 e3
        · exact sym_gen2 hC IH h hg hw (by omega) (by omega) hb hn hz hs hs2 (by omega)

end Go.Proofs.Ytdilmiaaahpfcaa.Stab
