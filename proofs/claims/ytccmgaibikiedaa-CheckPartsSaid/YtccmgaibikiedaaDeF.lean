/- Recipes: the document's own answer whether what is preferred is right. -/
import Derived.Test.YtccmgaibikiedaaDeE
namespace Go.Proofs.Ytccmgaibikiedaa.Dc
open Go.RowKit
set_option linter.unusedVariables false
set_option linter.unusedSimpArgs false
set_option maxHeartbeats 8000000 in
set_option maxRecDepth 100000 in
theorem prefer_any {w : World} {B : Nat} {x : Rc} {cs : List Value} (h : rcD w B cs x) (hB : B ≤ w.heap.size) (hl : x.packs.length ≤ 1000) {i : Nat} {f : Pf} (hp : x.prefs[i]? = some f) :
    Calls Try.prog 39 #[.agg cs.toArray, .int .i64 (i : Nat)] w fun e w' => e = .returned (.bool (preferB x i f)) ∧ Below w.heap.size w w' := by
  obtain ⟨A1, n1, c1, A2, n2, c2, hcs, s1, s2⟩ := rc_cells h
  have hi : i < n2 := by
    rw [s2.len]
    rcases Nat.lt_or_ge i x.prefs.length with h' | h'
    · exact h'
    · rw [List.getElem?_eq_none h'] at hp; cases hp
  have hi' : (i : Int) < (n2 : Int) := by omega
  have hic : i ≤ c2 := Nat.le_trans (Nat.le_of_lt hi) s2.cap
  have n5 := s1.le
  have n6 := s2.le
  obtain ⟨q, b, o, An, nn, cn, t1, hA2, t3, x0, x1, x2, -, sn⟩ := pf_at s2 hi
  obtain rfl : f = q := by rw [t1] at hp; exact (Option.some.inj hp).symm
  obtain ⟨vt, hvt⟩ : ∃ y, y = f.virt := ⟨_, rfl⟩
  obtain ⟨ln, hln⟩ : ∃ y, y = f.line := ⟨_, rfl⟩
  rw [← hvt] at x0
  rw [← hln] at x2
  have bw1 : Below B w (w.alloc (.cells #[.slice A1 n1 c1, .slice A2 n2 c2] 25)) := (Below.refl B w).alloc hB _
  have h0 : (w.alloc (.cells #[.slice A1 n1 c1, .slice A2 n2 c2] 25)).cell? ⟨w.heap.size, 1, none⟩ = some (.slice A2 n2 c2) := blk_cell (heap_alloc_new w _) rfl
  replace x0 := (bw1.cell (p := ⟨b, o + i * 3, none⟩) t3).trans x0
  replace x1 := (bw1.cell (p := ⟨b, o + i * 3 + 1, none⟩) t3).trans x1
  replace x2 := (bw1.cell (p := ⟨b, o + i * 3 + 2, none⟩) t3).trans x2
  have R := Lib.hid (Two.start w #[.slice A1 n1 c1, .slice A2 n2 c2] #[.string vt, .slice An nn cn, .int .i64 ln] 25 60)
  have KC : Hid (∀ W, Two w #[.slice A1 n1 c1, .slice A2 n2 c2] #[.string vt, .slice An nn cn, .int .i64 ln] 25 60 W → W.cell? ⟨w.heap.size, 0, none⟩ = some (.slice A1 n1 c1) ∧ W.cell? ⟨w.heap.size, 1, none⟩ = some (.slice A2 n2 c2) ∧ W.cell? ⟨w.heap.size + 1, 0, none⟩ = some (.string vt) ∧ W.cell? ⟨w.heap.size + 1, 1, none⟩ = some (.slice An nn cn) ∧ W.cell? ⟨w.heap.size + 1, 2, none⟩ = some (.int .i64 ln)) := Lib.hid (fun W hR => ⟨blk_cell (j := 0) hR.b0 rfl, blk_cell (j := 1) hR.b0 rfl, blk_cell (j := 0) hR.b1 rfl, blk_cell (j := 1) hR.b1 rfl, blk_cell (j := 2) hR.b1 rfl⟩)
  have DR : Hid (∀ W, Two w #[.slice A1 n1 c1, .slice A2 n2 c2] #[.string vt, .slice An nn cn, .int .i64 ln] 25 60 W → rcD W B [.slice A1 n1 c1, .slice A2 n2 c2] x ∧ B ≤ W.heap.size) := Lib.hid (fun W hR => by
    have h3 := rc_stays _ _ _ _ _ _ h (Nat.le_refl B) (hR.below.mono hB)
    rw [hcs] at h3
    exact ⟨h3, Nat.le_trans hB hR.below.size⟩)
  have SN : Hid (∀ W, Two w #[.slice A1 n1 c1, .slice A2 n2 c2] #[.string vt, .slice An nn cn, .int .i64 ln] 25 60 W → Sl ByteArray 1 strD W B An nn cn f.names) := Lib.hid (fun W hR => sn.below strD_stays (Nat.le_refl B) (hR.below.mono hB))
  have SNT : Hid (∀ k, k < nn → ∃ s b1 o1, f.names[k]? = some s ∧ An = some ⟨b1, o1, none⟩ ∧ ∀ W, Two w #[.slice A1 n1 c1, .slice A2 n2 c2] #[.string vt, .slice An nn cn, .int .i64 ln] 25 60 W → W.cell? ⟨b1, o1 + k, none⟩ = some (.string s)) := Lib.hid (fun k hk => by
    obtain ⟨s, b1, o1, z1, z2, z3, z4, -⟩ := text_at sn hk
    exact ⟨s, b1, o1, z1, z2, fun W hR => ((hR.below.mono hB).cell (p := ⟨b1, o1 + k, none⟩) z3).trans z4⟩)
  have SPT : Hid (∀ k, k < n2 → ∃ q b1 o1, x.prefs[k]? = some q ∧ A2 = some ⟨b1, o1, none⟩ ∧ ∀ W, Two w #[.slice A1 n1 c1, .slice A2 n2 c2] #[.string vt, .slice An nn cn, .int .i64 ln] 25 60 W → W.cell? ⟨b1, o1 + k * 3, none⟩ = some (.string q.virt)) := Lib.hid (fun k hk => by
    obtain ⟨q, b1, o1, A', m', c', z1, z2, z3, z4, -⟩ := pf_at s2 hk
    exact ⟨q, b1, o1, z1, z2, fun W hR => ((hR.below.mono hB).cell (p := ⟨b1, o1 + k * 3, none⟩) z3).trans z4⟩)
  have SP : Hid (∀ W, Two w #[.slice A1 n1 c1, .slice A2 n2 c2] #[.string vt, .slice An nn cn, .int .i64 ln] 25 60 W → Sl Pf 3 pfD W B A2 n2 c2 x.prefs ∧ Sl Pk 8 pkD W B A1 n1 c1 x.packs) := Lib.hid (fun W hR => ⟨s2.below pf_stays (Nat.le_refl B) (hR.below.mono hB), s1.below pk_stays (Nat.le_refl B) (hR.below.mono hB)⟩)
  obtain ⟨va, hva⟩ : ∃ g, g = virtB x vt := ⟨_, rfl⟩
  obtain ⟨ga, hga⟩ : ∃ g, g = (x.prefs.take i).any (prefV vt) := ⟨_, rfl⟩
  obtain ⟨da, hda⟩ : ∃ g, g = dupB f.names := ⟨_, rfl⟩
  have W0 : Hid (preferB x i f = (va && (!ga && (!da && f.names.all (okN x vt))))) := Lib.hid (by rw [hva, hga, hda, hvt]; rfl)
  have C1 : Hid (∀ W, Two w #[.slice A1 n1 c1, .slice A2 n2 c2] #[.string vt, .slice An nn cn, .int .i64 ln] 25 60 W → Calls Try.prog 17 #[.agg #[.slice A1 n1 c1, .slice A2 n2 c2], .string vt] W fun e w' => e = .returned (.bool va) ∧ Below W.heap.size W w') := Lib.hid (fun W hR => by
    rw [hva]; exact rvirtual_any (DR.out W hR).1 (DR.out W hR).2 hl vt)
  have C3 : Hid (∀ W, Two w #[.slice A1 n1 c1, .slice A2 n2 c2] #[.string vt, .slice An nn cn, .int .i64 ln] 25 60 W → Calls Try.prog 64 #[.slice An nn cn] W fun e w' => e = .returned (.bool da) ∧ Below W.heap.size W w') := Lib.hid (fun W hR => by
    rw [hda]; exact twice_any (SN.out W hR) (DR.out W hR).2)
  have CF : Hid (∀ (s : ByteArray) (W : World), Two w #[.slice A1 n1 c1, .slice A2 n2 c2] #[.string vt, .slice An nn cn, .int .i64 ln] 25 60 W → Calls Try.prog 15 #[.agg #[.slice A1 n1 c1, .slice A2 n2 c2], .string s] W fun e w' => e = .returned (.int .i64 (findF x.packs s)) ∧ Below W.heap.size W w') := Lib.hid (fun s W hR => rfind_any (DR.out W hR).1 (DR.out W hR).2 s)
  have CH : Hid (∀ (j : Nat) (pk : Pk), x.packs[j]? = some pk → ∃ b o Ap np cp, A1 = some ⟨b, o, none⟩ ∧ (∀ W, Two w #[.slice A1 n1 c1, .slice A2 n2 c2] #[.string vt, .slice An nn cn, .int .i64 ln] 25 60 W → W.cell? ⟨b, o + j * 8 + 4, none⟩ = some (.slice Ap np cp)) ∧ ∀ W, Two w #[.slice A1 n1 c1, .slice A2 n2 c2] #[.string vt, .slice An nn cn, .int .i64 ln] 25 60 W → Calls Try.prog 41 #[.slice Ap np cp, .string vt] W fun e w' => e = .returned (.bool (hasB pk.provs vt)) ∧ Below W.heap.size W w') := Lib.hid (fun j pk hj => by
    have hj1 : j < n1 := by
      rw [s1.len]
      rcases Nat.lt_or_ge j x.packs.length with h' | h'
      · exact h'
      · rw [List.getElem?_eq_none h'] at hj; cases hj
    obtain ⟨q2, b2, o2, Ar, nr, cr, Av, nv, cv, Ap, np, cp, Ad, nd, cd, Ac, nc, cc, Af, nf, cf, z1, zA, z3, -, -, -, -, y4, -, -, -, pc, -⟩ := pk_at s1 hj1
    rw [hj] at z1
    obtain rfl := Option.some.inj z1
    refine ⟨b2, o2, Ap, np, cp, zA, fun W hR => ((hR.below.mono hB).cell (p := ⟨b2, o2 + j * 8 + 4, none⟩) z3).trans y4, fun W hR => ?_⟩
    refine (has_any (pc.provs.below strD_stays (Nat.le_refl B) (hR.below.mono hB)) vt).mono ?_
    rintro e w' ⟨he, rfl⟩
    exact ⟨he, Below.refl _ _⟩)
  have n7 := sn.le
  have HNN := Lib.hid sn.len
  have HI := Lib.hid hi
  have FL : Hid (∀ s, findF x.packs s = -1 ∨ ∃ j : Nat, j < n1 ∧ findF x.packs s = (j : Int)) := Lib.hid (fun s => by
    rcases findG_lt (f := nmB s) x.packs 0 with h | ⟨j, h1, h2⟩
    · exact .inl h
    · exact .inr ⟨j, by rw [s1.len]; exact h1, by unfold findF; rw [h2, Nat.zero_add]⟩)
  have N1 := Lib.hid s1.len
  subst hA2
  rw [hcs]
  have GA := Lib.hid hga
  clear h s1 s2 hp t1 hcs t3 hB hl bw1 hi sn hva hga hda hln hvt
  obtain ⟨k0, k1, l0, l1, l2⟩ := KC.out _ R.out
  show Calls Try.prog _ #[.agg #[.slice A1 n1 c1, .slice (some ⟨b, o, none⟩) n2 c2], .int .i64 (i : Nat)] w _
  go_enter Try.func39, Try.ntmps39
  go_wp2_with fail
  clear k0 k1 l0 l1 l2
  go_loopw [6] (fun v wq => ∃ k : Nat, v = .int .i64 k ∧ k ≤ i ∧ Two w #[.slice A1 n1 c1, .slice (some ⟨b, o, none⟩) n2 c2] #[.string vt, .slice An nn cn, .int .i64 ln] 25 60 wq ∧ (x.prefs.take k).any (prefV vt) = false) (fun v _ => i - (intOf v).toNat)
  case atStart => exact ⟨0, rfl, Nat.zero_le _, R.out, rfl⟩
  case round =>
    obtain ⟨k, rfl, hk, hr, hall⟩ := hrel
    have R := Lib.hid hr
    have HALL := Lib.hid hall
    clear hr hall
    obtain ⟨k0, k1, l0, l1, l2⟩ := KC.out _ R.out
    by_cases hlt : k < i
    · have hlt' : (k : Int) < (i : Int) := by omega
      have hk2 : (k : Int) < (n2 : Int) := by omega
      obtain ⟨q, b1, o1, t1, hA, t3⟩ := SPT.out k (by have := HI.out; omega)
      injection hA with hA
      injection hA with e1 e2
      subst e1 e2
      have y0 := t3 _ R.out
      have T1 := Lib.hid t1
      obtain ⟨y, hy⟩ : ∃ y, y = q.virt := ⟨_, rfl⟩
      rw [← hy] at y0
      have PV : Hid (prefV vt q = (y.toList == vt.toList)) := Lib.hid (by rw [hy]; rfl)
      clear t1 t3 hy
      cases qe : (y.toList == vt.toList)
      case true =>
        have BAD : Hid (preferB x i f = false) := Lib.hid (by
          have e : (x.prefs.take i).any (prefV vt) = true := by
            refine any_hit (i := k) (y := q) ?_ (PV.out.trans qe)
            rw [List.getElem?_take, if_pos hlt]
            exact T1.out
          rw [W0.out, GA.out, e]; simp)
        go_wp2_with fail
        go_region
        go_wp2_with fail
        go_ret
        rw [BAD.out]
        exact ⟨rfl, R.out.below.drew⟩
      case false =>
        have NX : Hid ((x.prefs.take (k + 1)).any (prefV vt) = false) := Lib.hid (any_next T1.out HALL.out (PV.out.trans qe))
        go_wp2_with fail
        go_region
        go_wp2_with fail
        go_roundw
        case rel => exact ⟨k + 1, by go_num, by omega, R.out.drew, NX.out⟩
        case measure => simp [intOf]; omega
    · obtain rfl : i = k := by omega
      have GF : Hid (ga = false) := Lib.hid (by rw [GA.out]; exact HALL.out)
      clear HALL
      go_wp2_with fail
      clear k0 k1 l0 l1 l2
      go_loopw [7, 8, 31] (fun _ _ v wq => ∃ k : Nat, v = .int .i64 k ∧ k ≤ nn ∧ Two w #[.slice A1 n1 c1, .slice (some ⟨b, o, none⟩) n2 c2] #[.string vt, .slice An nn cn, .int .i64 ln] 25 60 wq ∧ (f.names.take k).all (okN x vt) = true) (fun _ _ v _ => nn - (intOf v).toNat)
      case atStart => exact ⟨0, rfl, Nat.zero_le _, R.out, rfl⟩
      case round =>
        obtain ⟨k, rfl, hk, hr, hall⟩ := hrel
        have R := Lib.hid hr
        have HALL := Lib.hid hall
        clear hr hall
        obtain ⟨k0, k1, l0, l1, l2⟩ := KC.out _ R.out
        by_cases hlt : k < nn
        · have hlt' : (k : Int) < (nn : Int) := by omega
          obtain ⟨s, b1, o1, t1, hAn, t3⟩ := SNT.out k hlt
          have y0 := t3 _ R.out
          have T3 := Lib.hid t3
          have T1 := Lib.hid t1
          subst hAn
          have CFS := Lib.hid (CF.out s)
          rcases FL.out s with hz | ⟨j, hj, hz⟩
          · have BAD : Hid (preferB x i f = false) := Lib.hid (by
              have e : okN x vt s = false := by unfold okN; rw [hz]; rfl
              rw [W0.out, all_hit T1.out e]; simp)
            rw [hz] at CFS
            clear t1 t3 hz
            have XB : Hid (∀ W, Two w #[.slice A1 n1 c1, .slice (some ⟨b, o, none⟩) n2 c2] #[.string vt, .slice (some ⟨b1, o1, none⟩) nn cn, .int .i64 ln] 25 60 W → W.cell? ⟨w.heap.size, 0, none⟩ = some (.slice A1 n1 c1) ∧ W.cell? ⟨w.heap.size, 1, none⟩ = some (.slice (some ⟨b, o, none⟩) n2 c2) ∧ W.cell? ⟨w.heap.size + 1, 1, none⟩ = some (.slice (some ⟨b1, o1, none⟩) nn cn) ∧ W.cell? ⟨b1, o1 + k, none⟩ = some (.string s)) := Lib.hid (fun W hR => ⟨(KC.out W hR).1, (KC.out W hR).2.1, (KC.out W hR).2.2.2.1, T3.out W hR⟩)
            go_wp2_with fail
            have R := Lib.hid R.out.drew
            go_region_held3 (fun W => W.cell? ⟨w.heap.size, 0, none⟩ = some (.slice A1 n1 c1) ∧ W.cell? ⟨w.heap.size, 1, none⟩ = some (.slice (some ⟨b, o, none⟩) n2 c2) ∧ W.cell? ⟨w.heap.size + 1, 1, none⟩ = some (.slice (some ⟨b1, o1, none⟩) nn cn) ∧ W.cell? ⟨b1, o1 + k, none⟩ = some (.string s))
              (first | exact XB.out _ R.out | go_keep)
              (first | (go_at_call 15; (with_reducible refine (CFS.out _ R.out).mono ?_); rintro e v1 ⟨rfl, hb⟩; have R := Lib.hid (R.out.step hb); clear hb; obtain ⟨k0, k1, l0, l1, l2⟩ := KC.out _ R.out))
            go_wp2_with fail
            first | (go_region) | fail
            go_wp2_with fail
            go_ret
            rw [BAD.out]
            exact ⟨rfl, R.out.below.drew⟩
          · obtain ⟨pk, hpk⟩ : ∃ pk, x.packs[j]? = some pk := ⟨_, List.getElem?_eq_getElem (show j < x.packs.length by rw [← N1.out]; exact hj)⟩
            obtain ⟨b2, o2, Ap, np, cp, hA1, y4, CHH⟩ := CH.out j pk hpk
            obtain ⟨g, hg⟩ : ∃ g, g = hasB pk.provs vt := ⟨_, rfl⟩
            have OKE : Hid (okN x vt s = g) := Lib.hid (by unfold okN provsAt; rw [hz, hg]; simp [hpk])
            rw [← hg] at CHH
            have CHS := Lib.hid CHH
            have Y4 := Lib.hid y4
            rw [hz] at CFS
            have hj' : (j : Int) < (n1 : Int) := by omega
            subst hA1
            have XC : Hid (∀ W, Two w #[.slice (some ⟨b2, o2, none⟩) n1 c1, .slice (some ⟨b, o, none⟩) n2 c2] #[.string vt, .slice (some ⟨b1, o1, none⟩) nn cn, .int .i64 ln] 25 60 W → W.cell? ⟨w.heap.size, 0, none⟩ = some (.slice (some ⟨b2, o2, none⟩) n1 c1) ∧ W.cell? ⟨w.heap.size + 1, 0, none⟩ = some (.string vt) ∧ W.cell? ⟨b2, o2 + j * 8 + 4, none⟩ = some (.slice Ap np cp)) := Lib.hid (fun W hR => ⟨(KC.out W hR).1, (KC.out W hR).2.2.1, Y4.out W hR⟩)
            clear t1 t3 hz hg CHH hpk y4
            cases g
            case false =>
              have BAD : Hid (preferB x i f = false) := Lib.hid (by rw [W0.out, all_hit T1.out OKE.out]; simp)
              have XB : Hid (∀ W, Two w #[.slice (some ⟨b2, o2, none⟩) n1 c1, .slice (some ⟨b, o, none⟩) n2 c2] #[.string vt, .slice (some ⟨b1, o1, none⟩) nn cn, .int .i64 ln] 25 60 W → W.cell? ⟨w.heap.size, 0, none⟩ = some (.slice (some ⟨b2, o2, none⟩) n1 c1) ∧ W.cell? ⟨w.heap.size, 1, none⟩ = some (.slice (some ⟨b, o, none⟩) n2 c2) ∧ W.cell? ⟨w.heap.size + 1, 1, none⟩ = some (.slice (some ⟨b1, o1, none⟩) nn cn) ∧ W.cell? ⟨b1, o1 + k, none⟩ = some (.string s)) := Lib.hid (fun W hR => ⟨(KC.out W hR).1, (KC.out W hR).2.1, (KC.out W hR).2.2.2.1, T3.out W hR⟩)
              go_wp2_with fail
              have R := Lib.hid R.out.drew
              go_region_held3 (fun W => W.cell? ⟨w.heap.size, 0, none⟩ = some (.slice (some ⟨b2, o2, none⟩) n1 c1) ∧ W.cell? ⟨w.heap.size, 1, none⟩ = some (.slice (some ⟨b, o, none⟩) n2 c2) ∧ W.cell? ⟨w.heap.size + 1, 1, none⟩ = some (.slice (some ⟨b1, o1, none⟩) nn cn) ∧ W.cell? ⟨b1, o1 + k, none⟩ = some (.string s))
                (first | exact XB.out _ R.out | go_keep)
                (first | (go_at_call 15; (with_reducible refine (CFS.out _ R.out).mono ?_); rintro e v1 ⟨rfl, hb⟩; have R := Lib.hid (R.out.step hb); clear hb; obtain ⟨k0, k1, l0, l1, l2⟩ := KC.out _ R.out))
              go_wp2_with fail
              have R := Lib.hid R.out.drew
              go_region_held3 (fun W => W.cell? ⟨w.heap.size, 0, none⟩ = some (.slice (some ⟨b2, o2, none⟩) n1 c1) ∧ W.cell? ⟨w.heap.size + 1, 0, none⟩ = some (.string vt) ∧ W.cell? ⟨b2, o2 + j * 8 + 4, none⟩ = some (.slice Ap np cp))
                (first | exact XC.out _ R.out | go_keep)
                (first | (go_at_call 41; (with_reducible refine (CHS.out _ R.out).mono ?_); rintro e v1 ⟨rfl, hb⟩; have R := Lib.hid (R.out.step hb); clear hb; obtain ⟨k0, k1, l0, l1, l2⟩ := KC.out _ R.out))
              go_wp2_with fail
              go_ret
              rw [BAD.out]
              exact ⟨rfl, R.out.below⟩
            case true =>
              have NX : Hid ((f.names.take (k + 1)).all (okN x vt) = true) := Lib.hid (all_next T1.out HALL.out OKE.out)
              have XB : Hid (∀ W, Two w #[.slice (some ⟨b2, o2, none⟩) n1 c1, .slice (some ⟨b, o, none⟩) n2 c2] #[.string vt, .slice (some ⟨b1, o1, none⟩) nn cn, .int .i64 ln] 25 60 W → W.cell? ⟨w.heap.size, 0, none⟩ = some (.slice (some ⟨b2, o2, none⟩) n1 c1) ∧ W.cell? ⟨w.heap.size, 1, none⟩ = some (.slice (some ⟨b, o, none⟩) n2 c2) ∧ W.cell? ⟨w.heap.size + 1, 1, none⟩ = some (.slice (some ⟨b1, o1, none⟩) nn cn) ∧ W.cell? ⟨b1, o1 + k, none⟩ = some (.string s)) := Lib.hid (fun W hR => ⟨(KC.out W hR).1, (KC.out W hR).2.1, (KC.out W hR).2.2.2.1, T3.out W hR⟩)
              go_wp2_with fail
              have R := Lib.hid R.out.drew
              go_region_held3 (fun W => W.cell? ⟨w.heap.size, 0, none⟩ = some (.slice (some ⟨b2, o2, none⟩) n1 c1) ∧ W.cell? ⟨w.heap.size, 1, none⟩ = some (.slice (some ⟨b, o, none⟩) n2 c2) ∧ W.cell? ⟨w.heap.size + 1, 1, none⟩ = some (.slice (some ⟨b1, o1, none⟩) nn cn) ∧ W.cell? ⟨b1, o1 + k, none⟩ = some (.string s))
                (first | exact XB.out _ R.out | go_keep)
                (first | (go_at_call 15; (with_reducible refine (CFS.out _ R.out).mono ?_); rintro e v1 ⟨rfl, hb⟩; have R := Lib.hid (R.out.step hb); clear hb; obtain ⟨k0, k1, l0, l1, l2⟩ := KC.out _ R.out))
              go_wp2_with fail
              have R := Lib.hid R.out.drew
              go_region_held3 (fun W => W.cell? ⟨w.heap.size, 0, none⟩ = some (.slice (some ⟨b2, o2, none⟩) n1 c1) ∧ W.cell? ⟨w.heap.size + 1, 0, none⟩ = some (.string vt) ∧ W.cell? ⟨b2, o2 + j * 8 + 4, none⟩ = some (.slice Ap np cp))
                (first | exact XC.out _ R.out | go_keep)
                (first | (go_at_call 41; (with_reducible refine (CHS.out _ R.out).mono ?_); rintro e v1 ⟨rfl, hb⟩; have R := Lib.hid (R.out.step hb); clear hb; obtain ⟨k0, k1, l0, l1, l2⟩ := KC.out _ R.out))
              go_wp2_with fail
              go_roundw
              case rel => exact ⟨k + 1, by go_num, by omega, R.out, NX.out⟩
              case measure => simp [intOf]; omega
        · have ALL : Hid (f.names.all (okN x vt) = true) := Lib.hid (by
            have h := HALL.out
            rw [take_all (by have := HNN.out; omega)] at h
            exact h)
          cases va
          case false =>
            have Z0 : Hid (preferB x i f = false) := Lib.hid (by rw [W0.out]; rfl)
            go_wp2_with (first | (go_at_call 17; (with_reducible refine (C1.out _ R.out).mono ?_); rintro e v1 ⟨rfl, hb⟩; have R := Lib.hid (R.out.step hb); clear hb; obtain ⟨k0, k1, l0, l1, l2⟩ := KC.out _ R.out) | (go_at_call 64; (with_reducible refine (C3.out _ R.out).mono ?_); rintro e v1 ⟨rfl, hb⟩; have R := Lib.hid (R.out.step hb); clear hb; obtain ⟨k0, k1, l0, l1, l2⟩ := KC.out _ R.out))
            go_ret
            rw [Z0.out]
            exact ⟨rfl, R.out.below⟩
          case true =>
            cases da
            case false =>
              have Z0 : Hid (preferB x i f = true) := Lib.hid (by rw [W0.out, GF.out, ALL.out]; rfl)
              go_wp2_with (first | (go_at_call 17; (with_reducible refine (C1.out _ R.out).mono ?_); rintro e v1 ⟨rfl, hb⟩; have R := Lib.hid (R.out.step hb); clear hb; obtain ⟨k0, k1, l0, l1, l2⟩ := KC.out _ R.out) | (go_at_call 64; (with_reducible refine (C3.out _ R.out).mono ?_); rintro e v1 ⟨rfl, hb⟩; have R := Lib.hid (R.out.step hb); clear hb; obtain ⟨k0, k1, l0, l1, l2⟩ := KC.out _ R.out))
              go_ret
              rw [Z0.out]
              exact ⟨rfl, R.out.below⟩
            case true =>
              have Z0 : Hid (preferB x i f = false) := Lib.hid (by rw [W0.out, GF.out]; rfl)
              go_wp2_with (first | (go_at_call 17; (with_reducible refine (C1.out _ R.out).mono ?_); rintro e v1 ⟨rfl, hb⟩; have R := Lib.hid (R.out.step hb); clear hb; obtain ⟨k0, k1, l0, l1, l2⟩ := KC.out _ R.out) | (go_at_call 64; (with_reducible refine (C3.out _ R.out).mono ?_); rintro e v1 ⟨rfl, hb⟩; have R := Lib.hid (R.out.step hb); clear hb; obtain ⟨k0, k1, l0, l1, l2⟩ := KC.out _ R.out))
              go_ret
              rw [Z0.out]
              exact ⟨rfl, R.out.below⟩

end Go.Proofs.Ytccmgaibikiedaa.Dc
