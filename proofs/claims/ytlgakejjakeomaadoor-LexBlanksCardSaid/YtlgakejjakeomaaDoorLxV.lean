/- Lines of words: blanks: the law walked. -/
import Derived.Test.YtlgakejjakeomaaDoorLxX
import Derived.Test.YtlgakejjakeomaaDoorLxN
namespace Go.Proofs.YtlgakejjakeomaaDoor.Lx
set_option linter.unusedVariables false
set_option linter.unusedSimpArgs false
open Go.RowKit
open Go.Proofs.YtlgakejjakeomaaDoor.Variant (SRow)
theorem cat_len {f : Bs → Bs} {K : Nat} : ∀ rows : List Bs, (∀ r ∈ rows, (f r).length ≤ K) → (cat f rows).length ≤ rows.length * (K + 1)
  | [], _ => by simp [cat]
  | r :: rows, h => by
    have ih := cat_len rows (fun x hx => h x (by simp [hx]))
    have h1 := h r (by simp)
    have e : cat f (r :: rows) = (f r ++ [10]) ++ cat f rows := by simp [cat]
    rw [e, List.length_append, List.length_append, List.length_singleton, List.length_cons, Nat.succ_mul]
    omega
theorem decor_len (a b : Nat) (note r : Bs) : (decor a b note r).length = a + r.length + b + 1 + note.length := by
  unfold decor
  simp
  omega
/-- rows that may be. -/
def Good (rows : List Bs) : Prop := ∀ r ∈ rows, r.length ≤ 200 ∧ ∀ c ∈ r, Pr c ∧ c.toNat ≠ 35
theorem Good.snoc {rows : List Bs} {r : Bs} (h : Good rows) (h1 : r.length ≤ 200) (h2 : ∀ c ∈ r, Pr c ∧ c.toNat ≠ 35) : Good (rows ++ [r]) := by
  intro x hx
  rcases List.mem_append.1 hx with hx | hx
  · exact h x hx
  · simp at hx; subst hx; exact ⟨h1, h2⟩
abbrev bsl (l : List ByteArray) : List Bs := l.map fun s => s.data.toList
theorem bsl_take {l : List ByteArray} {i : Nat} (h : i < l.length) : (bsl l).take (i + 1) = (bsl l).take i ++ [(l.getD i ByteArray.empty).data.toList] := by
  rw [List.take_add_one, List.getD_eq_getElem?_getD, List.getElem?_map, List.getElem?_eq_getElem h]
  rfl
/-- what the two texts give. -/
theorem blank_facts (a b : Nat) (note : Bs) (rows : List Bs) (ha : a ≤ 4) (hb : b ≤ 4) (hn : ∀ c ∈ note, Pr c) (hnl : note.length ≤ 200) (hg : Good rows) (hk : rows.length ≤ 100) :
    (cat id rows).length ≤ 20100 ∧ (cat (decor a b note) rows).length ≤ 41000 ∧ tx (linesF (cat (decor a b note) rows)).1 = tx (linesF (cat id rows)).1 ∧ (linesF (cat (decor a b note) rows)).2.2 = (linesF (cat id rows)).2.2 ∧
      Small 500 (tx (linesF (cat id rows)).1) ∧ (linesF (cat id rows)).1.length ≤ 200 := by
  have h1 := cat_len (f := id) (K := 200) rows (fun r hr => (hg r hr).1)
  have h2 := cat_len (f := decor a b note) (K := 409) rows (fun r hr => by rw [decor_len]; have := (hg r hr).1; omega)
  have h1' : (cat id rows).length ≤ 20100 := Nat.le_trans h1 (Nat.le_trans (Nat.mul_le_mul_right _ hk) (by decide))
  have h2' : (cat (decor a b note) rows).length ≤ 41000 := Nat.le_trans h2 (Nat.le_trans (Nat.mul_le_mul_right _ hk) (by decide))
  obtain ⟨h3, h4⟩ := lines_blank a b note rows hn (fun r hr => (hg r hr).2) hk (by omega) (by omega)
  refine ⟨h1', h2', h3, h4, ?_⟩
  have e : linesF (cat id rows) = runL (rows ++ [[]]) 0 [] := by
    unfold linesF
    rw [if_neg (by omega), cut_cat id _ (fun r h => no10 (fun c hc => ((hg r h).2 c hc).1)), List.map_id]
  rw [e]
  obtain ⟨i1, i2⟩ := runL_small (K := 500) (rows ++ [[]]) 0 [] (fun r hr => by
    rcases List.mem_append.1 hr with hr | hr
    · have := (hg r hr).1; omega
    · simp at hr; subst hr; simp) (fun x hx => by simp [tx] at hx)
  refine ⟨i1, Nat.le_trans i2 ?_⟩
  simp
  omega
set_option maxHeartbeats 8000000 in
set_option maxRecDepth 100000 in
theorem blanks_go (A : Option Addr) (l : List ByteArray) (n c a b : Nat) (note : ByteArray) (w : World) (h : SRow w w.heap.size A l) (hn : n = l.length) (hsz : ∀ i, (l.getD i ByteArray.empty).size ≤ maxLen) (ha : a < 256) (hb : b < 256) (hm : note.size ≤ maxLen) (hn5 : n ≤ maxLen) :
    Calls Tryd.prog 5 #[.slice A n c, .int .u8 a, .int .u8 b, .string note] w fun e w' => e = .returned (.bool true) ∧ Below w.heap.size w w' := by
  have H := Lib.hid h
  have HN := Lib.hid hn
  have HSZ := Lib.hid hsz
  have HA := Lib.hid ha
  have HB := Lib.hid hb
  have a0 : (0 : Int) ≤ (a : Int) := by omega
  have b0 : (0 : Int) ≤ (b : Int) := by omega
  unfold maxLen at hm hn5
  clear h hn hsz ha hb
  by_cases h100 : 100 < (n : Int)
  · go_enter Tryd.func5, Tryd.ntmps5
    go_wp2_with (go_at_call 7; refine (fixed_any _).mono ?_; rintro e W1 ⟨rfl, hb⟩; have HB := Lib.hid hb; clear hb)
    go_ret
    exact ⟨rfl, HB.out⟩
  by_cases h200 : 200 < (note.size : Int)
  · go_enter Tryd.func5, Tryd.ntmps5
    go_wp2_with (go_at_call 7; refine (fixed_any _).mono ?_; rintro e W1 ⟨rfl, hb⟩; have HB := Lib.hid hb; clear hb)
    go_ret
    exact ⟨rfl, HB.out⟩
  have CLL : Hid ((cleanL note.data.toList).length ≤ 200) := Lib.hid (Nat.le_trans (cleanL_le _) (by rw [← size_l]; omega))
  have N2 : Hid (note.size ≤ 200) := Lib.hid (by omega)
  clear hm hn5
  go_enter Tryd.func5, Tryd.ntmps5
  go_wp2_with fail
  go_loopw [9, 10, 12, 13, 31, 41] (fun vp vm _ _ v _ wr => ∃ (i : Nat) (P M : ByteArray), v = .int .i64 i ∧ i ≤ n ∧ vp = .string P ∧ vm = .string M ∧ P.data.toList = cat id ((bsl l).take i) ∧ M.data.toList = cat (decor (a % 5) (b % 5) (cleanL note.data.toList)) ((bsl l).take i) ∧ Good ((bsl l).take i) ∧ Below w.heap.size w wr) (fun _ _ _ _ v _ _ => n - (intOf v).toNat)
  case atStart => exact ⟨0, ⟨#[]⟩, ⟨#[]⟩, rfl, Nat.zero_le _, rfl, rfl, rfl, rfl, fun x hx => by simp at hx, Below.refl _ _⟩
  case round =>
    obtain ⟨i, P, M, rfl, hi, rfl, rfl, hp, hmm, hg, hbw⟩ := hrel
    have HP := Lib.hid hp
    have HM := Lib.hid hmm
    have HG := Lib.hid hg
    have BW := Lib.hid hbw
    clear hp hmm hg hbw
    have FX := Lib.hid (blank_facts (a % 5) (b % 5) (cleanL note.data.toList) ((bsl l).take i) (by omega) (by omega) (cleanL_pr _) CLL.out HG.out (by rw [List.length_take]; omega))
    have pz : (P.size : Int) ≤ 20100 := by have h := FX.out.1; rw [← HP.out, ← size_l] at h; omega
    have mz : (M.size : Int) ≤ 41000 := by have h := FX.out.2.1; rw [← HM.out, ← size_l] at h; omega
    by_cases hlt : i < n
    · have hlt' : (i : Int) < (n : Int) := by omega
      rcases H.out with h' | ⟨b1, o1, rfl, hb1, hc1⟩
      · exfalso; have := HN.out; rw [h'] at this; simp at this; omega
      have K1 : Hid (i < l.length) := Lib.hid (by have := HN.out; omega)
      have f1 := (BW.out.cell (p := ⟨b1, o1 + i, none⟩) hb1).trans (hc1 i K1.out)
      obtain ⟨s, hs⟩ : ∃ s, s = l.getD i ByteArray.empty := ⟨_, rfl⟩
      have TK := Lib.hid (bsl_take K1.out)
      have sm := HSZ.out i
      rw [← hs] at f1 TK sm
      unfold maxLen at sm
      clear hs hc1
      by_cases hs2 : 200 < (s.size : Int)
      · go_wp2_with (go_at_call 7; refine (fixed_any _).mono ?_; rintro e W1 ⟨rfl, hb⟩; have HBB := Lib.hid (BW.out.trans (hb.mono BW.out.size)); clear hb)
        go_ret
        exact ⟨rfl, HBB.out⟩
      obtain ⟨w1, hw1⟩ : ∃ w1, w1 = wr := ⟨_, rfl⟩
      subst hw1
      have HS2 : Hid (s.size ≤ 200) := Lib.hid (by omega)
      go_wp2_with fail
      go_loopw [13, 41] (fun _ v wq => ∃ k : Nat, v = .int .i64 k ∧ k ≤ s.size ∧ (∀ c ∈ s.data.toList.take k, Pr c ∧ c.toNat ≠ 35) ∧ w1 = wq) (fun _ v _ => s.size - (intOf v).toNat)
      case atStart => exact ⟨0, rfl, Nat.zero_le _, fun c hc => by simp at hc, by first | rfl | trivial⟩
      case round =>
        obtain ⟨k, rfl, hk, hok, hwq⟩ := hrel
        obtain rfl : w1 = wr := by first | exact hwq | rfl
        have OK := Lib.hid hok
        clear hok
        by_cases hkl : k < s.size
        · have hkl' : (k : Int) < (s.size : Int) := by omega
          have TS : Hid (s.data.toList.take (k + 1) = s.data.toList.take k ++ [s[k]]) := Lib.hid (by
            have h' : k < s.data.toList.length := by rw [← Lib.size_eq]; exact hkl
            rw [List.take_add_one, List.getElem?_eq_getElem h']
            rfl)
          by_cases h1 : (s[k].toNat : Int) < 32
          · go_wp2_with (go_at_call 7; refine (fixed_any _).mono ?_; rintro e W1 ⟨rfl, hb⟩; have HBB := Lib.hid (BW.out.trans (hb.mono BW.out.size)); clear hb)
            go_ret
            exact ⟨rfl, HBB.out⟩
          by_cases h2 : 126 < (s[k].toNat : Int)
          · go_wp2_with (go_at_call 7; refine (fixed_any _).mono ?_; rintro e W1 ⟨rfl, hb⟩; have HBB := Lib.hid (BW.out.trans (hb.mono BW.out.size)); clear hb)
            go_ret
            exact ⟨rfl, HBB.out⟩
          by_cases h3 : (s[k].toNat : Int) = 35
          · go_wp2_with (go_at_call 7; refine (fixed_any _).mono ?_; rintro e W1 ⟨rfl, hb⟩; have HBB := Lib.hid (BW.out.trans (hb.mono BW.out.size)); clear hb)
            go_ret
            exact ⟨rfl, HBB.out⟩
          have h3b : ((s[k].toNat : Int) == 35) = false := beq_eq_false_iff_ne.2 h3
          have OK2 : Hid (∀ c ∈ s.data.toList.take (k + 1), Pr c ∧ c.toNat ≠ 35) := Lib.hid (fun c hc => by
            rw [TS.out] at hc
            rcases List.mem_append.1 hc with hc | hc
            · exact OK.out c hc
            · simp only [List.mem_singleton] at hc
              subst hc
              exact ⟨by unfold Pr; omega, by omega⟩)
          go_wp2_with fail
          go_roundw
          case rel => exact ⟨k + 1, by go_num, by omega, OK2.out, by first | rfl | trivial⟩
          case measure => simp [intOf]; omega
        · obtain rfl : k = s.size := by omega
          have OKS : Hid (∀ c ∈ s.data.toList, Pr c ∧ c.toNat ≠ 35) := Lib.hid (fun c hc => OK.out c (by rw [List.take_of_length_le (by rw [← size_l]; exact Nat.le_refl _)]; exact hc))
          have sz5 : (s.size : Int) ≤ 200 := by omega
          clear hs2 sm OK f1
          go_wp2_with fail
          refine reg16 HA.out HB.out N2.out sz5 mz ?_
          intro W4 o1 m1 o2 m2 sp1 sp2 cl hs1 hs2 hcl hb4
          have PN : Hid ((P ++ (s ++ ⟨#[10]⟩)).data.toList = cat id ((bsl l).take (i + 1))) := Lib.hid (by
            rw [TK.out, cat_snoc, ← HP.out]
            simp [ByteArray.data_append])
          have MN : Hid ((M ++ (sp1 ++ s ++ sp2 ++ ⟨#[35]⟩ ++ cl ++ ⟨#[10]⟩)).data.toList = cat (decor (a % 5) (b % 5) (cleanL note.data.toList)) ((bsl l).take (i + 1))) := Lib.hid (by
            rw [TK.out, cat_snoc, ← HM.out]
            unfold decor
            simp [ByteArray.data_append, hs1, hs2, hcl])
          have GN : Hid (Good ((bsl l).take (i + 1))) := Lib.hid (by rw [TK.out]; exact HG.out.snoc (by rw [← size_l]; exact HS2.out) OKS.out)
          have BN : Hid (Below w.heap.size w W4) := Lib.hid (BW.out.trans (hb4.mono BW.out.size))
          clear hs1 hs2 hcl hb4
          go_wp2_with fail
          go_roundw
          case rel => exact ⟨i + 1, _, _, by go_num, by omega, rfl, rfl, PN.out, MN.out, GN.out, BN.out⟩
          case measure => simp [intOf]; omega
    · have TI : Hid ((bsl l).take i = bsl l) := Lib.hid (List.take_of_length_le (by rw [List.length_map]; have := HN.out; omega))
      rw [TI.out] at FX HP HM
      obtain ⟨⟨ls1, ⟨x1, y1⟩, er⟩, hF1⟩ : ∃ F, linesF (cat id (bsl l)) = F := ⟨_, rfl⟩
      obtain ⟨⟨ls2, ⟨x2, y2⟩, er2⟩, hF2⟩ : ∃ F, linesF (cat (decor (a % 5) (b % 5) (cleanL note.data.toList)) (bsl l)) = F := ⟨_, rfl⟩
      have FX2 := FX.out
      rw [hF1, hF2] at FX2
      obtain ⟨-, -, f1, f2, f3, f4⟩ := FX2
      obtain rfl : er2 = er := f2
      have LF1 : Hid (linesF P.data.toList = (ls1, (x1, y1), er2)) := Lib.hid (by rw [HP.out]; exact hF1)
      have LF2 : Hid (linesF M.data.toList = (ls2, (x2, y2), er2)) := Lib.hid (by rw [HM.out]; exact hF2)
      have TX : Hid (tx ls2 = tx ls1) := Lib.hid f1
      have SM : Hid (Small 500 (tx ls1)) := Lib.hid f3
      have L1 : Hid (ls1.length ≤ 200) := Lib.hid f4
      have L2 : Hid (ls2.length = ls1.length) := Lib.hid (by rw [← tx_len, f1, tx_len])
      clear hF1 hF2 FX f1 f3 f4 a0 b0 h100 h200
      have PM : Hid (P.size ≤ maxLen ∧ M.size ≤ maxLen) := Lib.hid (by unfold maxLen; omega)
      by_cases h0 : (er2 : Int) = 0
      · obtain rfl : er2 = 0 := by omega
        clear h0
        go_wp2_with (first
          | (go_at_call 8; (with_reducible refine (lines_any P _ PM.out.1).mono ?_); rintro e W1 ⟨A1, n1, c1, VS1, rfl, hr, hb⟩; rw [LF1.out] at hr ⊢; have HR1 := Lib.hid hr; have HB1 := Lib.hid hb; clear hr hb)
          | (go_at_call 8; (with_reducible refine (lines_any M _ PM.out.2).mono ?_); rintro e W2 ⟨A2, n2, c2, VS2, rfl, hr, hb⟩; rw [LF2.out] at hr ⊢; have HR2 := Lib.hid hr; have HB2 := Lib.hid hb; have NE : n2 = n1 := (hr.len.trans L2.out).trans HR1.out.len.symm; clear hr hb; subst NE)
          | (go_at_call 7; (with_reducible refine (fixed_any _).mono ?_); rintro e W3 ⟨rfl, hb⟩; obtain ⟨-, -, m3, m4⟩ := lx_mem HB2.out hb; have M3 := Lib.hid m3; have M4 := Lib.hid m4; have BE := Lib.hid ((BW.out.trans (HB1.out.mono BW.out.size)).trans (m3.mono (Nat.le_trans BW.out.size HB1.out.size))); clear hb m3 m4)
          | (go_at_call 13; (with_reducible refine (text_any (HR1.out.below M3.out) SM.out L1.out).mono ?_); rintro e W4 ⟨rfl, hb⟩; have HB4 := Lib.hid hb; clear hb)
          | (go_at_call 13; (with_reducible refine (text_any ((HR2.out.below M4.out).below HB4.out) (by rw [TX.out]; exact SM.out) (by rw [L2.out]; exact L1.out)).mono ?_); rintro e W5 ⟨rfl, hb⟩; rw [TX.out]; have HB5 := Lib.hid hb; clear hb)
          )
        go_ret
        exact ⟨rfl, (BE.out.trans (HB4.out.mono BE.out.size)).trans (HB5.out.mono (Nat.le_trans BE.out.size HB4.out.size))⟩
      · have h0b : ((er2 : Int) == 0) = false := beq_eq_false_iff_ne.2 h0
        go_wp2_with (first
          | (go_at_call 8; (with_reducible refine (lines_any P _ PM.out.1).mono ?_); rintro e W1 ⟨A1, n1, c1, VS1, rfl, hr, hb⟩; rw [LF1.out] at hr ⊢; have HR1 := Lib.hid hr; have HB1 := Lib.hid hb; clear hr hb)
          | (go_at_call 8; (with_reducible refine (lines_any M _ PM.out.2).mono ?_); rintro e W2 ⟨A2, n2, c2, VS2, rfl, hr, hb⟩; rw [LF2.out] at hr ⊢; have HR2 := Lib.hid hr; have HB2 := Lib.hid hb; have NE : n2 = n1 := (hr.len.trans L2.out).trans HR1.out.len.symm; clear hr hb; subst NE)
          | (go_at_call 7; (with_reducible refine (fixed_any _).mono ?_); rintro e W3 ⟨rfl, hb⟩; obtain ⟨-, -, m3, m4⟩ := lx_mem HB2.out hb; have M3 := Lib.hid m3; have M4 := Lib.hid m4; have BE := Lib.hid ((BW.out.trans (HB1.out.mono BW.out.size)).trans (m3.mono (Nat.le_trans BW.out.size HB1.out.size))); clear hb m3 m4)
          )
        go_ret
        exact ⟨rfl, BE.out⟩

theorem blanks_law (A : Option Addr) (l : List ByteArray) (n c : Nat) (a b : Int) (note : ByteArray) (w : World) (h : SRow w w.heap.size A l) (hn : n = l.length) (hc : n ≤ c) (hcm : c ≤ maxLen) (hsz : ∀ i, (l.getD i ByteArray.empty).size ≤ maxLen) (ha : (Lit.int .u8 a).wf = true) (hb : (Lit.int .u8 b).wf = true) (hm : note.size ≤ maxLen) :
    Calls Tryd.prog 5 #[.slice A n c, .int .u8 a, .int .u8 b, .string note] w fun e w' => e = .returned (.bool true) ∧ Below w.heap.size w w' := by
  simp [Lit.wf, IntKind.min, IntKind.max, IntKind.signed, IntKind.bits] at ha hb
  obtain ⟨x, rfl⟩ : ∃ m : Nat, a = m := ⟨a.toNat, by omega⟩
  obtain ⟨y, rfl⟩ : ∃ n : Nat, b = n := ⟨b.toNat, by omega⟩
  exact blanks_go A l n c x y note w h hn hsz (by omega) (by omega) hm (Nat.le_trans hc hcm)

end Go.Proofs.YtlgakejjakeomaaDoor.Lx
