/- Ranks of packages that provide a name. -/
import Derived.Test.YtccmgaibikiedaaNdH
namespace Go.Proofs.Ytccmgaibikiedaa.Dc
open Go.RowKit
set_option linter.unusedVariables false
set_option linter.unusedSimpArgs false
def prefN (v : ByteArray) (f : Pf) : Bool := eqB f.virt v
abbrev fnN (p : Addr) : Value := .func (.func 49) #[] #[.pointer (some p)]
set_option maxHeartbeats 1000000 in
set_option maxRecDepth 100000 in
theorem closureN_any {w : World} (y : ByteArray) (A : Option Addr) (n c : Nat) (ln : Int) (v : ByteArray) (pb : Nat) (hp : pb < w.heap.size) (h0 : w.cell? ⟨pb, 0, none⟩ = some (.string v)) :
    Calls Try.prog 49 #[.agg #[.string y, .slice A n c, .int .i64 ln], .pointer (some ⟨pb, 0, none⟩)] w fun e w' => e = .returned (.bool (eqB y v)) ∧ Below w.heap.size w w' := by
  have BL : Hid (Below w.heap.size w (w.alloc (.cells #[.string y, .slice A n c, .int .i64 ln] 60))) := Lib.hid ((Below.refl w.heap.size w).alloc (Nat.le_refl _) _)
  have y0 : (w.alloc (.cells #[.string y, .slice A n c, .int .i64 ln] 60)).cell? ⟨pb, 0, none⟩ = some (.string v) := (BL.out.cell (p := ⟨pb, 0, none⟩) hp).trans h0
  have k0 : (w.alloc (.cells #[.string y, .slice A n c, .int .i64 ln] 60)).cell? ⟨w.heap.size, 0, none⟩ = some (.string y) := blk_cell (heap_alloc_new w _) rfl
  have R : Hid (eqB y v = (y.toList == v.toList)) := Lib.hid rfl
  clear hp h0
  go_enter Try.func49, Try.ntmps49
  go_wp2_with fail
  go_ret
  rw [R.out]
  exact ⟨rfl, BL.out⟩
set_option maxHeartbeats 2000000 in
set_option maxRecDepth 100000 in
theorem indexN_any {w : World} {B : Nat} {A : Option Addr} {n c : Nat} {l : List Pf} (h : Sl Pf 3 pfD w B A n c l) (hB : B ≤ w.heap.size) (v : ByteArray) (pb : Nat) (hp : pb < w.heap.size) (h0 : w.cell? ⟨pb, 0, none⟩ = some (.string v)) :
    Calls Try.prog 48 #[.slice A n c, fnN ⟨pb, 0, none⟩] w fun e w' => e = .returned (.int .i64 (findG (prefN v) l 0)) ∧ Below w.heap.size w w' := by
  have n5 := h.le
  have HN := Lib.hid h.len
  have H := Lib.hid h
  have HB : Hid (B ≤ w.heap.size) := Lib.hid hB
  have HC := Lib.hid (And.intro hp h0)
  clear h hB hp h0
  go_enter Try.func48, Try.ntmps48
  go_wp2_with fail
  go_loopw [5, 8] (fun _ v2 wq => ∃ i : Nat, v2 = .int .i64 i ∧ i ≤ n ∧ (l.take i).any (prefN v) = false ∧ Below w.heap.size w wq) (fun _ v _ => n - (intOf v).toNat)
  case atStart => exact ⟨0, rfl, Nat.zero_le _, rfl, Below.refl _ _⟩
  case round =>
    obtain ⟨i, rfl, hi, hq, hbw⟩ := hrel
    have HQ := Lib.hid hq
    have BW := Lib.hid hbw
    have SW := Lib.hid (H.out.below pf_stays (Nat.le_refl B) (hbw.mono HB.out))
    clear hq hbw
    by_cases hlt : i < n
    · have hlt' : (i : Int) < (n : Int) := by omega
      obtain ⟨q, b, o, A', m', c', t1, rfl, t3, x0, x1, x2, -, -⟩ := pf_at SW.out hlt
      have T1 := Lib.hid t1
      obtain ⟨y, hy⟩ : ∃ y, y = q.virt := ⟨_, rfl⟩
      rw [← hy] at x0
      obtain ⟨g, hg⟩ : ∃ g, g = prefN v q := ⟨_, rfl⟩
      have G1 : Hid (prefN v q = g) := Lib.hid hg.symm
      have C1 := Lib.hid (closureN_any y A' m' c' q.line v pb (Nat.lt_of_lt_of_le HC.out.1 BW.out.size) ((BW.out.cell (p := ⟨pb, 0, none⟩) HC.out.1).trans HC.out.2))
      rw [show eqB y v = g from by rw [hg, hy]; rfl] at C1
      clear t1 hg hy
      cases g
      case true =>
        have R : Hid (findG (prefN v) l 0 = (i : Int)) := Lib.hid (by have h := findG_hit l 0 i HQ.out T1.out G1.out; rw [Nat.zero_add] at h; exact h)
        go_wp2_with (go_at_call 49; refine C1.out.mono ?_; rintro e w1 ⟨rfl, hb1⟩; have BZ := Lib.hid (bstep BW.out hb1 BW.out.size); clear hb1)
        go_ret
        rw [R.out]
        exact ⟨rfl, BZ.out⟩
      have HQ2 : Hid ((l.take (i + 1)).any (prefN v) = false) := Lib.hid (any_next T1.out HQ.out G1.out)
      go_wp2_with (go_at_call 49; refine C1.out.mono ?_; rintro e w1 ⟨rfl, hb1⟩; have BZ := Lib.hid (bstep BW.out hb1 BW.out.size); clear hb1)
      go_roundw
      case rel => exact ⟨i + 1, by go_num, by omega, HQ2.out, BZ.out⟩
      case measure => simp [intOf]; omega
    · have R : Hid (findG (prefN v) l 0 = -1) := Lib.hid (findG_none l 0 (by
        have h := HQ.out
        rw [take_all (by have := HN.out; omega)] at h
        exact h))
      go_wp2_with fail
      go_ret
      rw [R.out]
      exact ⟨rfl, BW.out⟩
def nmE (nm y : ByteArray) : Bool := eqB y nm
def idxF (l : List ByteArray) (nm : ByteArray) : Int := if 0 ≤ findG (nmE nm) l 0 then findG (nmE nm) l 0 else (l.length : Int)
def preferF (x : Rc) (v nm : ByteArray) : Int := if 0 ≤ findG (prefN v) x.prefs 0 then idxF (((x.prefs[(findG (prefN v) x.prefs 0).toNat]?).map (·.names)).getD []) nm else 0
theorem idx_from (nm : ByteArray) : ∀ (l : List ByteArray) (k : Nat), Lib.idxFromS l nm k = findG (nmE nm) l k
  | [], _ => rfl
  | z :: l, k => by
    unfold Lib.idxFromS findG
    by_cases h : z = nm
    · have e : nmE nm z = true := (eqB_iff _ _).2 h
      rw [if_pos h, if_pos e]
    · have e : nmE nm z = false := by
        cases e : nmE nm z with
        | false => rfl
        | true => exact absurd ((eqB_iff _ _).1 e) h
      rw [if_neg h, if_neg (by rw [e]; decide), idx_from nm l (k + 1)]
theorem idx_find (nm : ByteArray) (l : List ByteArray) : Lib.idxOfS l nm = findG (nmE nm) l 0 := idx_from nm l 0
theorem index_any {w : World} {B : Nat} {A : Option Addr} {n c : Nat} {l : List ByteArray} (h : Sl ByteArray 1 strD w B A n c l) (s : ByteArray) : Calls Try.prog 50 #[.slice A n c, .string s] w fun e w' => e = .returned (.int .i64 (findG (nmE s) l 0)) ∧ w = w' := by
  rcases Nat.eq_zero_or_pos n with h0 | h0
  · subst h0
    have hl : l = [] := List.eq_nil_of_length_eq_zero h.len.symm
    refine (Try.slices_Index_string_empty A c s w).mono ?_
    rintro e w' ⟨he, hw⟩
    rw [idx_find] at he
    exact ⟨by rw [he, hl], hw.symm⟩
  · obtain ⟨y, b, o, -, rfl, -, -, -⟩ := text_at h h0
    refine (Try.slices_Index_string b o n c l s w (by rw [h.len]; exact Nat.le_refl _) (by have := h.le; omega) (fun j hj => ?_)).mono ?_
    · obtain ⟨y', b', o', t1, t2, t3, t4, t5⟩ := text_at h (show j < n by rw [h.len]; exact hj)
      injection t2 with t2
      injection t2 with t2 t2'
      subst t2 t2'
      rw [t4, List.getD_eq_getElem?_getD, t1]
      rfl
    · rintro e w' ⟨he, hw⟩
      rw [List.take_of_length_le (by rw [h.len]; exact Nat.le_refl _), idx_find] at he
      exact ⟨he, hw.symm⟩
set_option maxHeartbeats 4000000 in
set_option maxRecDepth 100000 in
theorem prefer10_any {w : World} {B : Nat} {x : Rc} {cs : List Value} (h : rcD w B cs x) (hB : B ≤ w.heap.size) (v nm : ByteArray) : Calls Try.prog 24 #[.agg cs.toArray, .string v, .string nm] w fun e w' => e = .returned (.int .i64 (preferF x v nm)) ∧ Below w.heap.size w w' := by
  obtain ⟨A1, n1, c1, A2, n2, c2, hcs, -, s2⟩ := rc_cells h
  have R := Lib.hid (show Bxs w [(#[.slice A1 n1 c1, .slice A2 n2 c2], 25), (#[.string v], 9)] _ from ((Bxs.nil w).push (by simp) #[.slice A1 n1 c1, .slice A2 n2 c2] 25).push (by simp) #[.string v] 9)
  have KC : Hid (∀ W, Bxs w [(#[.slice A1 n1 c1, .slice A2 n2 c2], 25), (#[.string v], 9)] W → W.cell? ⟨w.heap.size, 0, none⟩ = some (.slice A1 n1 c1) ∧ W.cell? ⟨w.heap.size, 1, none⟩ = some (.slice A2 n2 c2) ∧ W.cell? ⟨w.heap.size + 1, 0, none⟩ = some (.string v)) := Lib.hid (fun W hR => ⟨blk_cell (j := 0) (hR.box 0 _ rfl) rfl, blk_cell (j := 1) (hR.box 0 _ rfl) rfl, blk_cell (j := 0) (hR.box 1 _ rfl) rfl⟩)
  have SP : Hid (∀ W, Bxs w [(#[.slice A1 n1 c1, .slice A2 n2 c2], 25), (#[.string v], 9)] W → Sl Pf 3 pfD W B A2 n2 c2 x.prefs ∧ B ≤ W.heap.size) := Lib.hid (fun W hR => ⟨s2.below pf_stays (Nat.le_refl B) (hR.below.mono hB), Nat.le_trans hB hR.below.size⟩)
  have C1 : Hid (∀ W, Bxs w [(#[.slice A1 n1 c1, .slice A2 n2 c2], 25), (#[.string v], 9)] W → Calls Try.prog 48 #[.slice A2 n2 c2, fnN ⟨w.heap.size + 1, 0, none⟩] W fun e w' => e = .returned (.int .i64 (findG (prefN v) x.prefs 0)) ∧ Below W.heap.size W w') := Lib.hid (fun W hR =>
    indexN_any (SP.out W hR).1 (SP.out W hR).2 v (w.heap.size + 1) (lt_of_block (hR.box 1 _ rfl)) (blk_cell (j := 0) (hR.box 1 _ rfl) rfl))
  have n6 := s2.le
  have FL : Hid (findG (prefN v) x.prefs 0 = -1 ∨ ∃ j : Nat, j < n2 ∧ findG (prefN v) x.prefs 0 = (j : Int)) := Lib.hid (by
    rcases findG_lt (f := prefN v) x.prefs 0 with h | ⟨j, h1, h2⟩
    · exact .inl h
    · exact .inr ⟨j, by rw [s2.len]; exact h1, by rw [h2, Nat.zero_add]⟩)
  have PF : Hid (∀ j, j < n2 → ∃ (f : Pf) (b o : Nat) (An : Option Addr) (nn cn : Nat), x.prefs[j]? = some f ∧ A2 = some ⟨b, o, none⟩ ∧ (∀ W, Bxs w [(#[.slice A1 n1 c1, .slice A2 n2 c2], 25), (#[.string v], 9)] W → W.cell? ⟨b, o + j * 3 + 1, none⟩ = some (.slice An nn cn)) ∧ (nn : Int) ≤ 9223372036854775807 ∧ nn = f.names.length ∧ ∀ W, Bxs w [(#[.slice A1 n1 c1, .slice A2 n2 c2], 25), (#[.string v], 9)] W → Sl ByteArray 1 strD W B An nn cn f.names) := Lib.hid (fun j hj => by
    obtain ⟨q, b, o, An, nn, cn, t1, hA2, t3, x0, x1, x2, -, sn⟩ := pf_at s2 hj
    exact ⟨q, b, o, An, nn, cn, t1, hA2, fun W hR => ((hR.below.mono hB).cell (p := ⟨b, o + j * 3 + 1, none⟩) t3).trans x1, sn.le, sn.len, fun W hR => sn.below strD_stays (Nat.le_refl B) (hR.below.mono hB)⟩)
  rw [hcs]
  clear h hcs s2 hB
  obtain ⟨k0, k1, k2⟩ := KC.out _ R.out
  show Calls Try.prog _ #[.agg #[.slice A1 n1 c1, .slice A2 n2 c2], .string v, .string nm] w _
  rcases FL.out with hz | ⟨j, hj, hz⟩
  · have Z0 : Hid (preferF x v nm = 0) := Lib.hid (by unfold preferF; rw [hz, if_neg (by decide)])
    rw [hz] at C1
    clear hz
    go_enter Try.func24, Try.ntmps24
    go_wp2_with (go_at_call 48; (with_reducible refine (C1.out _ R.out).mono ?_); rintro e v1 ⟨rfl, hb⟩; have R := Lib.hid (R.out.step hb); clear hb; obtain ⟨k0, k1, k2⟩ := KC.out _ R.out)
    go_ret
    rw [Z0.out]
    exact ⟨rfl, R.out.below⟩
  · obtain ⟨f, b, o, An, nn, cn, t1, hA, hx, hnn, hnl, hsn⟩ := PF.out j hj
    have hj' : (j : Int) < (n2 : Int) := by omega
    have Z0 : Hid (preferF x v nm = idxF f.names nm) := Lib.hid (by unfold preferF; rw [hz, if_pos (by omega)]; simp [t1])
    rw [hz] at C1
    subst hA
    have XS := Lib.hid hx
    have SN := Lib.hid hsn
    have NL := Lib.hid hnl
    have y0 := hx _ R.out
    clear hx hsn hnl t1 hz
    obtain ⟨z, hz⟩ : ∃ z, z = findG (nmE nm) f.names 0 := ⟨_, rfl⟩
    have ZI : Hid (idxF f.names nm = if 0 ≤ z then z else (f.names.length : Int)) := Lib.hid (by rw [hz]; rfl)
    have CI : Hid (∀ W, Bxs w [(#[.slice A1 n1 c1, .slice (some ⟨b, o, none⟩) n2 c2], 25), (#[.string v], 9)] W → Calls Try.prog 50 #[.slice An nn cn, .string nm] W fun e w' => e = .returned (.int .i64 z) ∧ W = w') := Lib.hid (fun W hR => by rw [hz]; exact index_any (SN.out W hR) nm)
    clear hz
    by_cases h0 : 0 ≤ z
    · go_enter Try.func24, Try.ntmps24
      go_wp2_with (first | (go_at_call 48; (with_reducible refine (C1.out _ R.out).mono ?_); rintro e v1 ⟨rfl, hb⟩; have R := Lib.hid (R.out.step hb); clear hb; obtain ⟨k0, k1, k2⟩ := KC.out _ R.out; have y0 := XS.out _ R.out) | (go_at_call 50; (with_reducible refine (CI.out _ R.out).mono ?_); rintro e v1 ⟨rfl, rfl⟩))
      go_ret
      rw [Z0.out, ZI.out, if_pos (by omega)]
      exact ⟨rfl, R.out.below⟩
    · go_enter Try.func24, Try.ntmps24
      go_wp2_with (first | (go_at_call 48; (with_reducible refine (C1.out _ R.out).mono ?_); rintro e v1 ⟨rfl, hb⟩; have R := Lib.hid (R.out.step hb); clear hb; obtain ⟨k0, k1, k2⟩ := KC.out _ R.out; have y0 := XS.out _ R.out) | (go_at_call 50; (with_reducible refine (CI.out _ R.out).mono ?_); rintro e v1 ⟨rfl, rfl⟩))
      go_ret
      rw [Z0.out, ZI.out, if_neg (by omega), ← NL.out]
      exact ⟨rfl, R.out.below⟩
set_option maxHeartbeats 4000000 in
set_option maxRecDepth 100000 in
theorem rprefer10_any {w : World} {B : Nat} {x : Rc} {cs : List Value} (h : rcD w B cs x) (hB : B ≤ w.heap.size) (v nm : ByteArray) : Calls Try.prog 25 #[.agg cs.toArray, .string v, .string nm] w fun e w' => e = .returned (.int .i64 (preferF x v nm)) ∧ Below w.heap.size w w' := by
  obtain ⟨A1, n1, c1, A2, n2, c2, hcs, -, s2⟩ := rc_cells h
  have R := Lib.hid (show Bxs w [(#[.slice A1 n1 c1, .slice A2 n2 c2], 25)] _ from (Bxs.nil w).push (by simp) #[.slice A1 n1 c1, .slice A2 n2 c2] 25)
  have KC : Hid (∀ W, Bxs w [(#[.slice A1 n1 c1, .slice A2 n2 c2], 25)] W → W.cell? ⟨w.heap.size, 0, none⟩ = some (.slice A1 n1 c1) ∧ W.cell? ⟨w.heap.size, 1, none⟩ = some (.slice A2 n2 c2)) := Lib.hid (fun W hR => ⟨blk_cell (j := 0) (hR.box 0 _ rfl) rfl, blk_cell (j := 1) (hR.box 0 _ rfl) rfl⟩)
  have n6 := s2.le
  have HN := Lib.hid s2.len
  have PF : Hid (∀ j, j < n2 → ∃ (f : Pf) (b o : Nat) (An : Option Addr) (nn cn : Nat), x.prefs[j]? = some f ∧ A2 = some ⟨b, o, none⟩ ∧ (∀ W, Bxs w [(#[.slice A1 n1 c1, .slice A2 n2 c2], 25)] W → W.cell? ⟨b, o + j * 3, none⟩ = some (.string f.virt) ∧ W.cell? ⟨b, o + j * 3 + 1, none⟩ = some (.slice An nn cn)) ∧ (nn : Int) ≤ 9223372036854775807 ∧ nn = f.names.length ∧ ∀ W, Bxs w [(#[.slice A1 n1 c1, .slice A2 n2 c2], 25)] W → Sl ByteArray 1 strD W B An nn cn f.names) := Lib.hid (fun j hj => by
    obtain ⟨q, b, o, An, nn, cn, t1, hA2, t3, x0, x1, x2, -, sn⟩ := pf_at s2 hj
    exact ⟨q, b, o, An, nn, cn, t1, hA2, fun W hR => ⟨((hR.below.mono hB).cell (p := ⟨b, o + j * 3, none⟩) t3).trans x0, ((hR.below.mono hB).cell (p := ⟨b, o + j * 3 + 1, none⟩) t3).trans x1⟩, sn.le, sn.len, fun W hR => sn.below strD_stays (Nat.le_refl B) (hR.below.mono hB)⟩)
  rw [hcs]
  clear h hcs s2 hB
  obtain ⟨k0, k1⟩ := KC.out _ R.out
  show Calls Try.prog _ #[.agg #[.slice A1 n1 c1, .slice A2 n2 c2], .string v, .string nm] w _
  go_enter Try.func25, Try.ntmps25
  go_wp2_with fail
  clear k0 k1
  go_loopw [7, 8, 9, 13] (fun _ _ _ vi wq => ∃ i : Nat, vi = .int .i64 i ∧ i ≤ n2 ∧ Bxs w [(#[.slice A1 n1 c1, .slice A2 n2 c2], 25)] wq ∧ (x.prefs.take i).any (prefN v) = false) (fun _ _ _ v _ => n2 - (RowKit.intOf v).toNat)
  case atStart => exact ⟨0, rfl, Nat.zero_le _, R.out, rfl⟩
  case round =>
    obtain ⟨i, rfl, hi, hr, hall⟩ := hrel
    have R := Lib.hid hr
    have HALL := Lib.hid hall
    clear hr hall
    by_cases hlt : i < n2
    · have hlt' : (i : Int) < (n2 : Int) := by omega
      obtain ⟨f, b, o, An, nn, cn, t1, hA, hx, hnn, hnl, hsn⟩ := PF.out i hlt
      obtain ⟨vt, hvt⟩ : ∃ y, y = f.virt := ⟨_, rfl⟩
      obtain ⟨y0, y1⟩ := hx _ R.out
      rw [← hvt] at y0
      have T1 := Lib.hid t1
      have PV : Hid (prefN v f = (vt.toList == v.toList)) := Lib.hid (by rw [hvt]; rfl)
      have SN := Lib.hid hsn
      have NL := Lib.hid hnl
      subst hA
      clear t1 hvt hx hsn hnl
      obtain ⟨k0, k1⟩ := KC.out _ R.out
      cases q : (vt.toList == v.toList)
      case false =>
        have NX : Hid ((x.prefs.take (i + 1)).any (prefN v) = false) := Lib.hid (any_next T1.out HALL.out (PV.out.trans q))
        go_wp2_with fail
        go_roundw
        case rel => exact ⟨i + 1, by go_num, by omega, R.out, NX.out⟩
        case measure => simp [RowKit.intOf]; omega
      have FZ : Hid (findG (prefN v) x.prefs 0 = (i : Int)) := Lib.hid (by have h := findG_hit x.prefs 0 i HALL.out T1.out (PV.out.trans q); rw [Nat.zero_add] at h; exact h)
      have Z0 : Hid (preferF x v nm = idxF f.names nm) := Lib.hid (by unfold preferF; rw [FZ.out, if_pos (by omega)]; simp [T1.out])
      go_wp2_with fail
      clear k0 k1 y0 y1
      obtain ⟨wo, hwo⟩ : ∃ wo, wo = wr := ⟨_, rfl⟩
      go_loopw [9, 32] (fun _ vi wq => ∃ k : Nat, vi = .int .i64 k ∧ k ≤ nn ∧ Bxs w [(#[.slice A1 n1 c1, .slice (some ⟨b, o, none⟩) n2 c2], 25)] wq ∧ (f.names.take k).any (nmE nm) = false) (fun _ v _ => nn - (RowKit.intOf v).toNat)
      case atStart => exact ⟨0, rfl, Nat.zero_le _, R.out, rfl⟩
      case round =>
        obtain ⟨k, rfl, hk, hr, hall⟩ := hrel
        have R := Lib.hid hr
        have HALL2 := Lib.hid hall
        clear hr hall
        by_cases hltk : k < nn
        · have hltk' : (k : Int) < (nn : Int) := by omega
          obtain ⟨s, b1, o1, t1, hAn, t3, y0, -⟩ := text_at (SN.out _ R.out) hltk
          subst hAn
          have T2 := Lib.hid t1
          have NE : Hid (nmE nm s = (s.toList == nm.toList)) := Lib.hid rfl
          clear t1 t3
          cases q2 : (s.toList == nm.toList)
          case true =>
            have I0 : Hid (idxF f.names nm = (k : Int)) := Lib.hid (by
              have h := findG_hit f.names 0 k HALL2.out T2.out (NE.out.trans q2)
              rw [Nat.zero_add] at h
              unfold idxF
              rw [h, if_pos (by omega)])
            go_wp2_with fail
            go_ret
            rw [Z0.out, I0.out]
            exact ⟨rfl, R.out.below⟩
          case false =>
            have NX : Hid ((f.names.take (k + 1)).any (nmE nm) = false) := Lib.hid (any_next T2.out HALL2.out (NE.out.trans q2))
            go_wp2_with fail
            go_roundw
            case rel => exact ⟨k + 1, by go_num, by omega, R.out, NX.out⟩
            case measure => simp [RowKit.intOf]; omega
        · have I0 : Hid (idxF f.names nm = (nn : Int)) := Lib.hid (by
            have h := HALL2.out
            rw [take_all (by have := NL.out; omega)] at h
            unfold idxF
            rw [findG_none _ _ h, if_neg (by decide), NL.out])
          go_wp2_with fail
          go_ret
          rw [Z0.out, I0.out]
          exact ⟨rfl, R.out.below⟩
    · have Z0 : Hid (preferF x v nm = 0) := Lib.hid (by
        have h := HALL.out
        rw [take_all (by have := HN.out; omega)] at h
        unfold preferF
        rw [findG_none _ _ h, if_neg (by decide)])
      go_wp2_with fail
      go_ret
      rw [Z0.out]
      exact ⟨rfl, R.out.below⟩

end Go.Proofs.Ytccmgaibikiedaa.Dc
