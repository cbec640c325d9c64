/- A table of atoms: help atoms, one after the other. -/
import Derived.Test.YtcjcnhnpjcgcmaaTblD
namespace Go.Proofs.Ytcjcnhnpjcgcmaa.Tbl
set_option linter.unusedVariables false
set_option linter.unusedSimpArgs false
open Go.RowKit Go.Maps
open Go.Proofs.Ytcjcnhnpjcgcmaa.Tot (lay rowA wideA deepA law zeroE info_atom Om grow_by)

abbrev ha (i : Nat) : At4 := (9, (i : Int), 0, 0)
def hs (k : Nat) : List At4 := (List.range k).map ha
theorem hs_len (k : Nat) : (hs k).length = k := by simp [hs]
theorem hs_succ (k : Nat) : hs (k + 1) = hs k ++ [ha k] := by unfold hs; rw [List.range_succ, List.map_append]; rfl
theorem hs_at {k i : Nat} (h : i < k) : (hs k)[i]? = some (ha i) := by simp [hs, h]
theorem ha_inj {i j : Nat} (h : ha i = ha j) : i = j := by
  have := congrArg (fun x : At4 => x.2.1) h
  simp only at this
  omega
theorem ha_mem {k i : Nat} : ha i ∈ hs k ↔ i < k := by
  unfold hs
  rw [List.mem_map]
  constructor
  · rintro ⟨j, hj, e⟩
    have := List.mem_range.1 hj
    have := ha_inj e
    omega
  · intro h; exact ⟨i, List.mem_range.2 h, rfl⟩
theorem hs_take {k i : Nat} (h : i ≤ k) : (hs k).take i = hs i := by
  unfold hs
  rw [← List.map_take, List.take_range]
  congr 2; omega
theorem find_hs (k i : Nat) : findF (hs k) (ha i) = if i < k then i + 1 else 0 := by
  by_cases h : i < k
  · rw [if_pos h]
    exact find_hit _ _ _ (hs_at h) (by rw [hs_take (by omega), ha_mem]; omega)
  · rw [if_neg h, find_zero, ha_mem]; omega
theorem ha_wf {i : Nat} (h : i ≤ 1000000) : WfA (ha i) := by
  refine ⟨(by decide : (Lit.int .u8 9).wf = true), ?_, (by decide : (Lit.int .i64 0).wf = true), (by decide : (Lit.int .i64 0).wf = true)⟩
  have e1 : IntKind.i64.min = -9223372036854775808 := rfl
  have e2 : IntKind.i64.max = 9223372036854775807 := rfl
  simp [Lit.wf]
  omega

set_option maxHeartbeats 1000000 in
set_option maxRecDepth 100000 in
theorem helpAtom_any (i : Nat) (W : World) : Calls Try.prog 48 #[.int .i64 (i : Nat)] W fun e w' => e = .returned (av (ha i)) ∧ ∃ q os', w' = Sort.grow (W.drewN q) os' := by
  go_enter Try.func48, Try.ntmps48
  go_wp2_with fail
  refine bodyPost_ret (results_cell_row rfl _ _ W.heap.size 70 _ (0, 0) _ rfl (heap_alloc_new W _) Try.underlying70 rfl (by kernel_rfl)) rfl ⟨rfl, 0, #[.cells #[.int .u8 9, .int .i64 i, .int .i64 0, .int .i64 0] 70], ?_⟩
  exact Sort.alloc_eq_grow _ _
theorem grow_bel (w : World) (n : Nat) (os : Array Obj) : Below w.heap.size w (Sort.grow (w.drewN n) os) := by
  have h := grow_by w n os
  exact ⟨h.os, h.tape, h.output, h.size, fun k hk => h.block k hk (by simp)⟩
theorem TS.setHelp {base tb lim cp : Nat} {hp : Int} {f : Bool} {A : Option Addr} {l : List At4} {w : World} (h : TS base tb lim hp f A cp l w) (hp' : Int) : TS base tb lim hp' f A cp l (w.setCell ⟨tb + 1, 3, none⟩ (.int .i64 hp')) ∧ Fr (fun i => i = tb + 1) w (w.setCell ⟨tb + 1, 3, none⟩ (.int .i64 hp')) := by
  have g := grown_set w ⟨tb + 1, 3, none⟩ (.int .i64 hp')
  have fr : Fr (fun i => i = tb + 1) w (w.setCell ⟨tb + 1, 3, none⟩ (.int .i64 hp')) := ⟨g.os, g.tape, g.output, g.size, fun i hi hne => g.block i hi (fun e => hne (by injection e))⟩
  obtain ⟨D, ho, ht⟩ := h.om
  exact ⟨⟨blk_set 3 _ h.tab, ⟨D, ho.kept g (by simp), ht⟩, own_fr h.own fr (fun i hi e => h.ne1 (by rw [hi, e]))⟩, fr⟩

/-- what a call of Help leaves. -/
def HelpEnd (base tb lim cp k : Nat) (f : Bool) (A : Option Addr) (w : World) (e : Ending) (w' : World) : Prop :=
  e = .returned (.int .i64 ((if k < lim then k + 1 else 0 : Nat))) ∧ ∃ f' A' cp', TS base tb lim (k : Nat) f' A' cp' (hs (if k < lim then k + 1 else k)) w' ∧ Fr (fun i => i = tb ∨ i = tb + 1 ∨ blkOf A k cp = some i) w w' ∧
    (blkOf A' 0 cp' = blkOf A k cp ∨ ∃ g, blkOf A' 0 cp' = some g ∧ w.heap.size ≤ g) ∧ f' = (if k < lim then f else true)

set_option maxHeartbeats 4000000 in
set_option maxRecDepth 100000 in
theorem help_gen {base tb lim cp k hp : Nat} {f : Bool} {A : Option Addr} {w : World} (h : TS base tb lim (hp : Nat) f A cp (hs k) w) (hk : k ≤ 1000) (hhp : hp ≤ k) (hbase : base ≤ w.heap.size) :
    Calls Try.prog 38 #[.pointer (some ⟨tb + 1, 0, none⟩)] w (HelpEnd base tb lim cp k f A w) := by
  have mixed : Try.prog.follows .mixedOrders = true := by kernel_rfl
  have H := Lib.hid h
  have HK := Lib.hid hk
  have HB := Lib.hid hbase
  have HH := Lib.hid hhp
  clear h hk hhp hbase
  go_enter Try.func38, Try.ntmps38
  go_wp2_with fail
  go_loopw [15] (fun _ wr => ∃ i : Nat, hp ≤ i ∧ i ≤ k ∧ TS base tb lim (i : Nat) f A cp (hs k) wr ∧ Fr (fun j => j = tb + 1) w wr) (fun _ wr => k - (match wr.cell? ⟨tb + 1, 3, none⟩ with | some (.int _ x) => x.toNat | _ => 0))
  case atStart => exact ⟨hp, Nat.le_refl _, HH.out, H.out, Fr.of_below (Below.refl _ _) _⟩
  case round =>
    obtain ⟨i, hi, hik, hts, hfr⟩ := hrel
    have T := Lib.hid hts
    have F := Lib.hid hfr
    have IK := Lib.hid hik
    have hb : tb + 1 < wr.heap.size := lt_of_block hts.tab
    have c1 : wr.cell? ⟨tb + 1, 1, none⟩ = some (.map (some tb)) := blk_cell hts.tab rfl
    have c3 : wr.cell? ⟨tb + 1, 3, none⟩ = some (.int .i64 i) := blk_cell hts.tab rfl
    have HB1 := Lib.hid hb
    have d1 := fun n os => cell_grown (w := wr) (a := ⟨tb + 1, 1, none⟩) hb c1 n os
    have d3 := fun n os => cell_grown (w := wr) (a := ⟨tb + 1, 3, none⟩) hb c3 n os
    obtain ⟨z, hz⟩ : ∃ z : Nat, z = if i < k then i + 1 else 0 := ⟨_, rfl⟩
    have LK : ∀ n os, (Instr.lookup 55 (.map (some tb)) (av (ha i)) false).run Try.prog (Sort.grow (wr.drewN n) os) = .ok (.int .i64 z) (Sort.grow (wr.drewN n) os) := fun n os => by
      obtain ⟨kl, hkl⟩ := keyA (ha i) (ha_wf (by have := HK.out; omega))
      obtain ⟨D, ho, htl⟩ := T.out.om
      obtain ⟨c, hrun, hat, hwc⟩ := (ho.kept (grow_by wr n os) (by simp)).lookup_int law Try.underlying55 Try.underlying3 (zeroE _) hkl
      have e := htl.2 (ha i) kl hkl
      rw [find_hs, ← hz] at e
      rw [e] at hat
      obtain rfl : c = (z : Int) := by simpa using hat.symm
      exact hrun
    have HI := Lib.hid hi
    clear hts hfr hik hi hb c1
    by_cases hlt : i < k
    · rw [if_pos hlt] at hz
      have hzne : ((z : Int) != 0) = true := by rw [bne_iff_ne]; omega
      have hzb : ¬ z = 0 := by omega
      have i1 : (i : Int) ≤ 1000 := by have := HK.out; omega
      clear hz
      go_wp2_with fail
      go_quiet_grown (first | (go_at_call 48; refine Calls.grown_of (helpAtom_any _ _)))
      obtain ⟨W0, hW0⟩ : ∃ W0, W0 = Sort.grow (wr.drewN nq) osq := ⟨_, rfl⟩
      have B0 : Hid (Below wr.heap.size wr W0) := Lib.hid (by rw [hW0]; exact grow_bel _ _ _)
      rw [← hW0]
      have T0 := Lib.hid (T.out.below B0.out)
      have e3 : W0.cell? ⟨tb + 1, 3, none⟩ = some (.int .i64 i) := blk_cell T0.out.tab rfl
      have f3 : W0.frozen? ⟨tb + 1, 3, none⟩ = false := blk_free 3 T0.out.tab
      have T1 := Lib.hid (T0.out.setHelp ((i + 1 : Nat) : Int))
      have F1 : Hid (Fr (fun j => j = tb + 1) w (W0.setCell ⟨tb + 1, 3, none⟩ (.int .i64 ((i + 1 : Nat) : Int)))) := Lib.hid ((F.out.trans (Fr.of_below B0.out (fun _ => False)) (fun _ h => h) (fun _ _ h => h.elim)).trans T1.out.2 (fun _ h => h) (fun _ _ h => h))
      have e4 : Hid ((W0.setCell ⟨tb + 1, 3, none⟩ (.int .i64 ((i + 1 : Nat) : Int))).cell? ⟨tb + 1, 3, none⟩ = some (.int .i64 ((i + 1 : Nat) : Int))) := Lib.hid (blk_cell T1.out.1.tab rfl)
      have C3 := Lib.hid c3
      rw [show ((i + 1 : Nat) : Int) = (i : Int) + 1 by omega] at T1 F1 e4
      clear hW0 LK d1 d3 c3
      go_wp2_with fail
      go_roundw
      case rel => exact ⟨i + 1, by have := HI.out; omega, by omega, T1.out.1, F1.out⟩
      case measure => rw [e4.out, C3.out]; simp; omega
    · obtain rfl : i = k := by have := IK.out; omega
      rw [if_neg hlt] at hz
      subst hz
      go_wp2_with fail
      go_quiet_grown (first | (go_at_call 48; refine Calls.grown_of (helpAtom_any _ _)))
      obtain ⟨W0, hW0⟩ : ∃ W0, W0 = Sort.grow (wr.drewN nq) osq := ⟨_, rfl⟩
      have B0 : Hid (Below wr.heap.size wr W0) := Lib.hid (by rw [hW0]; exact grow_bel _ _ _)
      rw [← hW0]
      have T0 := Lib.hid (T.out.below B0.out)
      have e3 : W0.cell? ⟨tb + 1, 3, none⟩ = some (.int .i64 i) := blk_cell T0.out.tab rfl
      clear hW0 LK d1 d3 c3
      go_wp2_with fail
      refine (helpAtom_any _ _).mono ?_
      rintro e W ⟨rfl, q, os', hW⟩
      have B1 : Hid (Below W0.heap.size W0 W) := Lib.hid (by rw [hW]; exact grow_bel _ _ _)
      have T1 := Lib.hid (T0.out.below B1.out)
      have F1 : Hid (Fr (fun j => j = tb + 1) w W) := Lib.hid ((F.out.trans (Fr.of_below B0.out (fun _ => False)) (fun _ h => h) (fun _ _ h => h.elim)).trans (Fr.of_below B1.out (fun _ => False)) (fun _ h => h) (fun _ _ h => h.elim))
      have NF := Lib.hid (number_any T1.out (ha i) (ha_wf (by have := HK.out; omega)) (by rw [hs_len]; exact HK.out) (by have := HB.out; have := F1.out.size; omega))
      clear hW e3
      go_wp2_with fail
      refine NF.out.mono ?_
      rintro e w2 ⟨rfl, f', A', cp', hT, hF, hA, hf'⟩
      have AE : Hid (addF lim (hs i) (ha i) = hs (if i < lim then i + 1 else i)) := Lib.hid (by
        by_cases hl : i < lim
        · rw [if_pos hl, addF_new _ _ _ (by rw [find_hs, if_neg (Nat.lt_irrefl _)]) (by rw [hs_len]; exact hl), hs_succ]
        · rw [if_neg hl, addF_full _ _ _ (by rw [hs_len]; omega)])
      rw [AE.out] at hT hA
      rw [hs_len] at hF hA hf'
      have FE : Hid (findF (addF lim (hs i) (ha i)) (ha i) = if i < lim then i + 1 else 0) := Lib.hid (by
        rw [AE.out, find_hs]
        by_cases hl : i < lim
        · simp [hl]
        · simp [hl])
      rw [FE.out]
      have R : Hid (HelpEnd base tb lim cp i f A w (.returned (.int .i64 ((if i < lim then i + 1 else 0 : Nat)))) w2) := Lib.hid ⟨rfl, f', A', cp', hT, F1.out.trans hF (fun j h => .inr (.inl h)) (fun j _ h => h), by
        rw [blkOf_eq A' _ cp' 0 cp', blkOf_eq A (hs i).length cp i cp] at hA
        rcases hA with h | ⟨g, h1, h2⟩
        · exact .inl h
        · exact .inr ⟨g, h1, by have := F1.out.size; omega⟩, by
        rw [hf', find_hs, if_neg (Nat.lt_irrefl _)]
        by_cases hl : i < lim
        · rw [if_pos hl, if_neg (by omega)]
        · rw [if_neg hl, if_pos (by omega)]⟩
      obtain ⟨rr, hrr⟩ : ∃ r : Nat, r = if i < lim then i + 1 else 0 := ⟨_, rfl⟩
      rw [← hrr] at R ⊢
      clear hT hF hA hf' NF hrr AE FE
      go_wp2_with fail
      go_ret
      exact R.out

end Go.Proofs.Ytcjcnhnpjcgcmaa.Tbl
