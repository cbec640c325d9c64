/- The table of atoms: an atom is new. -/
import Derived.Test.YtcjcnhnpjcgcmaaTblA
namespace Go.Proofs.Ytcjcnhnpjcgcmaa.Tbl
set_option linter.unusedVariables false
set_option linter.unusedSimpArgs false
open Go.RowKit Go.Maps
open Go.Proofs.Ytcjcnhnpjcgcmaa.Tot (lay rowA wideA deepA law zeroE info_atom Om)

theorem Fr.of_grown {w w' : World} {row : Option Nat} (h : w.grownBy w' row) {S : Nat → Prop} (hS : ∀ i, row = some i → S i) : Fr S w w' :=
  ⟨h.os, h.tape, h.output, h.size, fun i hi hn => h.block i hi (fun e => hn (hS i e.symm))⟩

set_option maxHeartbeats 4000000 in
set_option maxRecDepth 100000 in
theorem number_new {w : World} {tb n lim cp base : Nat} {kl : Lit} {A : Option Addr} {f : Bool} {hp : Int} {D : DataW Unit} {xs : List Value} (k a b c : Int) (hk : keyOf Try.prog 70 (.agg #[.int .u8 k, .int .i64 a, .int .i64 b, .int .i64 c]) = some kl) (ht : w.heap[tb + 1]? = some (.cells #[.int .i64 lim, .map (some tb), .slice A n cp, .int .i64 hp, .bool f] 58 (0, 0))) (ho : Om w tb n D)
    (hown : w.ownsRow base 70 4 (.slice A n cp) n xs) (hD : D.atKey kl (.lit (.int .i64 0)) = .lit (.int .i64 0)) (hl : n < lim) (hn : n ≤ 1000) (hb0 : some tb ≠ (Value.slice A n cp).ownBlock) (hb1 : some (tb + 1) ≠ (Value.slice A n cp).ownBlock) (hbase : base ≤ w.heap.size) :
    Calls Try.prog 49 #[.pointer (some ⟨tb + 1, 0, none⟩), .agg #[.int .u8 k, .int .i64 a, .int .i64 b, .int .i64 c]] w fun e w' => e = .returned (.int .i64 ((n + 1 : Nat) : Int)) ∧ ∃ g cap, w'.heap[tb + 1]? = some (.cells #[.int .i64 lim, .map (some tb), .slice (some ⟨g, 0, none⟩) (n + 1) cap, .int .i64 hp, .bool f] 58 (0, 0)) ∧
      Om w' tb (n + 1) (D.put kl (.lit (.int .i64 ((n + 1 : Nat) : Int)))) ∧ w'.ownsRow base 70 4 (.slice (some ⟨g, 0, none⟩) (n + 1) cap) (n + 1) (xs ++ [.int .u8 k, .int .i64 a, .int .i64 b, .int .i64 c]) ∧ Fr (fun i => i = tb ∨ i = tb + 1 ∨ (Value.slice A n cp).ownBlock = some i) w w' ∧ ((Value.slice A n cp).ownBlock = some g ∨ w.heap.size ≤ g) := by
  obtain ⟨i0, hi, hz0, hz1, hz2⟩ := info_parts info_atom
  have hlt : tb + 1 < w.heap.size := lt_of_block ht
  have hvb : ∀ i, (Value.slice A n cp).ownBlock = some i → base ≤ i ∧ i < w.heap.size := hown.lt
  have hA : ∀ o, (w.alloc o).heap[tb + 1]? = some (.cells #[.int .i64 lim, .map (some tb), .slice A n cp, .int .i64 hp, .bool f] 58 (0, 0)) := fun o => (Below.heap_alloc _ _ _ hlt).trans ht
  have c0 : ∀ o, (w.alloc o).cell? ⟨tb + 1, 0, none⟩ = some (.int .i64 lim) := fun o => blk_cell (hA o) rfl
  have c1 : ∀ o, (w.alloc o).cell? ⟨tb + 1, 1, none⟩ = some (.map (some tb)) := fun o => blk_cell (hA o) rfl
  have c2 : ∀ o, (w.alloc o).cell? ⟨tb + 1, 2, none⟩ = some (.slice A n cp) := fun o => blk_cell (hA o) rfl
  have hl' : (n : Int) < (lim : Int) := by omega
  have HVB := Lib.hid hvb
  have HOWN := Lib.hid hown
  have HO := Lib.hid ho
  have HK := Lib.hid hk
  have HN := Lib.hid hn
  have HB0 := Lib.hid hb0
  have HB1 := Lib.hid hb1
  have HBS := Lib.hid hbase
  have HI := Lib.hid (And.intro hi (And.intro hz0 (And.intro hz1 hz2)))
  have HA := Lib.hid hA
  obtain ⟨cc, hrun, hat, hwc⟩ := ((ho.alloc (.cells #[.int .u8 k, .int .i64 a, .int .i64 b, .int .i64 c] 70)).drew).lookup_int law Try.underlying55 Try.underlying3 (zeroE _) hk
  rw [hD] at hat
  obtain rfl : cc = 0 := by simpa using hat.symm
  clear hat hD hk hwc hA ho hown hvb hn hb0 hb1 hbase hi hz0 hz1 hz2 hl
  go_enter Try.func49, Try.ntmps49
  go_wp2_with fail
  go_region
  go_wp2_with fail
  go_region
  go_wp2_with fail
  clear hrun
  have hs1 : (w.alloc (.cells #[.int .u8 k, .int .i64 a, .int .i64 b, .int .i64 c] 70)).heap.size = w.heap.size + 1 := by simp
  have hnw : ((w.alloc (.cells #[.int .u8 k, .int .i64 a, .int .i64 b, .int .i64 c] 70)).alloc (.cells #[.int .u8 k, .int .i64 a, .int .i64 b, .int .i64 c] 70)).heap[w.heap.size + 1]? = some (.cells #[.int .u8 k, .int .i64 a, .int .i64 b, .int .i64 c] 70) := by
    have h := heap_alloc_new (w.alloc (.cells #[.int .u8 k, .int .i64 a, .int .i64 b, .int .i64 c] 70)) (.cells #[.int .u8 k, .int .i64 a, .int .i64 b, .int .i64 c] 70)
    rw [hs1] at h
    exact h
  have hnv : ((w.alloc (.cells #[.int .u8 k, .int .i64 a, .int .i64 b, .int .i64 c] 70)).alloc (.cells #[.int .u8 k, .int .i64 a, .int .i64 b, .int .i64 c] 70)).heap[w.heap.size]? = some (.cells #[.int .u8 k, .int .i64 a, .int .i64 b, .int .i64 c] 70) := (Below.heap_alloc _ _ _ (by simp)).trans (heap_alloc_new w (.cells #[.int .u8 k, .int .i64 a, .int .i64 b, .int .i64 c] 70))
  have hnt : ((w.alloc (.cells #[.int .u8 k, .int .i64 a, .int .i64 b, .int .i64 c] 70)).alloc (.cells #[.int .u8 k, .int .i64 a, .int .i64 b, .int .i64 c] 70)).heap[tb + 1]? = some (.cells #[.int .i64 lim, .map (some tb), .slice A n cp, .int .i64 hp, .bool f] 58 (0, 0)) := (Below.heap_alloc _ _ _ (by simp; omega)).trans (HA.out _)
  have hsz : ((w.alloc (.cells #[.int .u8 k, .int .i64 a, .int .i64 b, .int .i64 c] 70)).alloc (.cells #[.int .u8 k, .int .i64 a, .int .i64 b, .int .i64 c] 70)).heap.size = w.heap.size + 2 := by simp
  have hG : ∀ w1, ((w.alloc (.cells #[.int .u8 k, .int .i64 a, .int .i64 b, .int .i64 c] 70)).alloc (.cells #[.int .u8 k, .int .i64 a, .int .i64 b, .int .i64 c] 70)).drew.drew.drew.grownBy w1 (Value.slice A n cp).ownBlock → w1.heap[tb + 1]? = some (.cells #[.int .i64 lim, .map (some tb), .slice A n cp, .int .i64 hp, .bool f] 58 (0, 0)) ∧ w1.heap[w.heap.size]? = some (.cells #[.int .u8 k, .int .i64 a, .int .i64 b, .int .i64 c] 70) := fun w1 hg =>
    ⟨(hg.block (tb + 1) (by show tb + 1 < ((w.alloc (.cells #[.int .u8 k, .int .i64 a, .int .i64 b, .int .i64 c] 70)).alloc (.cells #[.int .u8 k, .int .i64 a, .int .i64 b, .int .i64 c] 70)).heap.size; omega) HB1.out).trans hnt, (hg.block w.heap.size (by show w.heap.size < ((w.alloc (.cells #[.int .u8 k, .int .i64 a, .int .i64 b, .int .i64 c] 70)).alloc (.cells #[.int .u8 k, .int .i64 a, .int .i64 b, .int .i64 c] 70)).heap.size; omega) (fun e => by have := (HVB.out _ e.symm).2; omega)).trans hnv⟩
  have hK : ∀ w1, ((w.alloc (.cells #[.int .u8 k, .int .i64 a, .int .i64 b, .int .i64 c] 70)).alloc (.cells #[.int .u8 k, .int .i64 a, .int .i64 b, .int .i64 c] 70)).drew.drew.drew.grownBy w1 (Value.slice A n cp).ownBlock → w1.cell? ⟨tb + 1, 2, none⟩ = some (.slice A n cp) ∧ w1.cell? ⟨w.heap.size, 0, none⟩ = some (.int .u8 k) ∧ w1.cell? ⟨w.heap.size, 0 + 1, none⟩ = some (.int .i64 a) ∧ w1.cell? ⟨w.heap.size, 0 + 2, none⟩ = some (.int .i64 b) ∧ w1.cell? ⟨w.heap.size, 0 + 3, none⟩ = some (.int .i64 c) := fun w1 hg =>
    ⟨blk_cell (hG w1 hg).1 rfl, blk_cell (hG w1 hg).2 rfl, blk_cell (hG w1 hg).2 rfl, blk_cell (hG w1 hg).2 rfl, blk_cell (hG w1 hg).2 rfl⟩
  have hNEWS : ∀ j u, ([Value.int .u8 k, .int .i64 a, .int .i64 b, .int .i64 c] : List Value)[j]? = some u → ((w.alloc (.cells #[.int .u8 k, .int .i64 a, .int .i64 b, .int .i64 c] 70)).alloc (.cells #[.int .u8 k, .int .i64 a, .int .i64 b, .int .i64 c] 70)).drew.drew.drew.cell? ((⟨w.heap.size + 1, 0, none⟩ : Addr).add j) = some u := World.news_of_block (w := ((w.alloc (.cells #[.int .u8 k, .int .i64 a, .int .i64 b, .int .i64 c] 70)).alloc (.cells #[.int .u8 k, .int .i64 a, .int .i64 b, .int .i64 c] 70)).drew.drew.drew) (cs := #[.int .u8 k, .int .i64 a, .int .i64 b, .int .i64 c]) hnw
  have hONE : ∀ u ∈ ([Value.int .u8 k, .int .i64 a, .int .i64 b, .int .i64 c] : List Value), u.oneCell' = true := by
    intro u hu
    simp at hu
    rcases hu with rfl | rfl | rfl | rfl <;> rfl
  have hOWN : ((w.alloc (.cells #[.int .u8 k, .int .i64 a, .int .i64 b, .int .i64 c] 70)).alloc (.cells #[.int .u8 k, .int .i64 a, .int .i64 b, .int .i64 c] 70)).drew.drew.drew.ownsRow base 70 4 (.slice A n cp) n xs := ((HOWN.out.alloc _).alloc _).drew.drew.drew
  have hBASE : base ≤ ((w.alloc (.cells #[.int .u8 k, .int .i64 a, .int .i64 b, .int .i64 c] 70)).alloc (.cells #[.int .u8 k, .int .i64 a, .int .i64 b, .int .i64 c] 70)).drew.drew.drew.heap.size := by show _ ≤ ((w.alloc (.cells #[.int .u8 k, .int .i64 a, .int .i64 b, .int .i64 c] 70)).alloc (.cells #[.int .u8 k, .int .i64 a, .int .i64 b, .int .i64 c] 70)).heap.size; have := HBS.out; omega
  have hMAX : n + 1 ≤ maxLen := by have := HN.out; unfold maxLen; omega
  have hBY : (n + 1) * 32 ≤ 140737488355328 := by have := HN.out; omega
  have c2' := blk_cell (j := 2) hnt rfl
  have hF0 : Fr (fun i => i = tb ∨ i = tb + 1 ∨ (Value.slice A n cp).ownBlock = some i) w ((w.alloc (.cells #[.int .u8 k, .int .i64 a, .int .i64 b, .int .i64 c] 70)).alloc (.cells #[.int .u8 k, .int .i64 a, .int .i64 b, .int .i64 c] 70)).drew.drew.drew := Fr.of_below ((((Below.refl w.heap.size w).alloc (Nat.le_refl _) (.cells #[.int .u8 k, .int .i64 a, .int .i64 b, .int .i64 c] 70)).alloc (by simp) (.cells #[.int .u8 k, .int .i64 a, .int .i64 b, .int .i64 c] 70)).drew.drew.drew) _
  have HF0 := Lib.hid hF0
  clear hF0
  obtain ⟨hi, hz0, hz1, hz2⟩ := HI.out
  go_region_law
    ((refine step_append_lies _ (by rfl) _ _ _ (by rfl) base 70 i0 (.agg #[.int .u8 0, .int .i64 0, .int .i64 0, .int .i64 0]) 4 32 Try.underlying56 hi hz0 hz1 hz2 (by rfl) (by omega) (.slice A n cp) n xs (by rfl) hOWN ⟨w.heap.size + 1, 0, none⟩ 1 1 [.int .u8 k, .int .i64 a, .int .i64 b, .int .i64 c] (by rfl) (by rfl) hNEWS hONE (Nat.lt_succ_self 0) hMAX hBY hBASE (w.heap.size + 2) hsz ?_; intro g cap w1 hown1 hgrow hat hlt1; have f0 := blk_free 2 (hG w1 hgrow).1; obtain ⟨q1, q2, q3, q4, q5⟩ := hK _ hgrow))
  all_goals
    obtain ⟨N, hN⟩ : ∃ N, N = n + 1 := ⟨_, rfl⟩
    rw [← hN] at hown1 ⊢
    have hg1 : g ≠ tb + 1 := by
      rcases hat with h | h
      · intro e; exact HB1.out (by rw [h, e])
      · omega
    have hg0 : g ≠ tb := by
      rcases hat with h | h
      · intro e; exact HB0.out (by rw [h, e])
      · omega
    have hgw : g ≠ w.heap.size := by
      rcases hat with h | h
      · intro e; have := (HVB.out _ h).2; omega
      · omega
    have HG : Hid ((Value.slice A n cp).ownBlock = some g ∨ w.heap.size ≤ g) := Lib.hid (by
      rcases hat with h | h
      · exact .inl h
      · right; omega)
    have gb := hG w1 hgrow
    have om1 : Om w1 tb n D := ((HO.out.alloc (.cells #[.int .u8 k, .int .i64 a, .int .i64 b, .int .i64 c] 70)).alloc (.cells #[.int .u8 k, .int .i64 a, .int .i64 b, .int .i64 c] 70)).drew.drew.drew.kept hgrow HB0.out
    have F1 : Fr (fun i => i = tb ∨ i = tb + 1 ∨ (Value.slice A n cp).ownBlock = some i) w w1 := HF0.out.trans (Fr.of_grown (S := (fun i => i = tb ∨ i = tb + 1 ∨ (Value.slice A n cp).ownBlock = some i)) hgrow (fun i e => .inr (.inr e))) (fun _ h => h) (fun _ _ h => h)
    have om2 := om1.kept (grown_set w1 ⟨tb + 1, 2, none⟩ (Value.slice (some ⟨g, 0, none⟩) N cap)) (by simp)
    have own2 := hown1.kept (grown_set w1 ⟨tb + 1, 2, none⟩ (Value.slice (some ⟨g, 0, none⟩) N cap)) (.inr (by intro e; injection e with e; exact hg1 e))
    have F2 : Fr (fun i => i = tb ∨ i = tb + 1 ∨ (Value.slice A n cp).ownBlock = some i) w (w1.setCell ⟨tb + 1, 2, none⟩ (Value.slice (some ⟨g, 0, none⟩) N cap)) := F1.trans (Fr.of_grown (S := (fun i => i = tb ∨ i = tb + 1 ∨ (Value.slice A n cp).ownBlock = some i)) (grown_set w1 ⟨tb + 1, 2, none⟩ (Value.slice (some ⟨g, 0, none⟩) N cap)) (fun i e => .inr (.inl (by injection e with e; exact e.symm)))) (fun _ h => h) (fun _ _ h => h)
    have ht2 := blk_set 2 (Value.slice (some ⟨g, 0, none⟩) N cap) gb.1
    have hv2 := ((grown_set w1 ⟨tb + 1, 2, none⟩ (Value.slice (some ⟨g, 0, none⟩) N cap)).block w.heap.size (lt_of_block gb.2) (by simp; omega)).trans gb.2
    obtain ⟨w2, hw2⟩ : ∃ w2, w2 = w1.setCell ⟨tb + 1, 2, none⟩ (Value.slice (some ⟨g, 0, none⟩) N cap) := ⟨_, rfl⟩
    rw [← hw2] at om2 own2 F2 ht2 hv2 ⊢
    have hN1 : N ≤ 1001 := by have := HN.out; omega
    have hwf : (Lit.int .i64 (N : Int)).wf = true := by
      simp [Lit.wf, IntKind.min, IntKind.max, IntKind.signed, IntKind.bits]; omega
    clear hw2 F1 om1 gb q1 q2 q3 q4 q5 f0 hown1 hgrow hat hlt1 hNEWS hONE hOWN hBASE hMAX hBY hG hK c2' hnw hnv hnt hsz hs1 c0 c1 c2
    obtain ⟨w3, hrun3, om3, hgrow3⟩ := om2.drew.update law Try.underlying55 (by have := HN.out; unfold maxLen; omega) HK.out (plainElem_int Try.underlying3 hwf)
    have hb2 : tb + 1 < w2.heap.size := lt_of_block ht2
    have ht3 := (hgrow3.block (tb + 1) hb2 (by simp)).trans ht2
    have own3 := own2.drew.kept hgrow3 (.inr (by intro e; injection e with e; exact hg0 e))
    have F23 : Fr (fun i => i = tb ∨ i = tb + 1 ∨ (Value.slice A n cp).ownBlock = some i) w2.drew w3 := Fr.of_grown hgrow3 (fun i e => .inl (by injection e with e; exact e.symm))
    have F3 : Fr (fun i => i = tb ∨ i = tb + 1 ∨ (Value.slice A n cp).ownBlock = some i) w w3 := F2.trans (S' := (fun i => i = tb ∨ i = tb + 1 ∨ (Value.slice A n cp).ownBlock = some i)) ⟨F23.os, F23.tape, F23.output, F23.size, F23.block⟩ (fun _ h => h) (fun _ _ h => h)
    have k1 : w2.cell? ⟨tb + 1, 1, none⟩ = some (.map (some tb)) := blk_cell ht2 rfl
    have k2 : w2.cell? ⟨tb + 1, 2, none⟩ = some (.slice (some ⟨g, 0, none⟩) N cap) := blk_cell ht2 rfl
    have k3 : w3.cell? ⟨tb + 1, 2, none⟩ = some (.slice (some ⟨g, 0, none⟩) N cap) := blk_cell ht3 rfl
    have v0 : w2.cell? ⟨w.heap.size, 0, none⟩ = some (.int .u8 k) := blk_cell hv2 rfl
    have v1 : w2.cell? ⟨w.heap.size, 0 + 1, none⟩ = some (.int .i64 a) := blk_cell hv2 rfl
    have v2 : w2.cell? ⟨w.heap.size, 0 + 2, none⟩ = some (.int .i64 b) := blk_cell hv2 rfl
    have v3 : w2.cell? ⟨w.heap.size, 0 + 3, none⟩ = some (.int .i64 c) := blk_cell hv2 rfl
    have HT := Lib.hid (show w3.heap[tb + 1]? = some (.cells #[.int .i64 lim, .map (some tb), .slice (some ⟨g, 0, none⟩) N cap, .int .i64 hp, .bool f] 58 (0, 0)) from ht3)
    have HO3 := Lib.hid om3
    have HW3 := Lib.hid own3
    have HF3 := Lib.hid F3
    have HN' := Lib.hid hN
    clear F2 F23 F3 ht2 ht3 om2 om3 own2 own3 hv2 hgrow3 hwf hN hg0 hg1 hgw
    go_wp2_with fail
    go_region
    all_goals
      go_wp2_with fail
      go_ret
      have hN := HN'.out
      subst hN
      exact ⟨rfl, g, cap, HT.out, HO3.out, HW3.out, ⟨HF3.out.os, HF3.out.tape, HF3.out.output, HF3.out.size, HF3.out.block⟩, HG.out⟩

end Go.Proofs.Ytcjcnhnpjcgcmaa.Tbl
