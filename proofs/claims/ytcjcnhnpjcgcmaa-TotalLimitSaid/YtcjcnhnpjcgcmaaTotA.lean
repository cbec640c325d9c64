/- A table of atoms: the first help atom. -/
import Derived.Test.YtcjcnhnpjcgcmaaChecked
import Derived.Test.YtcjcnhnpjcgcmaaAppend1
import Derived.Maps.OwnOps
import Derived.Maps.Views
import Derived.DeepKeys5
import Derived.RegionTactic
import Derived.Deep.RegionWith
import Derived.Deep.RegionHeld3
import Derived.Deep.RegionLaw
import Derived.Deep.AppendLies
import Derived.Deep.QuietTactic
namespace Go.Proofs.Ytcjcnhnpjcgcmaa.Tot
set_option linter.unusedVariables false
open Go.RowKit Go.Maps

theorem lay : laidOutB Try.prog = true := by kernel_rfl
theorem rowA : (70 : TypeId) < Try.prog.types.size := of_decide_eq_true (by kernel_rfl)
theorem wideA : (match Try.prog.underlying 70 with | some (.array _ _) | some (.struct _) => true | _ => false) = true := by rw [Try.underlying70]
set_option maxRecDepth 100000 in
theorem deepA : Try.prog.keyTypeAt 3 70 = true := by kernel_rfl
set_option maxRecDepth 100000 in
theorem law : Keyed Try.prog 70 := Keyed.of_law (deep_law_laid lay (by omega) rowA deepA wideA)
theorem zeroE (w : World) : (zeroValue 3).run Try.prog w = .ok (.int .i64 0) w := by kernel_rfl
theorem info_atom : (Try.prog.info? 70).map (fun i => (i.zero, i.size, i.bytes)) = some (some (.agg #[.int .u8 0, .int .i64 0, .int .i64 0, .int .i64 0]), 4, 32) := by kernel_rfl

/-- the example's atom. -/
def at7 : Value := .agg #[.int .u8 9, .int .i64 0, .int .i64 0, .int .i64 0]
theorem key7 : ∃ kl, keyOf Try.prog 70 (.agg #[.int .u8 9, .int .i64 0, .int .i64 0, .int .i64 0]) = some kl := Option.isSome_iff_exists.1 (by kernel_rfl)

/-- block b a map, the next one a table of at most 5. -/
def Tab (w : World) (b : Nat) (row : Value) : Prop :=
  w.heap[b + 1]? = some (.cells #[.int .i64 9, .map (some b), row, .int .i64 0, .bool false] 58 (0, 0))
abbrev Om (w : World) (b n : Nat) (D : DataW Unit) : Prop := w.ownsMap Try.prog 70 (plainElem Try.prog 3) b n D

set_option maxHeartbeats 1000000 in
set_option maxRecDepth 100000 in
theorem new5 (w : World) :
    Calls Try.prog 20 #[.int .i64 9] w fun e w' => e = .returned (.pointer (some ⟨w.heap.size + 1, 0, none⟩)) ∧ Tab w' w.heap.size (.slice none 0 0) ∧
      Om w' w.heap.size 0 (.map []) ∧ Below w.heap.size w w' := by
  have hmm := @run_makeMap Try.prog
  go_enter Try.func20, Try.ntmps20
  go_wp2_with fail
  go_ret
  have hs : (w.alloc (.map #[] 0)).heap.size = w.heap.size + 1 := by simp
  refine ⟨rfl, ?_, ?_, ?_⟩
  · have h := MapKept.heap_alloc (w.alloc (.map #[] 0)) (.cells #[.int .i64 9, .map (some w.heap.size), .slice none 0 0, .int .i64 0, .bool false] 58)
    rw [hs] at h
    exact h.1
  · exact (World.ownsMap_made _ _ _ _).alloc _
  · exact ((Below.refl _ _).alloc (Nat.le_refl _) _).alloc (by simp) _

set_option maxHeartbeats 1000000 in
set_option maxRecDepth 100000 in
theorem number_first {w : World} {b : Nat} {kl : Lit} (hk : keyOf Try.prog 70 (.agg #[.int .u8 9, .int .i64 0, .int .i64 0, .int .i64 0]) = some kl) (ht : Tab w b (.slice none 0 0)) (ho : Om w b 0 (.map [])) :
    Calls Try.prog 49 #[.pointer (some ⟨b + 1, 0, none⟩), .agg #[.int .u8 9, .int .i64 0, .int .i64 0, .int .i64 0]] w fun e w' => e = .returned (.int .i64 1) ∧ ∃ g cap,
      Tab w' b (.slice (some ⟨g, 0, none⟩) 1 cap) ∧ Om w' b 1 ((DataW.map []).put kl (.lit (.int .i64 1))) ∧ Below b w w' ∧ ∀ k, k < w.heap.size → k ≠ b → k ≠ b + 1 → w'.heap[k]? = w.heap[k]? := by
  obtain ⟨i0, hi, hz0, hz1, hz2⟩ := info_parts info_atom
  have hlt : b + 1 < w.heap.size := lt_of_block ht
  have hA : ∀ o, (w.alloc o).heap[b + 1]? = some (.cells #[.int .i64 9, .map (some b), .slice none 0 0, .int .i64 0, .bool false] 58 (0, 0)) := fun o => (Below.heap_alloc _ _ _ hlt).trans ht
  have c0 : ∀ o, (w.alloc o).cell? ⟨b + 1, 0, none⟩ = some (.int .i64 9) := fun o => blk_cell (hA o) rfl
  have c1 : ∀ o, (w.alloc o).cell? ⟨b + 1, 1, none⟩ = some (.map (some b)) := fun o => blk_cell (hA o) rfl
  have c2 : ∀ o, (w.alloc o).cell? ⟨b + 1, 2, none⟩ = some (.slice none 0 0) := fun o => blk_cell (hA o) rfl
  go_enter Try.func49, Try.ntmps49
  go_wp2_with fail
  obtain ⟨c, hrun, hat, hwc⟩ := ((ho.alloc (.cells #[.int .u8 9, .int .i64 0, .int .i64 0, .int .i64 0] 70)).drew).lookup_int law Try.underlying55 Try.underlying3 (zeroE _) hk
  obtain rfl : c = 0 := by simpa [DataW.atKey] using hat.symm
  go_region
  go_wp2_with fail
  go_region
  go_wp2_with fail
  clear hrun
  have hs1 : (w.alloc (.cells #[.int .u8 9, .int .i64 0, .int .i64 0, .int .i64 0] 70)).heap.size = w.heap.size + 1 := by simp
  have hnw : ((w.alloc (.cells #[.int .u8 9, .int .i64 0, .int .i64 0, .int .i64 0] 70)).alloc (.cells #[.int .u8 9, .int .i64 0, .int .i64 0, .int .i64 0] 70)).heap[w.heap.size + 1]? = some (.cells #[.int .u8 9, .int .i64 0, .int .i64 0, .int .i64 0] 70) := by
    have h := heap_alloc_new (w.alloc (.cells #[.int .u8 9, .int .i64 0, .int .i64 0, .int .i64 0] 70)) (.cells #[.int .u8 9, .int .i64 0, .int .i64 0, .int .i64 0] 70)
    rw [hs1] at h
    exact h
  have hnv : ((w.alloc (.cells #[.int .u8 9, .int .i64 0, .int .i64 0, .int .i64 0] 70)).alloc (.cells #[.int .u8 9, .int .i64 0, .int .i64 0, .int .i64 0] 70)).heap[w.heap.size]? = some (.cells #[.int .u8 9, .int .i64 0, .int .i64 0, .int .i64 0] 70) := (Below.heap_alloc _ _ _ (by simp)).trans (heap_alloc_new w (.cells #[.int .u8 9, .int .i64 0, .int .i64 0, .int .i64 0] 70))
  have hnt : ((w.alloc (.cells #[.int .u8 9, .int .i64 0, .int .i64 0, .int .i64 0] 70)).alloc (.cells #[.int .u8 9, .int .i64 0, .int .i64 0, .int .i64 0] 70)).heap[b + 1]? = some (.cells #[.int .i64 9, .map (some b), .slice none 0 0, .int .i64 0, .bool false] 58 (0, 0)) := (Below.heap_alloc _ _ _ (by simp; omega)).trans (hA _)
  have hsz : ((w.alloc (.cells #[.int .u8 9, .int .i64 0, .int .i64 0, .int .i64 0] 70)).alloc (.cells #[.int .u8 9, .int .i64 0, .int .i64 0, .int .i64 0] 70)).heap.size = w.heap.size + 2 := by simp
  have hG : ∀ w1, ((w.alloc (.cells #[.int .u8 9, .int .i64 0, .int .i64 0, .int .i64 0] 70)).alloc (.cells #[.int .u8 9, .int .i64 0, .int .i64 0, .int .i64 0] 70)).drew.drew.drew.grownBy w1 none → w1.heap[b + 1]? = some (.cells #[.int .i64 9, .map (some b), .slice none 0 0, .int .i64 0, .bool false] 58 (0, 0)) ∧ w1.heap[w.heap.size]? = some (.cells #[.int .u8 9, .int .i64 0, .int .i64 0, .int .i64 0] 70) := fun w1 hg =>
    ⟨(hg.block (b + 1) (by show b + 1 < ((w.alloc (.cells #[.int .u8 9, .int .i64 0, .int .i64 0, .int .i64 0] 70)).alloc (.cells #[.int .u8 9, .int .i64 0, .int .i64 0, .int .i64 0] 70)).heap.size; omega) (by simp)).trans hnt, (hg.block w.heap.size (by show w.heap.size < ((w.alloc (.cells #[.int .u8 9, .int .i64 0, .int .i64 0, .int .i64 0] 70)).alloc (.cells #[.int .u8 9, .int .i64 0, .int .i64 0, .int .i64 0] 70)).heap.size; omega) (by simp)).trans hnv⟩
  have hK : ∀ w1, ((w.alloc (.cells #[.int .u8 9, .int .i64 0, .int .i64 0, .int .i64 0] 70)).alloc (.cells #[.int .u8 9, .int .i64 0, .int .i64 0, .int .i64 0] 70)).drew.drew.drew.grownBy w1 none → w1.cell? ⟨b + 1, 2, none⟩ = some (.slice none 0 0) ∧ w1.cell? ⟨w.heap.size, 0, none⟩ = some (.int .u8 9) ∧ w1.cell? ⟨w.heap.size, 0 + 1, none⟩ = some (.int .i64 0) ∧ w1.cell? ⟨w.heap.size, 0 + 2, none⟩ = some (.int .i64 0) ∧ w1.cell? ⟨w.heap.size, 0 + 3, none⟩ = some (.int .i64 0) := fun w1 hg =>
    ⟨blk_cell (hG w1 hg).1 rfl, blk_cell (hG w1 hg).2 rfl, blk_cell (hG w1 hg).2 rfl, blk_cell (hG w1 hg).2 rfl, blk_cell (hG w1 hg).2 rfl⟩
  have hNEWS : ∀ j u, [Value.int .u8 9, .int .i64 0, .int .i64 0, .int .i64 0][j]? = some u → ((w.alloc (.cells #[.int .u8 9, .int .i64 0, .int .i64 0, .int .i64 0] 70)).alloc (.cells #[.int .u8 9, .int .i64 0, .int .i64 0, .int .i64 0] 70)).drew.drew.drew.cell? ((⟨w.heap.size + 1, 0, none⟩ : Addr).add j) = some u := World.news_of_block (w := ((w.alloc (.cells #[.int .u8 9, .int .i64 0, .int .i64 0, .int .i64 0] 70)).alloc (.cells #[.int .u8 9, .int .i64 0, .int .i64 0, .int .i64 0] 70)).drew.drew.drew) hnw
  have hONE : ∀ u ∈ [Value.int .u8 9, .int .i64 0, .int .i64 0, .int .i64 0], u.oneCell' = true := by
    intro u hu
    simp at hu
    rcases hu with rfl | rfl <;> rfl
  have hOWN : ((w.alloc (.cells #[.int .u8 9, .int .i64 0, .int .i64 0, .int .i64 0] 70)).alloc (.cells #[.int .u8 9, .int .i64 0, .int .i64 0, .int .i64 0] 70)).drew.drew.drew.ownsRow (w.heap.size + 1) 70 4 (.slice none 0 0) 0 [] := World.ownsRow_nil _ _ _ _
  have hBASE : w.heap.size + 1 ≤ ((w.alloc (.cells #[.int .u8 9, .int .i64 0, .int .i64 0, .int .i64 0] 70)).alloc (.cells #[.int .u8 9, .int .i64 0, .int .i64 0, .int .i64 0] 70)).drew.drew.drew.heap.size := by show _ ≤ ((w.alloc (.cells #[.int .u8 9, .int .i64 0, .int .i64 0, .int .i64 0] 70)).alloc (.cells #[.int .u8 9, .int .i64 0, .int .i64 0, .int .i64 0] 70)).heap.size; omega
  have hMAX : 0 + 1 ≤ maxLen := by unfold maxLen; omega
  have hBY : (0 + 1) * 32 ≤ 140737488355328 := by omega
  have c2' := blk_cell (j := 2) hnt rfl
  go_region_law
    ((refine step_append_lies _ (by rfl) _ _ _ (by rfl) (w.heap.size + 1) 70 i0 (.agg #[.int .u8 0, .int .i64 0, .int .i64 0, .int .i64 0]) 4 32 Try.underlying56 hi hz0 hz1 hz2 (by rfl) (by omega) (.slice none 0 0) 0 [] (by rfl) hOWN ⟨w.heap.size + 1, 0, none⟩ 1 1 [.int .u8 9, .int .i64 0, .int .i64 0, .int .i64 0] (by rfl) (by rfl) hNEWS hONE (Nat.lt_succ_self 0) hMAX hBY hBASE (w.heap.size + 2) hsz ?_; intro g cap w1 hown1 hgrow hat hlt1; obtain rfl : g = w.heap.size + 2 := (by simpa [Value.ownBlock] using hat); have f0 := blk_free 2 (hG w1 hgrow).1; obtain ⟨q1, q2, q3, q4, q5⟩ := hK _ hgrow))
  all_goals
    have gb := hG w1 hgrow
    have om1 : Om w1 b 0 (.map []) := ((ho.alloc (.cells #[.int .u8 9, .int .i64 0, .int .i64 0, .int .i64 0] 70)).alloc (.cells #[.int .u8 9, .int .i64 0, .int .i64 0, .int .i64 0] 70)).drew.drew.drew.kept hgrow (by simp [Value.ownBlock])
    have bel1 : Below b w w1 := (((((Below.refl b w).alloc (by omega) (.cells #[.int .u8 9, .int .i64 0, .int .i64 0, .int .i64 0] 70)).alloc (by simp; omega) (.cells #[.int .u8 9, .int .i64 0, .int .i64 0, .int .i64 0] 70)).drew.drew.drew).grown hgrow (by show b ≤ ((w.alloc (.cells #[.int .u8 9, .int .i64 0, .int .i64 0, .int .i64 0] 70)).alloc (.cells #[.int .u8 9, .int .i64 0, .int .i64 0, .int .i64 0] 70)).heap.size; omega) (by intro k hk; simp [Value.ownBlock] at hk))
    have om2 := om1.kept (grown_set w1 ⟨b + 1, 2, none⟩ (Value.slice (some ⟨w.heap.size + 2, 0, none⟩) 1 cap)) (by simp)
    have bel2 := bel1.grown (grown_set w1 ⟨b + 1, 2, none⟩ (Value.slice (some ⟨w.heap.size + 2, 0, none⟩) 1 cap)) (by omega) (by intro k hk; simp at hk; omega)
    have ht2 := blk_set 2 (Value.slice (some ⟨w.heap.size + 2, 0, none⟩) 1 cap) gb.1
    have hv2 := ((grown_set w1 ⟨b + 1, 2, none⟩ (Value.slice (some ⟨w.heap.size + 2, 0, none⟩) 1 cap)).block w.heap.size (by omega) (by simp; omega)).trans gb.2
    have far1 : ∀ k, k < w.heap.size → w1.heap[k]? = w.heap[k]? := fun k hk' => (hgrow.block k (by show k < ((w.alloc (.cells #[.int .u8 9, .int .i64 0, .int .i64 0, .int .i64 0] 70)).alloc (.cells #[.int .u8 9, .int .i64 0, .int .i64 0, .int .i64 0] 70)).heap.size; omega) (by simp [Value.ownBlock])).trans ((Below.heap_alloc _ _ _ (by simp; omega)).trans (Below.heap_alloc _ _ _ hk'))
    have far2 : ∀ k, k < w.heap.size → k ≠ b + 1 → (w1.setCell ⟨b + 1, 2, none⟩ (Value.slice (some ⟨w.heap.size + 2, 0, none⟩) 1 cap)).heap[k]? = w.heap[k]? := fun k hk' hne => ((grown_set w1 ⟨b + 1, 2, none⟩ (Value.slice (some ⟨w.heap.size + 2, 0, none⟩) 1 cap)).block k (by omega) (by simp; omega)).trans (far1 k hk')
    have size2 := (grown_set w1 ⟨b + 1, 2, none⟩ (Value.slice (some ⟨w.heap.size + 2, 0, none⟩) 1 cap)).size
    obtain ⟨w2, hw2⟩ : ∃ w2, w2 = w1.setCell ⟨b + 1, 2, none⟩ (Value.slice (some ⟨w.heap.size + 2, 0, none⟩) 1 cap) := ⟨_, rfl⟩
    rw [← hw2] at om2 bel2 ht2 hv2 far2 size2 ⊢
    clear far1 hw2 bel1 om1 gb q1 q2 q3 q4 q5 f0 hown1 hgrow hNEWS hONE hOWN hBASE hMAX hBY hG hK c2' hnw hnv hnt hsz hs1 c0 c1 c2 hA hat
    obtain ⟨w3, hrun3, om3, hgrow3⟩ := om2.drew.update law Try.underlying55 (by unfold maxLen; omega) hk (plainElem_int Try.underlying3 (by decide : (Lit.int .i64 1).wf = true))
    have hb2 : b + 1 < w2.heap.size := lt_of_block ht2
    have ht3 := (hgrow3.block (b + 1) hb2 (by simp)).trans ht2
    have bel3 := bel2.drew.grown hgrow3 (by show b ≤ w2.heap.size; omega) (by intro k hk; simp at hk; omega)
    have k1 : w2.cell? ⟨b + 1, 1, none⟩ = some (.map (some b)) := blk_cell ht2 rfl
    have k2 : w2.cell? ⟨b + 1, 2, none⟩ = some (.slice (some ⟨w.heap.size + 2, 0, none⟩) 1 cap) := blk_cell ht2 rfl
    have k3 : w3.cell? ⟨b + 1, 2, none⟩ = some (.slice (some ⟨w.heap.size + 2, 0, none⟩) 1 cap) := blk_cell ht3 rfl
    have v0 : w2.cell? ⟨w.heap.size, 0, none⟩ = some (.int .u8 9) := blk_cell hv2 rfl
    have v1 : w2.cell? ⟨w.heap.size, 0 + 1, none⟩ = some (.int .i64 0) := blk_cell hv2 rfl
    have v2 : w2.cell? ⟨w.heap.size, 0 + 2, none⟩ = some (.int .i64 0) := blk_cell hv2 rfl
    have v3 : w2.cell? ⟨w.heap.size, 0 + 3, none⟩ = some (.int .i64 0) := blk_cell hv2 rfl
    have HT := Lib.hid (show Tab w3 b (.slice (some ⟨w.heap.size + 2, 0, none⟩) 1 cap) from ht3)
    have HO := Lib.hid om3
    have HB := Lib.hid bel3
    have HF := Lib.hid (show ∀ k, k < w.heap.size → k ≠ b → k ≠ b + 1 → w3.heap[k]? = w.heap[k]? from fun k h1 h2 h3 => (hgrow3.block k (by show k < w2.heap.size; omega) (by simp; omega)).trans (far2 k h1 h3))
    clear far2 size2 ht2 ht3 om2 om3 bel2 bel3 hv2 hgrow3
    go_wp2_with fail
    go_region
    all_goals
      go_wp2_with fail
      go_ret
      exact ⟨rfl, _, _, HT.out, HO.out, HB.out, HF.out⟩

end Go.Proofs.Ytcjcnhnpjcgcmaa.Tot
