/- A table of atoms: the first help atom gets the number 1. -/
import Derived.Test.YtcjcnhnpjcgcmaaTotA
import Derived.Laws.Rows
import Derived.Laws.ResultCell
import Derived.Sort.Grow
import Derived.Shelf.SlSortCmp.QuietGrown
namespace Go.Proofs.Ytcjcnhnpjcgcmaa.Tot
set_option linter.unusedVariables false
set_option linter.unusedSimpArgs false
open Go.RowKit Go.Maps

abbrev hat : Value := .agg #[.int .u8 9, .int .i64 0, .int .i64 0, .int .i64 0]
set_option maxHeartbeats 1000000 in
set_option maxRecDepth 100000 in
theorem help_any (W : World) : Calls Try.prog 48 #[.int .i64 0] W fun e w' => e = .returned hat ∧ ∃ q os', w' = Sort.grow (W.drewN q) os' := by
  go_enter Try.func48, Try.ntmps48
  go_wp2_with fail
  refine bodyPost_ret (results_cell_row rfl _ _ W.heap.size 70 _ (0, 0) _ rfl (heap_alloc_new W _) Try.underlying70 rfl (by kernel_rfl)) rfl ⟨rfl, 0, #[.cells #[.int .u8 9, .int .i64 0, .int .i64 0, .int .i64 0] 70], ?_⟩
  exact Sort.alloc_eq_grow _ _

theorem tab_grow {w : World} {b n : Nat} {os : Array Obj} {row : Value} (h : Tab w b row) : Tab (Sort.grow (w.drewN n) os) b row := by
  show (w.heap ++ os)[b + 1]? = _
  rw [Array.getElem?_append_left (lt_of_block h)]
  exact h
theorem grow_by (w : World) (n : Nat) (os : Array Obj) : w.grownBy (Sort.grow (w.drewN n) os) none := by
  refine ⟨rfl, rfl, rfl, ?_, fun k hk _ => ?_⟩
  · show w.heap.size ≤ (w.heap ++ os).size
    simp
  · show (w.heap ++ os)[k]? = _
    rw [Array.getElem?_append_left hk]
set_option maxHeartbeats 2000000 in
set_option maxRecDepth 100000 in
theorem help_first {w : World} {b : Nat} (ht : Tab w b (.slice none 0 0)) (ho : Om w b 0 (.map [])) :
    Calls Try.prog 38 #[.pointer (some ⟨b + 1, 0, none⟩)] w fun e w' => e = .returned (.int .i64 1) ∧ (∃ g cap, Tab w' b (.slice (some ⟨g, 0, none⟩) 1 cap)) ∧ Below b w w' ∧ ∀ k, k < w.heap.size → k ≠ b → k ≠ b + 1 → w'.heap[k]? = w.heap[k]? := by
  obtain ⟨kl, hk⟩ := key7
  have mixed : Try.prog.follows .mixedOrders = true := by kernel_rfl
  have hb : b + 1 < w.heap.size := lt_of_block ht
  have OMG : Hid (∀ n os, Om (Sort.grow (w.drewN n) os) b 0 (.map [])) := Lib.hid (fun n os => ho.kept (grow_by w n os) (by simp))
  have LK : ∀ n os, (Instr.lookup 55 (.map (some b)) hat false).run Try.prog (Sort.grow (w.drewN n) os) = .ok (.int .i64 0) (Sort.grow (w.drewN n) os) := fun n os => by
    obtain ⟨c, hrun, hat, hwc⟩ := (OMG.out n os).lookup_int law Try.underlying55 Try.underlying3 (zeroE _) hk
    obtain rfl : c = 0 := by simpa [DataW.atKey] using hat.symm
    exact hrun
  have c1 : w.cell? ⟨b + 1, 1, none⟩ = some (.map (some b)) := blk_cell ht rfl
  have c3 : w.cell? ⟨b + 1, 3, none⟩ = some (.int .i64 0) := blk_cell ht rfl
  have d1 := fun n os => cell_grown (w := w) (a := ⟨b + 1, 1, none⟩) hb c1 n os
  have d3 := fun n os => cell_grown (w := w) (a := ⟨b + 1, 3, none⟩) hb c3 n os
  have HT := Lib.hid ht
  have HB := Lib.hid hb
  have HK := Lib.hid hk
  clear ht ho hb hk c1 c3
  go_enter Try.func38, Try.ntmps38
  go_wp2_with fail
  go_loopw [15] (fun _ wr => wr = w) (fun _ _ => 0)
  case atStart => exact rfl
  case round =>
    obtain rfl := hrel
    go_wp2_with fail
    go_quiet_grown (first | (go_at_call 48; refine Calls.grown_of (help_any _)))
    go_wp2_with fail
    refine (help_any _).mono ?_
    rintro e W ⟨rfl, q, os', hW⟩
    have hW2 : W = Sort.grow (wr.drewN (nq + q)) (osq ++ os') := by
      rw [hW]
      show Sort.grow (Sort.grow ((wr.drewN nq).drewN q) osq) os' = _
      rw [Sort.grow_grow, World.drewN_drewN]
    have NF := Lib.hid (number_first (w := W) HK.out (by rw [hW2]; exact tab_grow HT.out) (by rw [hW2]; exact OMG.out _ _))
    have GW : Hid (wr.grownBy W none) := Lib.hid (by rw [hW2]; exact grow_by wr _ _)
    clear hW hW2 LK d1 d3
    go_wp2_with fail
    refine NF.out.mono ?_
    rintro e w2 ⟨rfl, g, cap, h1, _, h2, h3⟩
    have R : Hid ((∃ g cap, Tab w2 b (.slice (some ⟨g, 0, none⟩) 1 cap)) ∧ Below b wr w2 ∧ ∀ k, k < wr.heap.size → k ≠ b → k ≠ b + 1 → w2.heap[k]? = wr.heap[k]?) := Lib.hid
      ⟨⟨g, cap, h1⟩, ((Below.refl b wr).grown GW.out (by have := HB.out; omega) (by intro k e; cases e)).trans h2, fun k k1 k2 k3 => (h3 k (by have := GW.out.size; omega) k2 k3).trans (GW.out.block k k1 (by simp))⟩
    clear h1 h2 h3 NF
    go_wp2_with fail
    go_ret
    exact ⟨rfl, R.out⟩

/-! ### the count of one -/
set_option maxHeartbeats 1000000 in
theorem count_one {W : World} (c : Value) (A : Option Addr) (cp : Nat) (g0 : Nat) (hA : A = some ⟨g0, 0, none⟩) (x : Int) (hx : W.cell? ⟨g0, 0, none⟩ = some (.int .i64 x)) :
    Calls Try.prog 41 #[c, .slice A 1 cp] W fun e w' => e = .returned (.tuple #[.slice (some ⟨W.heap.size, 0, none⟩) 1 1, .bool true]) ∧ w' = W.alloc (.cells #[.int .i64 x] 3) := by
  subst hA
  go_enter Try.func41, Try.ntmps41
  go_wp2_with fail
  go_ret2
  exact ⟨rfl, rfl⟩

end Go.Proofs.Ytcjcnhnpjcgcmaa.Tot
