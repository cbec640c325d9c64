/- The chapter's example of atoms, whole. -/
import Derived.Test.YtbffcehaednefaaAtomsFixed
import Derived.Laws.ResultCell
namespace Go.Proofs.Ytbffcehaednefaa.Atoms
set_option linter.unusedVariables false
open Go.RowKit Go.Maps

set_option maxHeartbeats 1000000 in
set_option maxRecDepth 100000 in
theorem number_known {w : World} {b n : Nat} {kl : Lit} {row : Value} {D : DataW Unit} (hk : keyOf Try.prog 44 (.agg #[.int .u8 1, .int .i64 7, .int .i64 0, .int .i64 0]) = some kl) (ht : Tab w b row) (ho : Om w b n D)
    (hD : D.atKey kl (.lit (.int .i64 0)) = .lit (.int .i64 1)) :
    Calls Try.prog 30 #[.pointer (some ⟨b + 1, 0, none⟩), .agg #[.int .u8 1, .int .i64 7, .int .i64 0, .int .i64 0]] w fun e w' => e = .returned (.int .i64 1) ∧ Tab w' b row ∧ Below b w w' := by
  have hlt : b + 1 < w.heap.size := lt_of_block ht
  have hA : ∀ o, (w.alloc o).heap[b + 1]? = some (.cells #[.int .i64 5, .map (some b), row, .int .i64 0, .bool false] 78 (0, 0)) := fun o => (Below.heap_alloc _ _ _ hlt).trans ht
  have c1 : ∀ o, (w.alloc o).cell? ⟨b + 1, 1, none⟩ = some (.map (some b)) := fun o => blk_cell (hA o) rfl
  have hB : ∀ o, Below b w (w.alloc o) := fun o => (Below.refl b w).alloc (by omega) o
  go_enter Try.func30, Try.ntmps30
  go_wp2_with fail
  obtain ⟨c, hrun, hat, hwc⟩ := ((ho.alloc (.cells #[.int .u8 1, .int .i64 7, .int .i64 0, .int .i64 0] 44)).drew).lookup_int law Try.underlying76 Try.underlying3 (zeroE _) hk
  rw [hD] at hat
  obtain rfl : c = 1 := by simpa using hat.symm
  clear hat hD hk
  go_region
  go_wp2_with fail
  go_ret
  exact ⟨rfl, hA _, (hB _).drew⟩

set_option maxHeartbeats 400000 in
theorem len_one {w : World} {b g cap : Nat} (ht : Tab w b (.slice (some ⟨g, 0, none⟩) 1 cap)) :
    Calls Try.prog 33 #[.pointer (some ⟨b + 1, 0, none⟩)] w fun e w' => e = .returned (.int .i64 1) ∧ w = w' := by
  have c2 : w.cell? ⟨b + 1, 2, none⟩ = some (.slice (some ⟨g, 0, none⟩) 1 cap) := blk_cell ht rfl
  clear ht
  go_enter Try.func33, Try.ntmps33
  go_wp2_with fail
  go_ret
  exact ⟨rfl, rfl⟩

theorem put_same {kl : Lit} (hk : keyOf Try.prog 44 (.agg #[.int .u8 1, .int .i64 7, .int .i64 0, .int .i64 0]) = some kl) (d z : DataW Unit) : ((DataW.map []).put kl d).atKey kl z = d :=
  atKey_put_same (by first | exact ⟨_, rfl⟩ | trivial | rfl) (law.key hk) d z

set_option maxHeartbeats 2000000 in
set_option maxRecDepth 100000 in
theorem fixed_any (w : World) :
    Calls Try.prog 27 #[] w fun e w' => e = .returned (.bool true) ∧ Below w.heap.size w w' := by
  obtain ⟨kl, hk⟩ := key7
  go_enter Try.func27, Try.ntmps27
  go_wp2_with fail
  refine (new5 _).mono ?_
  rintro e wa ⟨rfl, ha, oa, ba⟩
  have hs : w.heap.size + 1 < wa.heap.size := lt_of_block ha
  have ha2 : Tab (wa.alloc (.cells #[.int .u8 1, .int .i64 7, .int .i64 0, .int .i64 0] 44)) w.heap.size (.slice none 0 0) := (Below.heap_alloc _ _ _ hs).trans ha
  have oa2 : Om (wa.alloc (.cells #[.int .u8 1, .int .i64 7, .int .i64 0, .int .i64 0] 44)) w.heap.size 0 (.map []) := oa.alloc _
  have hv : (wa.alloc (.cells #[.int .u8 1, .int .i64 7, .int .i64 0, .int .i64 0] 44)).heap[wa.heap.size]? = some (.cells #[.int .u8 1, .int .i64 7, .int .i64 0, .int .i64 0] 44) := heap_alloc_new wa _
  have bw := ba.alloc (by omega : w.heap.size ≤ wa.heap.size) (.cells #[.int .u8 1, .int .i64 7, .int .i64 0, .int .i64 0] 44)
  have N1 := Lib.hid (number_first hk ha2 oa2)
  have HV := Lib.hid hv
  have BW := Lib.hid bw
  have hvs : wa.heap.size < (wa.alloc (.cells #[.int .u8 1, .int .i64 7, .int .i64 0, .int .i64 0] 44)).heap.size := by simp
  have HS := Lib.hid hs
  have HVS := Lib.hid hvs
  clear ha oa ba ha2 oa2 hv bw hs hvs
  go_wp2_with fail
  refine N1.out.mono ?_
  rintro e wb ⟨rfl, g, cap, hb, ob, bb, fb⟩
  have hv2 := (fb wa.heap.size HVS.out (by have := HS.out; omega) (by have := HS.out; omega)).trans HV.out
  have v0 : wb.cell? ⟨wa.heap.size, 0, none⟩ = some (.int .u8 1) := blk_cell hv2 rfl
  have v1 : wb.cell? ⟨wa.heap.size, 0 + 1, none⟩ = some (.int .i64 7) := blk_cell hv2 rfl
  have v2 : wb.cell? ⟨wa.heap.size, 0 + 2, none⟩ = some (.int .i64 0) := blk_cell hv2 rfl
  have v3 : wb.cell? ⟨wa.heap.size, 0 + 3, none⟩ = some (.int .i64 0) := blk_cell hv2 rfl
  have N2 := Lib.hid (number_known hk hb ob (put_same hk _ _))
  have B2 := Lib.hid (BW.out.trans bb)
  clear hb ob bb fb hv2 N1 HV BW HVS hk
  go_wp2_with fail
  refine N2.out.mono ?_
  rintro e wc ⟨rfl, hc, bc⟩
  have N3 := Lib.hid (len_one hc)
  have B3 := Lib.hid (B2.out.trans bc)
  clear hc bc B2 v0 v1 v2 v3 N2
  go_wp2_with fail
  refine N3.out.mono ?_
  rintro e w' ⟨rfl, rfl⟩
  go_wp2_with fail
  go_ret
  exact ⟨rfl, B3.out⟩

end Go.Proofs.Ytbffcehaednefaa.Atoms
