/- A nil table of atoms: it has none; and the chapter's example, whole. -/
import Derived.Test.YtapconhgcoefeaaAtomsFixed
import Derived.Laws.ResultCell
namespace Go.Proofs.Ytapconhgcoefeaa.Atoms
set_option linter.unusedVariables false
open Go.RowKit Go.Maps

set_option maxHeartbeats 1000000 in
set_option maxRecDepth 100000 in
theorem number_known {w : World} {b n : Nat} {kl : Lit} {row : Value} {D : DataW Unit} (hk : keyOf Try.prog 46 (.agg #[.int .u8 1, .int .i64 7, .int .i64 0, .int .i64 0]) = some kl) (ht : Tab w b row) (ho : Om w b n D)
    (hD : D.atKey kl (.lit (.int .i64 0)) = .lit (.int .i64 1)) :
    Calls Try.prog 26 #[.pointer (some ⟨b + 1, 0, none⟩), .agg #[.int .u8 1, .int .i64 7, .int .i64 0, .int .i64 0]] w fun e w' => e = .returned (.int .i64 1) ∧ Tab w' b row ∧ Below b w w' := by
  have hlt : b + 1 < w.heap.size := lt_of_block ht
  have hA : ∀ o, (w.alloc o).heap[b + 1]? = some (.cells #[.int .i64 5, .map (some b), row, .int .i64 0, .bool false] 89 (0, 0)) := fun o => (Below.heap_alloc _ _ _ hlt).trans ht
  have c1 : ∀ o, (w.alloc o).cell? ⟨b + 1, 1, none⟩ = some (.map (some b)) := fun o => blk_cell (hA o) rfl
  have hB : ∀ o, Below b w (w.alloc o) := fun o => (Below.refl b w).alloc (by omega) o
  go_enter Try.func26, Try.ntmps26
  go_wp2_with fail
  obtain ⟨c, hrun, hat, hwc⟩ := ((ho.alloc (.cells #[.int .u8 1, .int .i64 7, .int .i64 0, .int .i64 0] 46)).drew).lookup_int law Try.underlying87 Try.underlying3 (zeroE _) hk
  rw [hD] at hat
  obtain rfl : c = 1 := by simpa using hat.symm
  clear hat hD hk
  go_region
  go_wp2_with fail
  go_ret
  exact ⟨rfl, hA _, (hB _).drew⟩

set_option maxHeartbeats 400000 in
theorem len_one {w : World} {b g cap : Nat} (ht : Tab w b (.slice (some ⟨g, 0, none⟩) 1 cap)) :
    Calls Try.prog 29 #[.pointer (some ⟨b + 1, 0, none⟩)] w fun e w' => e = .returned (.int .i64 1) ∧ w = w' := by
  have c2 : w.cell? ⟨b + 1, 2, none⟩ = some (.slice (some ⟨g, 0, none⟩) 1 cap) := blk_cell ht rfl
  clear ht
  go_enter Try.func29, Try.ntmps29
  go_wp2_with fail
  go_ret
  exact ⟨rfl, rfl⟩

theorem put_same {kl : Lit} (hk : keyOf Try.prog 46 (.agg #[.int .u8 1, .int .i64 7, .int .i64 0, .int .i64 0]) = some kl) (d z : DataW Unit) : ((DataW.map []).put kl d).atKey kl z = d :=
  atKey_put_same (by first | exact ⟨_, rfl⟩ | trivial | rfl) (law.key hk) d z

set_option maxHeartbeats 2000000 in
set_option maxRecDepth 100000 in
theorem fixed_any (w : World) :
    Calls Try.prog 25 #[] w fun e w' => e = .returned (.bool true) ∧ Below w.heap.size w w' := by
  obtain ⟨kl, hk⟩ := key7
  go_enter Try.func25, Try.ntmps25
  go_wp2_with fail
  refine (new5 _).mono ?_
  rintro e wa ⟨rfl, ha, oa, ba⟩
  have hs : w.heap.size + 1 < wa.heap.size := lt_of_block ha
  have ha2 : Tab (wa.alloc (.cells #[.int .u8 1, .int .i64 7, .int .i64 0, .int .i64 0] 46)) w.heap.size (.slice none 0 0) := (Below.heap_alloc _ _ _ hs).trans ha
  have oa2 : Om (wa.alloc (.cells #[.int .u8 1, .int .i64 7, .int .i64 0, .int .i64 0] 46)) w.heap.size 0 (.map []) := oa.alloc _
  have hv : (wa.alloc (.cells #[.int .u8 1, .int .i64 7, .int .i64 0, .int .i64 0] 46)).heap[wa.heap.size]? = some (.cells #[.int .u8 1, .int .i64 7, .int .i64 0, .int .i64 0] 46) := heap_alloc_new wa _
  have bw := ba.alloc (by omega : w.heap.size ≤ wa.heap.size) (.cells #[.int .u8 1, .int .i64 7, .int .i64 0, .int .i64 0] 46)
  have N1 := Lib.hid (number_first hk ha2 oa2)
  have HV := Lib.hid hv
  have BW := Lib.hid bw
  have hvs : wa.heap.size < (wa.alloc (.cells #[.int .u8 1, .int .i64 7, .int .i64 0, .int .i64 0] 46)).heap.size := by simp
  have HS := Lib.hid hs
  have HVS := Lib.hid hvs
  clear ha oa ba ha2 oa2 hv bw hs hvs
  go_wp2_with fail
  refine N1.out.mono ?_
  rintro e wb ⟨rfl, g, cap, hb, ob, bb, fb⟩
  have hv2 := (fb wa.heap.size HVS.out (by have := HS.out; omega) (by have := HS.out; omega)).trans HV.out
  have v0 : wb.cell? ⟨wa.heap.size, 0, none⟩ = some (.int .u8 1) := blk_cell hv2 rfl
  have v1 : wb.cell? ⟨wa.heap.size, 0 + 1, none⟩ = some (.int .i64 7) := blk_cell hv2 rfl
  have v2 : wb.cell? ⟨wa.heap.size, 0 + 2, none⟩ = some (.int .i64 0) := blk_cell hv2 rfl
  have v3 : wb.cell? ⟨wa.heap.size, 0 + 3, none⟩ = some (.int .i64 0) := blk_cell hv2 rfl
  have N2 := Lib.hid (number_known hk hb ob (put_same hk _ _))
  have B2 := Lib.hid (BW.out.trans bb)
  clear hb ob bb fb hv2 N1 HV BW HVS hk
  go_wp2_with fail
  refine N2.out.mono ?_
  rintro e wc ⟨rfl, hc, bc⟩
  have N3 := Lib.hid (len_one hc)
  have B3 := Lib.hid (B2.out.trans bc)
  clear hc bc B2 v0 v1 v2 v3 N2
  go_wp2_with fail
  refine N3.out.mono ?_
  rintro e w' ⟨rfl, rfl⟩
  go_wp2_with fail
  go_ret
  exact ⟨rfl, B3.out⟩

set_option maxHeartbeats 400000 in
theorem number_nil (k a b c : Int) (w : World) :
    Calls Try.prog 26 #[.pointer none, .agg #[.int .u8 k, .int .i64 a, .int .i64 b, .int .i64 c]] w fun e w' => e = .returned (.int .i64 0) ∧ Below w.heap.size w w' := by
  have hB : ∀ o, Below w.heap.size w (w.alloc o) := fun o => (Below.refl _ w).alloc (Nat.le_refl _) o
  go_enter Try.func26, Try.ntmps26
  go_wp2_with fail
  go_ret
  exact ⟨rfl, hB _⟩
set_option maxHeartbeats 400000 in
theorem look_nil (k a b c : Int) (w : World) :
    Calls Try.prog 28 #[.pointer none, .agg #[.int .u8 k, .int .i64 a, .int .i64 b, .int .i64 c]] w fun e w' => e = .returned (.int .i64 0) ∧ Below w.heap.size w w' := by
  have hB : ∀ o, Below w.heap.size w (w.alloc o) := fun o => (Below.refl _ w).alloc (Nat.le_refl _) o
  go_enter Try.func28, Try.ntmps28
  go_wp2_with fail
  go_ret
  first | exact ⟨rfl, hB _⟩ | exact ⟨rfl, Below.refl _ _⟩
set_option maxHeartbeats 400000 in
theorem help_nil (w : World) : Calls Try.prog 27 #[.pointer none] w fun e w' => e = .returned (.int .i64 0) ∧ w = w' := by
  go_enter Try.func27, Try.ntmps27
  go_wp2_with fail
  go_ret
  exact ⟨rfl, rfl⟩
set_option maxHeartbeats 400000 in
theorem len_nil (w : World) : Calls Try.prog 29 #[.pointer none] w fun e w' => e = .returned (.int .i64 0) ∧ w = w' := by
  go_enter Try.func29, Try.ntmps29
  go_wp2_with fail
  go_ret
  exact ⟨rfl, rfl⟩
set_option maxHeartbeats 400000 in
theorem full_nil (w : World) : Calls Try.prog 30 #[.pointer none] w fun e w' => e = .returned (.bool true) ∧ w = w' := by
  go_enter Try.func30, Try.ntmps30
  go_wp2_with fail
  go_ret
  exact ⟨rfl, rfl⟩
set_option maxHeartbeats 400000 in
theorem at_nil (n : Int) (w : World) : Calls Try.prog 24 #[.pointer none, .int .i64 n] w fun e w' => e = .returned (.tuple #[.agg #[.int .u8 0, .int .i64 0, .int .i64 0, .int .i64 0], .bool false]) ∧ Below w.heap.size w w' := by
  by_cases h : n < 1
  · go_enter Try.func24, Try.ntmps24
    go_wp2_with fail
    (try simp only [Exit.inBlock, Exit.then])
    refine bodyPost_ret (v := .tuple #[.agg #[.int .u8 0, .int .i64 0, .int .i64 0, .int .i64 0], .bool false]) ?_ rfl ⟨rfl, ?_⟩
    · rw [results_cell_tmp rfl]; go_simp
    · (repeat' (first | exact Below.refl _ _ | refine Below.drew ?_ | refine Below.alloc ?_ (by simp <;> omega) _))
  · have h0 : 0 < n := by omega
    go_enter Try.func24, Try.ntmps24
    go_wp2_with (go_at_call 29; refine (len_nil _).mono ?_; rintro e w' ⟨rfl, rfl⟩)
    (try simp only [Exit.inBlock, Exit.then])
    refine bodyPost_ret (v := .tuple #[.agg #[.int .u8 0, .int .i64 0, .int .i64 0, .int .i64 0], .bool false]) ?_ rfl ⟨rfl, ?_⟩
    · rw [results_cell_tmp rfl]; go_simp
    · (repeat' (first | exact Below.refl _ _ | refine Below.drew ?_ | refine Below.alloc ?_ (by simp <;> omega) _))

theorem help_nil' (w : World) : Calls Try.prog 27 #[.pointer none] w fun e w' => e = .returned (.int .i64 0) ∧ Below w.heap.size w w' :=
  (help_nil w).mono fun e w' h => ⟨h.1, h.2 ▸ Below.refl _ _⟩
theorem len_nil' (w : World) : Calls Try.prog 29 #[.pointer none] w fun e w' => e = .returned (.int .i64 0) ∧ Below w.heap.size w w' :=
  (len_nil w).mono fun e w' h => ⟨h.1, h.2 ▸ Below.refl _ _⟩
theorem full_nil' (w : World) : Calls Try.prog 30 #[.pointer none] w fun e w' => e = .returned (.bool true) ∧ Below w.heap.size w w' :=
  (full_nil w).mono fun e w' h => ⟨h.1, h.2 ▸ Below.refl _ _⟩
/-- what the law holds of a world between its calls: nothing old has turned, and its atom is there. -/
def Has (w : World) (k a b c : Int) (u : World) : Prop :=
  Below w.heap.size w u ∧ w.heap.size < u.heap.size ∧ u.heap[w.heap.size]? = some (Obj.cells #[.int .u8 k, .int .i64 a, .int .i64 b, .int .i64 c] 46 (0, 0))
theorem Has.step {w u u' : World} {k a b c : Int} (h : Has w k a b c u) (g : Below u.heap.size u u') : Has w k a b c u' :=
  ⟨h.1.trans (g.mono (by have := h.2.1; omega)), by have := g.size; have := h.2.1; omega, (g.block _ h.2.1).trans h.2.2⟩
theorem Has.start (w : World) (k a b c : Int) : Has w k a b c (w.alloc (.cells #[.int .u8 k, .int .i64 a, .int .i64 b, .int .i64 c] 46)) :=
  ⟨(Below.refl _ w).alloc (Nat.le_refl _) _, by simp, heap_alloc_new w _⟩

set_option maxHeartbeats 4000000 in
set_option maxRecDepth 100000 in
theorem law_nil (k a b c n : Int) (w : World) :
    Calls Try.prog 8 #[.agg #[.int .u8 k, .int .i64 a, .int .i64 b, .int .i64 c], .int .i64 n] w fun e w' => e = .returned (.bool true) ∧ Below w.heap.size w w' := by
  have H := Lib.hid (Has.start w k a b c)
  go_enter Try.func8, Try.ntmps8
  go_wp2_with fail
  refine (at_nil _ _).mono ?_
  rintro e u0 ⟨rfl, bel⟩
  have H := Lib.hid (H.out.step bel)
  clear bel 
  have v0 : u0.cell? ⟨w.heap.size, 0, none⟩ = some (.int .u8 k) := blk_cell H.out.2.2 rfl
  have v1 : u0.cell? ⟨w.heap.size, 0 + 1, none⟩ = some (.int .i64 a) := blk_cell H.out.2.2 rfl
  have v2 : u0.cell? ⟨w.heap.size, 0 + 2, none⟩ = some (.int .i64 b) := blk_cell H.out.2.2 rfl
  have v3 : u0.cell? ⟨w.heap.size, 0 + 3, none⟩ = some (.int .i64 c) := blk_cell H.out.2.2 rfl
  go_wp2_with fail
  refine (fixed_any _).mono ?_
  rintro e u1 ⟨rfl, bel⟩
  have H := Lib.hid ((H.out.step ((Below.refl _ _).alloc (Nat.le_refl _) _)).step bel)
  clear bel v0 v1 v2 v3
  have v0 : u1.cell? ⟨w.heap.size, 0, none⟩ = some (.int .u8 k) := blk_cell H.out.2.2 rfl
  have v1 : u1.cell? ⟨w.heap.size, 0 + 1, none⟩ = some (.int .i64 a) := blk_cell H.out.2.2 rfl
  have v2 : u1.cell? ⟨w.heap.size, 0 + 2, none⟩ = some (.int .i64 b) := blk_cell H.out.2.2 rfl
  have v3 : u1.cell? ⟨w.heap.size, 0 + 3, none⟩ = some (.int .i64 c) := blk_cell H.out.2.2 rfl
  go_wp2_with fail
  refine (number_nil _ _ _ _ _).mono ?_
  rintro e u2 ⟨rfl, bel⟩
  have H := Lib.hid (H.out.step bel)
  clear bel v0 v1 v2 v3
  have v0 : u2.cell? ⟨w.heap.size, 0, none⟩ = some (.int .u8 k) := blk_cell H.out.2.2 rfl
  have v1 : u2.cell? ⟨w.heap.size, 0 + 1, none⟩ = some (.int .i64 a) := blk_cell H.out.2.2 rfl
  have v2 : u2.cell? ⟨w.heap.size, 0 + 2, none⟩ = some (.int .i64 b) := blk_cell H.out.2.2 rfl
  have v3 : u2.cell? ⟨w.heap.size, 0 + 3, none⟩ = some (.int .i64 c) := blk_cell H.out.2.2 rfl
  go_wp2_with fail
  refine (help_nil' _).mono ?_
  rintro e u3 ⟨rfl, bel⟩
  have H := Lib.hid (H.out.step bel)
  clear bel v0 v1 v2 v3
  have v0 : u3.cell? ⟨w.heap.size, 0, none⟩ = some (.int .u8 k) := blk_cell H.out.2.2 rfl
  have v1 : u3.cell? ⟨w.heap.size, 0 + 1, none⟩ = some (.int .i64 a) := blk_cell H.out.2.2 rfl
  have v2 : u3.cell? ⟨w.heap.size, 0 + 2, none⟩ = some (.int .i64 b) := blk_cell H.out.2.2 rfl
  have v3 : u3.cell? ⟨w.heap.size, 0 + 3, none⟩ = some (.int .i64 c) := blk_cell H.out.2.2 rfl
  go_wp2_with fail
  refine (look_nil _ _ _ _ _).mono ?_
  rintro e u4 ⟨rfl, bel⟩
  have H := Lib.hid (H.out.step bel)
  clear bel v0 v1 v2 v3
  have v0 : u4.cell? ⟨w.heap.size, 0, none⟩ = some (.int .u8 k) := blk_cell H.out.2.2 rfl
  have v1 : u4.cell? ⟨w.heap.size, 0 + 1, none⟩ = some (.int .i64 a) := blk_cell H.out.2.2 rfl
  have v2 : u4.cell? ⟨w.heap.size, 0 + 2, none⟩ = some (.int .i64 b) := blk_cell H.out.2.2 rfl
  have v3 : u4.cell? ⟨w.heap.size, 0 + 3, none⟩ = some (.int .i64 c) := blk_cell H.out.2.2 rfl
  go_wp2_with fail
  refine (len_nil' _).mono ?_
  rintro e u5 ⟨rfl, bel⟩
  have H := Lib.hid (H.out.step bel)
  clear bel v0 v1 v2 v3
  have v0 : u5.cell? ⟨w.heap.size, 0, none⟩ = some (.int .u8 k) := blk_cell H.out.2.2 rfl
  have v1 : u5.cell? ⟨w.heap.size, 0 + 1, none⟩ = some (.int .i64 a) := blk_cell H.out.2.2 rfl
  have v2 : u5.cell? ⟨w.heap.size, 0 + 2, none⟩ = some (.int .i64 b) := blk_cell H.out.2.2 rfl
  have v3 : u5.cell? ⟨w.heap.size, 0 + 3, none⟩ = some (.int .i64 c) := blk_cell H.out.2.2 rfl
  go_wp2_with fail
  refine (full_nil' _).mono ?_
  rintro e u6 ⟨rfl, bel⟩
  have H := Lib.hid (H.out.step bel)
  clear bel v0 v1 v2 v3
  have v0 : u6.cell? ⟨w.heap.size, 0, none⟩ = some (.int .u8 k) := blk_cell H.out.2.2 rfl
  have v1 : u6.cell? ⟨w.heap.size, 0 + 1, none⟩ = some (.int .i64 a) := blk_cell H.out.2.2 rfl
  have v2 : u6.cell? ⟨w.heap.size, 0 + 2, none⟩ = some (.int .i64 b) := blk_cell H.out.2.2 rfl
  have v3 : u6.cell? ⟨w.heap.size, 0 + 3, none⟩ = some (.int .i64 c) := blk_cell H.out.2.2 rfl
  go_wp2_with fail
  go_ret
  exact ⟨rfl, H.out.1⟩

end Go.Proofs.Ytapconhgcoefeaa.Atoms
