/- Recipes: what is wrong with what a package may not be with. -/
import Derived.Test.YtccmgaibikiedaaDcW
namespace Go.Proofs.Ytccmgaibikiedaa.Dc
open Go.RowKit
set_option linter.unusedVariables false
set_option linter.unusedSimpArgs false
def withF (x : Rc) (s : Sp) : Nat := if (s.name.toList == noB.toList) = true then 0 else if findF x.packs s.name < 0 then 7 else wishF x s
set_option maxHeartbeats 8000000 in
set_option maxRecDepth 100000 in
theorem withCode_any {w : World} {B : Nat} {x : Rc} {s : Sp} {cs ss : List Value} (h : rcD w B cs x) (h2 : spD w B ss s) (hB : B ≤ w.heap.size) (hl : x.packs.length ≤ 1000) : Calls Try.prog 61 #[.agg cs.toArray, .agg ss.toArray] w fun e w' => e = .returned (.int .u8 (withF x s)) ∧ Below w.heap.size w w' := by
  obtain ⟨A1, n1, c1, A2, n2, c2, hcs, s1, s2⟩ := rc_cells h
  obtain ⟨D1, m1, e1, D2, m2, e2, hss, -, u1, u2⟩ := sp_cells h2
  obtain ⟨sn, hsn⟩ : ∃ y, y = s.name := ⟨_, rfl⟩
  rw [← hsn] at hss
  have bb : Below B w ((w.alloc (.cells #[.slice A1 n1 c1, .slice A2 n2 c2] 25)).alloc (.cells #[.string sn, .slice D1 m1 e1, .slice D2 m2 e2] 70)) := ((Below.refl B w).alloc hB _).alloc (Nat.le_trans hB (by simp)) _
  have B0 : Hid (Below w.heap.size w ((w.alloc (.cells #[.slice A1 n1 c1, .slice A2 n2 c2] 25)).alloc (.cells #[.string sn, .slice D1 m1 e1, .slice D2 m2 e2] 70))) := Lib.hid (two_below _ _ _)
  have m0 : ((w.alloc (.cells #[.slice A1 n1 c1, .slice A2 n2 c2] 25)).alloc (.cells #[.string sn, .slice D1 m1 e1, .slice D2 m2 e2] 70)).heap[w.heap.size]? = some (.cells #[.slice A1 n1 c1, .slice A2 n2 c2] 25) := (Below.heap_alloc _ _ _ (by simp)).trans (heap_alloc_new w _)
  have mm1 : ((w.alloc (.cells #[.slice A1 n1 c1, .slice A2 n2 c2] 25)).alloc (.cells #[.string sn, .slice D1 m1 e1, .slice D2 m2 e2] 70)).heap[w.heap.size + 1]? = some (.cells #[.string sn, .slice D1 m1 e1, .slice D2 m2 e2] 70) := two_new _ _ _
  have k0 : ((w.alloc (.cells #[.slice A1 n1 c1, .slice A2 n2 c2] 25)).alloc (.cells #[.string sn, .slice D1 m1 e1, .slice D2 m2 e2] 70)).cell? ⟨w.heap.size, 0, none⟩ = some (.slice A1 n1 c1) := blk_cell m0 rfl
  have k1 : ((w.alloc (.cells #[.slice A1 n1 c1, .slice A2 n2 c2] 25)).alloc (.cells #[.string sn, .slice D1 m1 e1, .slice D2 m2 e2] 70)).cell? ⟨w.heap.size, 1, none⟩ = some (.slice A2 n2 c2) := blk_cell m0 rfl
  have l0 : ((w.alloc (.cells #[.slice A1 n1 c1, .slice A2 n2 c2] 25)).alloc (.cells #[.string sn, .slice D1 m1 e1, .slice D2 m2 e2] 70)).cell? ⟨w.heap.size + 1, 0, none⟩ = some (.string sn) := blk_cell mm1 rfl
  have l1 : ((w.alloc (.cells #[.slice A1 n1 c1, .slice A2 n2 c2] 25)).alloc (.cells #[.string sn, .slice D1 m1 e1, .slice D2 m2 e2] 70)).cell? ⟨w.heap.size + 1, 1, none⟩ = some (.slice D1 m1 e1) := blk_cell mm1 rfl
  have l2 : ((w.alloc (.cells #[.slice A1 n1 c1, .slice A2 n2 c2] 25)).alloc (.cells #[.string sn, .slice D1 m1 e1, .slice D2 m2 e2] 70)).cell? ⟨w.heap.size + 1, 2, none⟩ = some (.slice D2 m2 e2) := blk_cell mm1 rfl
  have LT : Hid (w.heap.size < ((w.alloc (.cells #[.slice A1 n1 c1, .slice A2 n2 c2] 25)).alloc (.cells #[.string sn, .slice D1 m1 e1, .slice D2 m2 e2] 70)).heap.size ∧ w.heap.size + 1 < ((w.alloc (.cells #[.slice A1 n1 c1, .slice A2 n2 c2] 25)).alloc (.cells #[.string sn, .slice D1 m1 e1, .slice D2 m2 e2] 70)).heap.size) := Lib.hid ⟨by simp; omega, by simp⟩
  have KC : Hid (∀ w2, Below ((w.alloc (.cells #[.slice A1 n1 c1, .slice A2 n2 c2] 25)).alloc (.cells #[.string sn, .slice D1 m1 e1, .slice D2 m2 e2] 70)).heap.size ((w.alloc (.cells #[.slice A1 n1 c1, .slice A2 n2 c2] 25)).alloc (.cells #[.string sn, .slice D1 m1 e1, .slice D2 m2 e2] 70)) w2 → w2.cell? ⟨w.heap.size, 0, none⟩ = some (.slice A1 n1 c1) ∧ w2.cell? ⟨w.heap.size, 1, none⟩ = some (.slice A2 n2 c2) ∧ w2.cell? ⟨w.heap.size + 1, 0, none⟩ = some (.string sn) ∧ w2.cell? ⟨w.heap.size + 1, 1, none⟩ = some (.slice D1 m1 e1) ∧ w2.cell? ⟨w.heap.size + 1, 2, none⟩ = some (.slice D2 m2 e2)) := Lib.hid (fun w2 hb =>
    ⟨(hb.cell (p := ⟨w.heap.size, 0, none⟩) LT.out.1).trans k0, (hb.cell (p := ⟨w.heap.size, 1, none⟩) LT.out.1).trans k1, (hb.cell (p := ⟨w.heap.size + 1, 0, none⟩) LT.out.2).trans l0, (hb.cell (p := ⟨w.heap.size + 1, 1, none⟩) LT.out.2).trans l1, (hb.cell (p := ⟨w.heap.size + 1, 2, none⟩) LT.out.2).trans l2⟩)
  have HB : Hid (B ≤ ((w.alloc (.cells #[.slice A1 n1 c1, .slice A2 n2 c2] 25)).alloc (.cells #[.string sn, .slice D1 m1 e1, .slice D2 m2 e2] 70)).heap.size) := Lib.hid (Nat.le_trans hB B0.out.size)
  have DD : Hid (∀ w2, Below ((w.alloc (.cells #[.slice A1 n1 c1, .slice A2 n2 c2] 25)).alloc (.cells #[.string sn, .slice D1 m1 e1, .slice D2 m2 e2] 70)).heap.size ((w.alloc (.cells #[.slice A1 n1 c1, .slice A2 n2 c2] 25)).alloc (.cells #[.string sn, .slice D1 m1 e1, .slice D2 m2 e2] 70)) w2 → rcD w2 B [.slice A1 n1 c1, .slice A2 n2 c2] x ∧ spD w2 B [.string sn, .slice D1 m1 e1, .slice D2 m2 e2] s ∧ B ≤ w2.heap.size) := Lib.hid (fun w2 hb => by
    have h3 := rc_stays _ _ _ _ _ _ h (Nat.le_refl B) (bb.trans (hb.mono HB.out))
    have h4 := sp_stays _ _ _ _ _ _ h2 (Nat.le_refl B) (bb.trans (hb.mono HB.out))
    rw [hcs] at h3
    rw [hss] at h4
    exact ⟨h3, h4, Nat.le_trans HB.out hb.size⟩)
  obtain ⟨z, hz⟩ : ∃ z, z = findF x.packs s.name := ⟨_, rfl⟩
  have HZ := Lib.hid hz
  have C1 : Hid (∀ w2, Below ((w.alloc (.cells #[.slice A1 n1 c1, .slice A2 n2 c2] 25)).alloc (.cells #[.string sn, .slice D1 m1 e1, .slice D2 m2 e2] 70)).heap.size ((w.alloc (.cells #[.slice A1 n1 c1, .slice A2 n2 c2] 25)).alloc (.cells #[.string sn, .slice D1 m1 e1, .slice D2 m2 e2] 70)) w2 → Calls Try.prog 14 #[.agg #[.slice A1 n1 c1, .slice A2 n2 c2], .string sn] w2 fun e w' => e = .returned (.int .i64 z) ∧ Below w2.heap.size w2 w') := Lib.hid (fun w2 hb => by
    rw [hz, ← hsn]; exact find_any (DD.out w2 hb).1 (DD.out w2 hb).2.2 sn)
  have R := Lib.hid (Below.refl ((w.alloc (.cells #[.slice A1 n1 c1, .slice A2 n2 c2] 25)).alloc (.cells #[.string sn, .slice D1 m1 e1, .slice D2 m2 e2] 70)).heap.size ((w.alloc (.cells #[.slice A1 n1 c1, .slice A2 n2 c2] 25)).alloc (.cells #[.string sn, .slice D1 m1 e1, .slice D2 m2 e2] 70)))
  have C3 : Hid (∀ w2, Below ((w.alloc (.cells #[.slice A1 n1 c1, .slice A2 n2 c2] 25)).alloc (.cells #[.string sn, .slice D1 m1 e1, .slice D2 m2 e2] 70)).heap.size ((w.alloc (.cells #[.slice A1 n1 c1, .slice A2 n2 c2] 25)).alloc (.cells #[.string sn, .slice D1 m1 e1, .slice D2 m2 e2] 70)) w2 → Calls Try.prog 45 #[.agg #[.slice A1 n1 c1, .slice A2 n2 c2], .agg #[.string sn, .slice D1 m1 e1, .slice D2 m2 e2]] w2 fun e w' => e = .returned (.int .u8 (wishF x s)) ∧ Below w2.heap.size w2 w') := Lib.hid (fun w2 hb => wishCode_any (DD.out w2 hb).1 (DD.out w2 hb).2.1 (DD.out w2 hb).2.2 hl)
  have NB := Lib.hid noB_nil
  have W0 : Hid (withF x s = if (sn.toList == noB.toList) = true then 0 else if z < 0 then 7 else wishF x s) := Lib.hid (by unfold withF; rw [hsn, hz])
  rw [hcs, hss]
  clear h h2 s1 s2 u1 u2 hz hsn bb m0 mm1 hl hcs hss hB
  show Calls Try.prog _ #[.agg #[.slice A1 n1 c1, .slice A2 n2 c2], .agg #[.string sn, .slice D1 m1 e1, .slice D2 m2 e2]] w _
  cases q1 : (sn.toList == noB.toList)
  case true =>
    have R0 : Hid (withF x s = 0) := Lib.hid (by rw [W0.out, q1]; rfl)
    rw [NB.out] at q1
    go_enter Try.func61, Try.ntmps61
    go_wp2_with fail
    go_ret
    rw [R0.out]
    exact ⟨rfl, B0.out⟩
  by_cases hneg : z < 0
  · have R0 : Hid (withF x s = 7) := Lib.hid (by rw [W0.out, q1, if_neg (by decide), if_pos hneg])
    rw [NB.out] at q1
    go_enter Try.func61, Try.ntmps61
    go_wp2_with (go_at_call 14; (with_reducible refine (C1.out _ R.out).mono ?_); rintro e v1 ⟨rfl, hb⟩; have R := Lib.hid (bstep R.out hb R.out.size); clear hb; obtain ⟨k0, k1, l0, l1, l2⟩ := KC.out _ R.out)
    go_ret
    rw [R0.out]
    exact ⟨rfl, B0.out.trans (R.out.mono (Nat.le_of_lt LT.out.1))⟩
  · have R0 : Hid (withF x s = wishF x s) := Lib.hid (by rw [W0.out, q1, if_neg (by decide), if_neg hneg])
    rw [NB.out] at q1
    go_enter Try.func61, Try.ntmps61
    go_wp2_with (first | (go_at_call 14; (with_reducible refine (C1.out _ R.out).mono ?_); rintro e v1 ⟨rfl, hb⟩; have R := Lib.hid (bstep R.out hb R.out.size); clear hb; obtain ⟨k0, k1, l0, l1, l2⟩ := KC.out _ R.out) | (go_at_call 45; (with_reducible refine (C3.out _ R.out).mono ?_); rintro e v1 ⟨rfl, hb⟩; have R := Lib.hid (bstep R.out hb R.out.size); clear hb; obtain ⟨k0, k1, l0, l1, l2⟩ := KC.out _ R.out))
    go_ret
    rw [R0.out]
    exact ⟨rfl, B0.out.trans (R.out.mono (Nat.le_of_lt LT.out.1))⟩

end Go.Proofs.Ytccmgaibikiedaa.Dc
