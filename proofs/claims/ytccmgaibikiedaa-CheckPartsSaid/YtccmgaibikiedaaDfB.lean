/- Requests: the first problem. -/
import Derived.Test.YtccmgaibikiedaaDfA
namespace Go.Proofs.Ytccmgaibikiedaa.Dc
open Go.RowKit
set_option linter.unusedVariables false
set_option linter.unusedSimpArgs false
def rootF (x : Rc) (q : List Rt) (i : Nat) : Nat × Int := ((q[i]?).map fun r => (wishF x r.spec, r.line)).getD (0, 0)
def reqF (x : Rc) (q : List Rt) : Nat × Int := if q.length = 0 then (11, 0) else if 8 < q.length then (1, ((q[8]?).map (·.line)).getD 0) else firstN (rootF x q) q.length
set_option maxHeartbeats 8000000 in
set_option maxRecDepth 100000 in
theorem request_any {w : World} {B : Nat} {x : Rc} {q : List Rt} {cs qs : List Value} (h : rcD w B cs x) (h2 : rqD w B qs q) (hB : B ≤ w.heap.size) (hl : x.packs.length ≤ 1000) :
    Calls Try.prog 19 #[.agg cs.toArray, .agg qs.toArray] w fun e w' => e = .returned (probV (reqF x q).1 (reqF x q).2) ∧ Below w.heap.size w w' := by
  obtain ⟨A1, n1, c1, A2, n2, c2, hcs, -, -⟩ := rc_cells h
  obtain ⟨Aq, nq, cq, rfl, sq⟩ := rq_cells h2
  have n5 := sq.le
  have HN := Lib.hid sq.len
  have R := Lib.hid (show Bxs w [(#[.slice A1 n1 c1, .slice A2 n2 c2], 25), (#[.slice Aq nq cq], 37), (#[.int .u8 0, .int .i64 0], 29)] _ from (((Bxs.nil w).push (by simp) #[.slice A1 n1 c1, .slice A2 n2 c2] 25).push (by simp) #[.slice Aq nq cq] 37).push (by simp) #[.int .u8 0, .int .i64 0] 29)
  have KC : Hid (∀ W, Bxs w [(#[.slice A1 n1 c1, .slice A2 n2 c2], 25), (#[.slice Aq nq cq], 37), (#[.int .u8 0, .int .i64 0], 29)] W → W.cell? ⟨w.heap.size, 0, none⟩ = some (.slice A1 n1 c1) ∧ W.cell? ⟨w.heap.size, 1, none⟩ = some (.slice A2 n2 c2) ∧ W.cell? ⟨w.heap.size + 1, 0, none⟩ = some (.slice Aq nq cq) ∧ W.cell? ⟨w.heap.size + 1 + 1, 0, none⟩ = some (.int .u8 0) ∧ W.cell? ⟨w.heap.size + 1 + 1, 1, none⟩ = some (.int .i64 0) ∧ W.frozen? ⟨w.heap.size + 1 + 1, 0, none⟩ = false ∧ W.frozen? ⟨w.heap.size + 1 + 1, 1, none⟩ = false) := Lib.hid (fun W hR => ⟨blk_cell (j := 0) (hR.box 0 _ rfl) rfl, blk_cell (j := 1) (hR.box 0 _ rfl) rfl, blk_cell (j := 0) (hR.box 1 _ rfl) rfl, blk_cell (j := 0) (hR.box 2 _ rfl) rfl, blk_cell (j := 1) (hR.box 2 _ rfl) rfl, blk_free 0 (hR.box 2 _ rfl), blk_free 1 (hR.box 2 _ rfl)⟩)
  have DR : Hid (∀ W, Bxs w [(#[.slice A1 n1 c1, .slice A2 n2 c2], 25), (#[.slice Aq nq cq], 37), (#[.int .u8 0, .int .i64 0], 29)] W → rcD W B [.slice A1 n1 c1, .slice A2 n2 c2] x ∧ Sl Rt 4 rtD W B Aq nq cq q ∧ B ≤ W.heap.size) := Lib.hid (fun W hR => by
    have h3 := rc_stays _ _ _ _ _ _ h (Nat.le_refl B) (hR.below.mono hB)
    rw [hcs] at h3
    exact ⟨h3, sq.below rt_stays (Nat.le_refl B) (hR.below.mono hB), Nat.le_trans hB hR.below.size⟩)
  have HL := Lib.hid hl
  rw [hcs]
  clear h h2 sq hcs hl hB
  obtain ⟨k0, k1, k2, k3, k4, k5, k6⟩ := KC.out _ R.out
  show Calls Try.prog _ #[.agg #[.slice A1 n1 c1, .slice A2 n2 c2], .agg #[.slice Aq nq cq]] w _
  by_cases h0 : nq = 0
  · subst h0
    have Z0 : Hid (reqF x q = (11, 0)) := Lib.hid (by unfold reqF; rw [← HN.out, if_pos rfl])
    go_enter Try.func19, Try.ntmps19
    go_wp2_with fail
    rw [Z0.out]
    exact bodyPost_ret (results_cell_row rfl _ _ (w.heap.size + 1 + 1) 29 _ (0, 0) _ rfl (show _ = some (Obj.cells #[.int .u8 11, .int .i64 0] 29 (0, 0)) from (show Bxs w [(#[.slice A1 n1 c1, .slice A2 n2 c2], 25), (#[.slice Aq 0 cq], 37), (#[.int .u8 11, .int .i64 0], 29)] _ from (((Bxs.nil w).push (by simp) #[.slice A1 n1 c1, .slice A2 n2 c2] 25).push (by simp) #[.slice Aq 0 cq] 37).push (by simp) #[.int .u8 11, .int .i64 0] 29).box 2 _ rfl) Try.underlying29 rfl (by kernel_rfl)) rfl ⟨rfl, (show Bxs w [(#[.slice A1 n1 c1, .slice A2 n2 c2], 25), (#[.slice Aq 0 cq], 37), (#[.int .u8 11, .int .i64 0], 29)] _ from (((Bxs.nil w).push (by simp) #[.slice A1 n1 c1, .slice A2 n2 c2] 25).push (by simp) #[.slice Aq 0 cq] 37).push (by simp) #[.int .u8 11, .int .i64 0] 29).below⟩
  have hz0 := nz_eq h0
  by_cases h8 : 8 < nq
  · have hz8 : (8 : Int) < (nq : Int) := by omega
    obtain ⟨r, b, o, D1, m1, e1, D2, m2, e2, t1, hA, t3, x0, x1, x2, x3, d1⟩ := rt_at (DR.out _ R.out).2.1 h8
    obtain ⟨ln, hln⟩ : ∃ y, y = r.line := ⟨_, rfl⟩
    rw [← hln] at x3
    simp only [Nat.reduceMul, Nat.add_assoc, Nat.reduceAdd] at x3
    have Z0 : Hid (reqF x q = (1, ln)) := Lib.hid (by unfold reqF; rw [← HN.out, if_neg h0, if_pos h8, t1, hln]; rfl)
    subst hA
    clear t1 t3 x0 x1 x2 d1 hln h0 h8
    go_enter Try.func19, Try.ntmps19
    go_wp2_with fail
    rw [Z0.out]
    exact bodyPost_ret (results_cell_row rfl _ _ (w.heap.size + 1 + 1) 29 _ (0, 0) _ rfl (show _ = some (Obj.cells #[.int .u8 1, .int .i64 ln] 29 (0, 0)) from (show Bxs w [(#[.slice A1 n1 c1, .slice A2 n2 c2], 25), (#[.slice (some ⟨b, o, none⟩) nq cq], 37), (#[.int .u8 1, .int .i64 ln], 29)] _ from (((Bxs.nil w).push (by simp) #[.slice A1 n1 c1, .slice A2 n2 c2] 25).push (by simp) #[.slice (some ⟨b, o, none⟩) nq cq] 37).push (by simp) #[.int .u8 1, .int .i64 ln] 29).box 2 _ rfl) Try.underlying29 rfl (by kernel_rfl)) rfl ⟨rfl, (show Bxs w [(#[.slice A1 n1 c1, .slice A2 n2 c2], 25), (#[.slice (some ⟨b, o, none⟩) nq cq], 37), (#[.int .u8 1, .int .i64 ln], 29)] _ from (((Bxs.nil w).push (by simp) #[.slice A1 n1 c1, .slice A2 n2 c2] 25).push (by simp) #[.slice (some ⟨b, o, none⟩) nq cq] 37).push (by simp) #[.int .u8 1, .int .i64 ln] 29).below⟩
  have hz8 : (nq : Int) ≤ 8 := by omega
  have W0 : Hid (reqF x q = firstN (rootF x q) nq) := Lib.hid (by unfold reqF; rw [← HN.out, if_neg h0, if_neg h8])
  clear h0 h8
  go_enter Try.func19, Try.ntmps19
  go_wp2_with fail
  clear k0 k1 k2 k3 k4 k5 k6
  go_loopw [6, 7, 26] (fun _ _ v wq => ∃ i : Nat, v = .int .i64 i ∧ i ≤ nq ∧ Bxs w [(#[.slice A1 n1 c1, .slice A2 n2 c2], 25), (#[.slice Aq nq cq], 37), (#[.int .u8 0, .int .i64 0], 29)] wq ∧ ∀ j, j < i → (rootF x q j).1 = 0) (fun _ _ v _ => nq - (intOf v).toNat)
  case atStart => exact ⟨0, rfl, Nat.zero_le _, R.out, fun j hj => absurd hj (Nat.not_lt_zero _)⟩
  case round =>
    obtain ⟨i, rfl, hi, hr, hall⟩ := hrel
    have R := Lib.hid hr
    have HALL := Lib.hid hall
    clear hr hall
    by_cases hlt : i < nq
    · have hlt' : (i : Int) < (nq : Int) := by omega
      obtain ⟨r, b, o, D1, m1, e1, D2, m2, e2, t1, hA, t3, x0, x1, x2, x3, d1⟩ := rt_at (DR.out _ R.out).2.1 hlt
      obtain ⟨sn, hsn⟩ : ∃ y, y = r.spec.name := ⟨_, rfl⟩
      obtain ⟨ln, hln⟩ : ∃ y, y = r.line := ⟨_, rfl⟩
      obtain ⟨z, hz⟩ : ∃ z : Nat, z = wishF x r.spec := ⟨_, rfl⟩
      rw [← hsn] at x0 d1
      rw [← hln] at x3
      have FV : Hid (rootF x q i = (z, ln)) := Lib.hid (by unfold rootF; rw [t1, hz, hln]; rfl)
      have HBr := Lib.hid (DR.out _ R.out).2.2
      have SS := Lib.hid (show Bxs wr [(#[.string sn, .slice D1 m1 e1, .slice D2 m2 e2, .int .i64 ln], 72)] (wr.alloc (.cells #[.string sn, .slice D1 m1 e1, .slice D2 m2 e2, .int .i64 ln] 72)) from (Bxs.nil wr).push (by simp) #[.string sn, .slice D1 m1 e1, .slice D2 m2 e2, .int .i64 ln] 72)
      have KS : Hid (∀ W, Bxs wr [(#[.string sn, .slice D1 m1 e1, .slice D2 m2 e2, .int .i64 ln], 72)] W → W.cell? ⟨wr.heap.size, 0, none⟩ = some (.string sn) ∧ W.cell? ⟨wr.heap.size, 1, none⟩ = some (.slice D1 m1 e1) ∧ W.cell? ⟨wr.heap.size, 2, none⟩ = some (.slice D2 m2 e2) ∧ W.cell? ⟨wr.heap.size, 3, none⟩ = some (.int .i64 ln)) := Lib.hid (fun W hR => ⟨blk_cell (j := 0) (hR.box 0 _ rfl) rfl, blk_cell (j := 1) (hR.box 0 _ rfl) rfl, blk_cell (j := 2) (hR.box 0 _ rfl) rfl, blk_cell (j := 3) (hR.box 0 _ rfl) rfl⟩)
      have CA : Hid (∀ W, Bxs w [(#[.slice A1 n1 c1, .slice A2 n2 c2], 25), (#[.slice Aq nq cq], 37), (#[.int .u8 0, .int .i64 0], 29)] W → Bxs wr [(#[.string sn, .slice D1 m1 e1, .slice D2 m2 e2, .int .i64 ln], 72)] W → Calls Try.prog 45 #[.agg #[.slice A1 n1 c1, .slice A2 n2 c2], .agg #[.string sn, .slice D1 m1 e1, .slice D2 m2 e2]] W fun e w' => e = .returned (.int .u8 z) ∧ Below W.heap.size W w') := Lib.hid (fun W hR hS => by
        rw [hz]; exact wishCode_any (DR.out W hR).1 (sp_stays _ _ _ _ _ _ d1 (Nat.le_refl B) (hS.below.mono HBr.out)) (DR.out W hR).2.2 HL.out)
      have R := Lib.hid (R.out.alloc (.cells #[.string sn, .slice D1 m1 e1, .slice D2 m2 e2, .int .i64 ln] 72))
      subst hA
      clear t1 t3 d1 hsn hln hz
      obtain ⟨k0, k1, k2, k3, k4, k5, k6⟩ := KC.out _ R.out
      obtain ⟨s0, s1, s2, s3⟩ := KS.out _ SS.out
      by_cases hz : z = 0
      · subst hz
        have NX : Hid (∀ j, j < i + 1 → (rootF x q j).1 = 0) := Lib.hid (step_all HALL.out (by rw [FV.out]))
        go_wp2_with (go_at_call 45; (with_reducible refine (CA.out _ R.out SS.out).mono ?_); rintro e v1 ⟨rfl, hb⟩; have R := Lib.hid (R.out.step hb); have SS := Lib.hid (SS.out.step hb); clear hb; obtain ⟨k0, k1, k2, k3, k4, k5, k6⟩ := KC.out _ R.out; obtain ⟨s0, s1, s2, s3⟩ := KS.out _ SS.out)
        go_roundw
        case rel => exact ⟨i + 1, by go_num, by omega, R.out, NX.out⟩
        case measure => simp [intOf]; omega
      · have q1 := nz_eq hz
        have q2 := nz_ne hz
        have Z0 : Hid (reqF x q = (z, ln)) := Lib.hid (by
          have e := firstN_hit hlt HALL.out (by rw [FV.out]; exact hz)
          rw [FV.out] at e
          rw [W0.out, e])
        have HH := Lib.hid hz
        clear hz
        go_wp2_with (go_at_call 45; (with_reducible refine (CA.out _ R.out SS.out).mono ?_); rintro e v1 ⟨rfl, hb⟩; have R := Lib.hid (R.out.step hb); have SS := Lib.hid (SS.out.step hb); clear hb; obtain ⟨k0, k1, k2, k3, k4, k5, k6⟩ := KC.out _ R.out; obtain ⟨s0, s1, s2, s3⟩ := KS.out _ SS.out)
        rw [Z0.out]
        exact bodyPost_ret (results_cell_row rfl _ _ (w.heap.size + 1 + 1) 29 _ (0, 0) _ rfl (R.out.ends (k := 2) rfl rfl).1 Try.underlying29 rfl (by kernel_rfl)) rfl ⟨rfl, (R.out.ends (k := 2) rfl rfl).2⟩
    · have Z0 : Hid (reqF x q = (0, 0)) := Lib.hid (by
        obtain rfl : i = nq := by omega
        rw [W0.out, firstN_none HALL.out])
      obtain ⟨k0, k1, k2, k3, k4, k5, k6⟩ := KC.out _ R.out
      go_wp2_with fail
      rw [Z0.out]
      exact bodyPost_ret (results_cell_row rfl _ _ (w.heap.size + 1 + 1) 29 _ (0, 0) _ rfl (R.out.ends (k := 2) rfl rfl).1 Try.underlying29 rfl (by kernel_rfl)) rfl ⟨rfl, (R.out.ends (k := 2) rfl rfl).2⟩

end Go.Proofs.Ytccmgaibikiedaa.Dc
