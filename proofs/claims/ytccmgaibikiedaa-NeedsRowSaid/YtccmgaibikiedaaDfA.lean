/- Requests as arguments; boxes; requests that are more than is gone through. -/
import Derived.Test.YtccmgaibikiedaaDcN
import Derived.Test.YtccmgaibikiedaaDcP
namespace Go.Proofs.Ytccmgaibikiedaa.Dc
open Go.RowKit
set_option linter.unusedVariables false
set_option linter.unusedSimpArgs false
/-- the boxes that a call has made first, one behind the other. -/
structure Bxs (w : World) (l : List (Array Value × TypeId)) (W : World) : Prop where
  box : ∀ k b, l[k]? = some b → W.heap[w.heap.size + k]? = some (.cells b.1 b.2 (0, 0))
  below : Below w.heap.size w W
theorem Bxs.nil (w : World) : Bxs w [] w := ⟨fun k b h => by simp at h, Below.refl _ _⟩
theorem Bxs.push {w W : World} {l : List (Array Value × TypeId)} (h : Bxs w l W) (hs : W.heap.size = w.heap.size + l.length) (c : Array Value) (t : TypeId) : Bxs w (l ++ [(c, t)]) (W.alloc (.cells c t)) := by
  refine ⟨fun k b hb => ?_, h.below.alloc (by omega) _⟩
  rcases Nat.lt_or_ge k l.length with hk | hk
  · rw [List.getElem?_append_left hk] at hb
    exact (Below.heap_alloc _ _ _ (by omega)).trans (h.box k b hb)
  · rw [List.getElem?_append_right hk] at hb
    obtain rfl : k = l.length := by
      rcases Nat.lt_or_ge 0 (k - l.length) with h' | h'
      · rw [List.getElem?_eq_none (by simp; omega)] at hb; cases hb
      · omega
    rw [Nat.sub_self] at hb
    obtain rfl := Option.some.inj hb
    rw [← hs]
    exact heap_alloc_new W _
theorem Bxs.step {w W W' : World} {l : List (Array Value × TypeId)} (h : Bxs w l W) (hb : Below W.heap.size W W') : Bxs w l W' :=
  ⟨fun k b hk => (hb.block _ (lt_of_block (h.box k b hk))).trans (h.box k b hk), h.below.trans (hb.mono h.below.size)⟩
theorem Bxs.drew {w W : World} {l : List (Array Value × TypeId)} (h : Bxs w l W) : Bxs w l W.drew := h.step (Below.refl _ _).drew
theorem Bxs.alloc {w W : World} {l : List (Array Value × TypeId)} (h : Bxs w l W) (o : Obj) : Bxs w l (W.alloc o) := h.step ((Below.refl _ _).alloc (Nat.le_refl _) _)
/-- a box of a problem, written. -/
theorem Bxs.ends {w W : World} {l : List (Array Value × TypeId)} {k z : Nat} {ln : Int} {c : Array Value} (h : Bxs w l W) (hk : l[k]? = some (c, 29)) (hc : c = #[.int .u8 0, .int .i64 0]) :
    ((W.setCell ⟨w.heap.size + k, 0, none⟩ (.int .u8 z)).setCell ⟨w.heap.size + k, 1, none⟩ (.int .i64 ln)).heap[w.heap.size + k]? = some (.cells #[.int .u8 z, .int .i64 ln] 29 (0, 0)) ∧
    Below w.heap.size w ((W.setCell ⟨w.heap.size + k, 0, none⟩ (.int .u8 z)).setCell ⟨w.heap.size + k, 1, none⟩ (.int .i64 ln)) := by
  subst hc
  exact ⟨blk_set 1 _ (blk_set 0 _ (h.box k _ hk)), (h.below.setCell (p := ⟨w.heap.size + k, 0, none⟩) (Nat.le_add_right _ _) _).setCell (p := ⟨w.heap.size + k, 1, none⟩) (Nat.le_add_right _ _) _⟩
structure Rt where
  spec : Sp
  line : Int
def rtD : Dec Rt := fun w B cs y => cs.length = 4 ∧ fld 0 3 spD w B cs y.spec ∧ fld 3 1 intD w B cs y.line
def rqD : Dec (List Rt) := fun w B cs y => cs.length = 1 ∧ fld 0 1 (sliceD 4 rtD) w B cs y
theorem rt_stays : Stays rtD := fun w w' B B' cs y ⟨h0, h1, h2⟩ hB hb => ⟨h0, fld_stays sp_stays _ _ _ _ _ _ h1 hB hb, h2⟩
theorem rq_stays : Stays rqD := fun w w' B B' cs y ⟨h0, h1⟩ hB hb => ⟨h0, fld_stays (sliceD_stays rt_stays) _ _ _ _ _ _ h1 hB hb⟩
section
variable {H : Type} {enc : TypeId × Value → H} {W : World}
set_option maxRecDepth 100000
theorem opens_root : Opens enc W 72 rtD := fun fuel cs x h => by
  obtain ⟨y0, h0⟩ := opens_field Try.underlying72 h 0 rfl rfl (k := 3) (by kernel_rfl) opens_spec
  obtain ⟨y1, h1⟩ := opens_field Try.underlying72 h 1 rfl rfl (k := 1) (by kernel_rfl) (opens_int Try.underlying3)
  exact ⟨⟨y0, y1⟩, (struct_len Try.underlying72 h).trans (by kernel_rfl), h0, h1⟩
theorem opens_request : Opens enc W 37 rqD := fun fuel cs x h => by
  obtain ⟨y0, h0⟩ := opens_field Try.underlying37 h 0 rfl rfl (k := 1) (by kernel_rfl) (opens_slice (k := 4) Try.underlying35 (by kernel_rfl) (by decide) opens_root)
  exact ⟨y0, (struct_len Try.underlying37 h).trans (by kernel_rfl), h0⟩
end
section
variable {w : World} {B : Nat} {cs : List Value}
theorem len1 (h : cs.length = 1) : ∃ a, cs = [a] := by
  match cs, h with
  | [a], _ => exact ⟨a, rfl⟩
theorem len4 (h : cs.length = 4) : ∃ a b c d, cs = [a, b, c, d] := by
  match cs, h with
  | [a, b, c, d], _ => exact ⟨a, b, c, d, rfl⟩
theorem rq_cells {x : List Rt} (h : rqD w B cs x) : ∃ A n c, cs = [.slice A n c] ∧ Sl Rt 4 rtD w B A n c x := by
  obtain ⟨h0, h1⟩ := h
  obtain ⟨a, rfl⟩ := len1 h0
  obtain ⟨A, n, c, e, hs⟩ := slice_cells h1
  simp only [List.drop_zero, List.take_succ_cons, List.take_zero, List.cons.injEq, and_true] at e
  subst e
  exact ⟨A, n, c, rfl, hs⟩
theorem rq_of {x : List Rt} {A : Option Addr} {n c : Nat} (h : Sl Rt 4 rtD w B A n c x) : rqD w B [.slice A n c] x := ⟨rfl, A, n, c, rfl, h.len, h.cap, h.max, h.row⟩
theorem rt_cells {x : Rt} (h : rtD w B cs x) : ∃ A1 n1 c1 A2 n2 c2, cs = [.string x.spec.name, .slice A1 n1 c1, .slice A2 n2 c2, .int .i64 x.line] ∧ spD w B [.string x.spec.name, .slice A1 n1 c1, .slice A2 n2 c2] x.spec := by
  obtain ⟨h0, h1, h2⟩ := h
  obtain ⟨a, b, c, d, rfl⟩ := len4 h0
  simp only [fld, intD, List.drop_zero, List.drop_succ_cons, List.take_succ_cons, List.take_zero, List.cons.injEq, and_true] at h1 h2
  obtain ⟨rfl, _⟩ := h2
  obtain ⟨A1, n1, c1, A2, n2, c2, e, -⟩ := sp_cells h1
  rw [e] at h1
  simp only [List.cons.injEq, and_true] at e
  obtain ⟨rfl, rfl, rfl⟩ := e
  exact ⟨A1, n1, c1, A2, n2, c2, rfl, h1⟩
theorem rt_at {A : Option Addr} {n c i : Nat} {l : List Rt} (h : Sl Rt 4 rtD w B A n c l) (hi : i < n) : ∃ r b o A1 n1 c1 A2 n2 c2, l[i]? = some r ∧ A = some ⟨b, o, none⟩ ∧ b < B ∧
    w.cell? ⟨b, o + i * 4, none⟩ = some (.string r.spec.name) ∧ w.cell? ⟨b, o + i * 4 + 1, none⟩ = some (.slice A1 n1 c1) ∧ w.cell? ⟨b, o + i * 4 + 2, none⟩ = some (.slice A2 n2 c2) ∧ w.cell? ⟨b, o + i * 4 + 3, none⟩ = some (.int .i64 r.line) ∧
    spD w B [.string r.spec.name, .slice A1 n1 c1, .slice A2 n2 c2] r.spec := by
  obtain ⟨y, b, o, vs, h1, h2, h3, h4, h5, h6⟩ := h.at hi
  obtain ⟨A1, n1, c1, A2, n2, c2, rfl, z1⟩ := rt_cells h6
  exact ⟨y, b, o, A1, n1, c1, A2, n2, c2, h1, h2, h3, h5 0 (by decide), h5 1 (by decide), h5 2 (by decide), h5 3 (by decide), z1⟩
end
def gRq (l : List Rt) : Bool := decide (40 < l.length) || l.any fun r => gSp r.spec
set_option maxHeartbeats 2000000 in
set_option maxRecDepth 100000 in
theorem greatS_any {w : World} {B : Nat} {x : Sp} {cs : List Value} (h : spD w B cs x) (hB : B ≤ w.heap.size) : Calls Try.prog 44 #[.agg cs.toArray] w fun e w' => e = .returned (.bool (gSp x)) ∧ Below w.heap.size w w' := by
  obtain ⟨D1, m1, e1, D2, m2, e2, hcs, -, -, -⟩ := sp_cells h
  obtain ⟨sn, hsn⟩ : ∃ y, y = x.name := ⟨_, rfl⟩
  rw [← hsn] at hcs
  have R := Lib.hid (show Bxs w [(#[.string sn, .slice D1 m1 e1, .slice D2 m2 e2], 70)] _ from (Bxs.nil w).push (by simp) #[.string sn, .slice D1 m1 e1, .slice D2 m2 e2] 70)
  have KC : Hid (∀ W, Bxs w [(#[.string sn, .slice D1 m1 e1, .slice D2 m2 e2], 70)] W → W.cell? ⟨w.heap.size, 0, none⟩ = some (.string sn) ∧ W.cell? ⟨w.heap.size, 1, none⟩ = some (.slice D1 m1 e1) ∧ W.cell? ⟨w.heap.size, 2, none⟩ = some (.slice D2 m2 e2)) := Lib.hid (fun W hR => ⟨blk_cell (j := 0) (hR.box 0 _ rfl) rfl, blk_cell (j := 1) (hR.box 0 _ rfl) rfl, blk_cell (j := 2) (hR.box 0 _ rfl) rfl⟩)
  have C1 : Hid (∀ W, Bxs w [(#[.string sn, .slice D1 m1 e1, .slice D2 m2 e2], 70)] W → Calls Try.prog 55 #[.agg #[.string sn, .slice D1 m1 e1, .slice D2 m2 e2]] W fun e w' => e = .returned (.bool (gSp x)) ∧ Below W.heap.size W w') := Lib.hid (fun W hR => by
    have h3 := sp_stays _ _ _ _ _ _ h (Nat.le_refl B) (hR.below.mono hB)
    rw [hcs] at h3
    exact greatSpec_any h3 (Nat.le_trans hB hR.below.size))
  rw [hcs]
  clear h hcs hsn hB
  obtain ⟨k0, k1, k2⟩ := KC.out _ R.out
  show Calls Try.prog _ #[.agg #[.string sn, .slice D1 m1 e1, .slice D2 m2 e2]] w _
  go_enter Try.func44, Try.ntmps44
  go_wp2_with (go_at_call 55; (with_reducible refine (C1.out _ R.out).mono ?_); rintro e v1 ⟨rfl, hb⟩; have R := Lib.hid (R.out.step hb); clear hb; obtain ⟨k0, k1, k2⟩ := KC.out _ R.out)
  go_ret
  exact ⟨rfl, R.out.below⟩
set_option maxHeartbeats 4000000 in
set_option maxRecDepth 100000 in
theorem great8_any {w : World} {B : Nat} {q : List Rt} {cs : List Value} (h : rqD w B cs q) (hB : B ≤ w.heap.size) : Calls Try.prog 18 #[.agg cs.toArray] w fun e w' => e = .returned (.bool (gRq q)) ∧ Below w.heap.size w w' := by
  obtain ⟨Aq, nq, cq, rfl, sq⟩ := rq_cells h
  have n5 := sq.le
  have HN := Lib.hid sq.len
  have R := Lib.hid (show Bxs w [(#[.slice Aq nq cq], 37)] _ from (Bxs.nil w).push (by simp) #[.slice Aq nq cq] 37)
  have KC : Hid (∀ W, Bxs w [(#[.slice Aq nq cq], 37)] W → W.cell? ⟨w.heap.size, 0, none⟩ = some (.slice Aq nq cq)) := Lib.hid (fun W hR => blk_cell (j := 0) (hR.box 0 _ rfl) rfl)
  have SQ : Hid (∀ W, Bxs w [(#[.slice Aq nq cq], 37)] W → Sl Rt 4 rtD W B Aq nq cq q ∧ B ≤ W.heap.size) := Lib.hid (fun W hR => ⟨sq.below rt_stays (Nat.le_refl B) (hR.below.mono hB), Nat.le_trans hB hR.below.size⟩)
  clear h sq hB
  have k0 := KC.out _ R.out
  show Calls Try.prog _ #[.agg #[.slice Aq nq cq]] w _
  by_cases h40 : 40 < nq
  · have hz : (40 : Int) < (nq : Int) := by omega
    have Z0 : Hid (gRq q = true) := Lib.hid (by unfold gRq; rw [← HN.out, decide_eq_true h40]; rfl)
    go_enter Try.func18, Try.ntmps18
    go_wp2_with fail
    go_ret
    rw [Z0.out]
    exact ⟨rfl, R.out.below⟩
  have hz : (nq : Int) ≤ 40 := by omega
  have G0 : Hid (gRq q = q.any fun r => gSp r.spec) := Lib.hid (by unfold gRq; rw [← HN.out, decide_eq_false h40]; rfl)
  clear h40
  go_enter Try.func18, Try.ntmps18
  go_wp2_with fail
  clear k0
  go_loopw [3, 11] (fun _ v wq => ∃ i : Nat, v = .int .i64 i ∧ i ≤ nq ∧ Bxs w [(#[.slice Aq nq cq], 37)] wq ∧ (q.take i).any (fun r => gSp r.spec) = false) (fun _ v _ => nq - (intOf v).toNat)
  case atStart => exact ⟨0, rfl, Nat.zero_le _, R.out, rfl⟩
  case round =>
    obtain ⟨i, rfl, hi, hr, hall⟩ := hrel
    have R := Lib.hid hr
    have HALL := Lib.hid hall
    clear hr hall
    have k0 := KC.out _ R.out
    by_cases hlt : i < nq
    · have hlt' : (i : Int) < (nq : Int) := by omega
      obtain ⟨r, b, o, A1, m1, c1, A2, m2, c2, t1, rfl, t3, x0, x1, x2, x3, d1⟩ := rt_at (SQ.out _ R.out).1 hlt
      obtain ⟨sn, hsn⟩ : ∃ y, y = r.spec.name := ⟨_, rfl⟩
      rw [← hsn] at x0 d1
      obtain ⟨g, hg⟩ : ∃ g, g = gSp r.spec := ⟨_, rfl⟩
      have C1 := Lib.hid (greatS_any d1 (SQ.out _ R.out).2)
      rw [← hg] at C1
      have T1 := Lib.hid t1
      have G1 := Lib.hid hg
      clear t1 d1 hsn hg t3
      cases g
      case true =>
        have Z0 : Hid (gRq q = true) := Lib.hid (by rw [G0.out]; exact any_hit T1.out G1.out.symm)
        go_wp2_with (go_at_call 44; refine C1.out.mono ?_; rintro e v1 ⟨rfl, hb⟩; have R := Lib.hid (R.out.step hb); clear hb)
        go_ret
        rw [Z0.out]
        exact ⟨rfl, R.out.below⟩
      case false =>
        have NX : Hid ((q.take (i + 1)).any (fun r => gSp r.spec) = false) := Lib.hid (any_next T1.out HALL.out G1.out.symm)
        go_wp2_with (go_at_call 44; refine C1.out.mono ?_; rintro e v1 ⟨rfl, hb⟩; have R := Lib.hid (R.out.step hb); clear hb)
        go_roundw
        case rel => exact ⟨i + 1, by go_num, by omega, R.out, NX.out⟩
        case measure => simp [intOf]; omega
    · have Z0 : Hid (gRq q = false) := Lib.hid (by
        have h := HALL.out
        rw [take_all (by have := HN.out; omega)] at h
        rw [G0.out]; exact h)
      go_wp2_with fail
      go_ret
      rw [Z0.out]
      exact ⟨rfl, R.out.below⟩

end Go.Proofs.Ytccmgaibikiedaa.Dc
