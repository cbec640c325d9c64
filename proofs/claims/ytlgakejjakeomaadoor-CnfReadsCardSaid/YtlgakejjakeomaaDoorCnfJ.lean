/- Clauses: the chapter's example, whole. -/
import Derived.Test.YtlgakejjakeomaaDoorCnfI
namespace Go.Proofs.YtlgakejjakeomaaDoor.Cnf
set_option linter.unusedVariables false
set_option linter.unusedSimpArgs false
open Go.RowKit Go.Lib
open Go.Proofs.YtlgakejjakeomaaDoor.Order (IRow ERow add_at)
variable {B g n c : Nat} {A : Option Addr} {cs : List (List Int)} {VS : List Value} {bad full : Bool} {w w' w1 w2 : World}

theorem form12 : formOf [1, 2] = some [1, 2] := by decide
theorem form12n : formOf [-1, -2] = some [-1, -2] := by decide
theorem rg2 {x y : Int} (hx : Rg x) (hy : Rg y) : RgL [x, y] := fun z hz => by
  simp at hz
  rcases hz with rfl | rfl
  · exact hx
  · exact hy
theorem irow2 (w : World) (x y : Int) : IRow (w.alloc (.cells #[.int .i64 x, .int .i64 y] 3)) (w.alloc (.cells #[.int .i64 x, .int .i64 y] 3)).heap.size (some ⟨w.heap.size, 0, none⟩) [x, y] := by
  refine .inr ⟨w.heap.size, 0, rfl, by simp, fun j hj => ?_⟩
  have hb := heap_alloc_new w (.cells #[.int .i64 x, .int .i64 y] 3)
  match j, hj with
  | 0, _ => exact blk_cell (j := 0) hb rfl
  | 1, _ => exact blk_cell (j := 1) hb rfl

/-- the builder behind one clause more. -/
def More (B g n : Nat) (A : Option Addr) (c : Nat) (cs : List (List Int)) (f : List Int) (bad full : Bool) (w w' : World) : Prop :=
  ∃ A' c' VS', Bd B g A' (n + 1) c' (cs ++ [f]) VS' bad full w' ∧ Below B w w' ∧
      (∀ k, k < w.heap.size → k ≠ g → (Value.slice A n c).ownBlock ≠ some k → w'.heap[k]? = w.heap[k]?) ∧ ∀ k, (Value.slice A' (n + 1) c').ownBlock = some k → (Value.slice A n c).ownBlock = some k ∨ w.heap.size ≤ k

set_option maxHeartbeats 4000000 in
set_option maxRecDepth 100000 in
theorem most12_any (r : Nat) (hbd : Bd B g A n c cs VS bad full w) (hn : n < 262144) (hrw : r < w.heap.size) (hrg : r ≠ g) (hra : (Value.slice A n c).ownBlock ≠ some r)
    (h0 : w.cell? ⟨r, 0, none⟩ = some (.int .i64 1)) (h1 : w.cell? ⟨r, 1, none⟩ = some (.int .i64 2)) :
    Calls Tryd.prog 37 #[.pointer (some ⟨g, 0, none⟩), .slice (some ⟨r, 0, none⟩) 2 2] w fun e w' => e = .returned (.tuple #[]) ∧ More B g n A c cs [-1, -2] bad full w w' := by
  have BD := Lib.hid hbd
  have HN := Lib.hid hn
  have H1 : Hid (∀ w', More B g n A c cs [-1, -2] bad full w w' → w'.cell? ⟨r, 1, none⟩ = some (.int .i64 2)) := Lib.hid (fun w' ⟨A', c', VS', _, _, h, _⟩ => (World.cell?_of_block (a := ⟨r, 1, none⟩) (h r hrw hrg hra)).trans h1)
  have ADD : Hid (∀ W, W = w.alloc (.cells #[.int .i64 (-1), .int .i64 (-2)] 3) → Calls Tryd.prog 36 #[.pointer (some ⟨g, 0, none⟩), .slice (some ⟨w.heap.size, 0, none⟩) 2 2] W fun e w' => e = .returned (.tuple #[]) ∧ More B g n A c cs [-1, -2] bad full w w') := Lib.hid (fun W hW => by
    subst hW
    have ba : Below w.heap.size w (w.alloc (.cells #[.int .i64 (-1), .int .i64 (-2)] 3)) := (Below.refl _ _).alloc (Nat.le_refl _) _
    refine (add_any (some ⟨w.heap.size, 0, none⟩) [-1, -2] [-1, -2] 2 2 (hbd.below ba) hn (irow2 w (-1) (-2)) rfl (by omega) (rg2 (by unfold Rg; omega) (by unfold Rg; omega)) form12n).mono ?_
    rintro e w' ⟨he, A', c', VS', k1, k2, k3, k4⟩
    refine ⟨he, A', c', VS', k1, (ba.mono hbd.lt.2).trans k2, fun k hk1 hk2 hk3 => (k3 k (by simp; omega) hk2 hk3).trans (ba.block k hk1), fun k hk => ?_⟩
    rcases k4 k hk with h | h
    · exact .inl h
    · right; simp at h; omega)
  have C1 := Lib.hid h1
  clear hbd hn hrw hrg hra h1
  go_enter Tryd.func37, Tryd.ntmps37
  go_wp2_with fail
  go_loopw [4, 5, 7, 10, 20] (fun _ _ _ v _ wr => (v = .int .i64 0 ∧ wr = w) ∨ (v = .int .i64 1 ∧ More B g n A c cs [-1, -2] bad full w wr) ∨ (v = .int .i64 2 ∧ More B g n A c cs [-1, -2] bad full w wr)) (fun _ _ _ v _ _ => 2 - (intOf v).toNat)
  case atStart => exact .inl ⟨rfl, rfl⟩
  case round =>
    rcases hrel with ⟨rfl, rfl⟩ | ⟨rfl, hm⟩ | ⟨rfl, hm⟩
    · go_wp2_with fail
      go_loopw [7, 20] (fun _ v wq => (v = .int .i64 0 ∧ wq = wr) ∨ (v = .int .i64 1 ∧ More B g n A c cs [-1, -2] bad full wr wq)) (fun _ v _ => 1 - (intOf v).toNat)
      case atStart => exact .inl ⟨rfl, rfl⟩
      case round =>
        rcases hrel with ⟨rfl, h'⟩ | ⟨rfl, hm⟩
        · obtain rfl := h'.symm
          have f1 := C1.out
          go_wp2_with fail
          refine (ADD.out _ rfl).mono ?_
          rintro e w' ⟨rfl, hm⟩
          have M := Lib.hid hm
          clear hm
          go_wp2_with fail
          go_roundw
          case rel =>
            first
              | exact .inr ⟨by go_num, M.out⟩
              | (refine ⟨_, _, _, _, _, _, _, _, _, _, _, _, _, .inr ⟨rfl, M.out⟩, rfl⟩)
          case measure => simp [intOf]
        · have M := Lib.hid hm
          clear hm
          go_wp2_with fail
          go_roundw
          case rel => exact .inr (.inl ⟨by go_num, M.out⟩)
          case measure => simp [intOf]
    · have M := Lib.hid hm
      have f1 := H1.out wr hm
      clear hm
      · go_wp2_with fail
        go_loopw [7, 20] (fun _ v wq => v = .int .i64 0 ∧ wq = wr) (fun _ v _ => 1 - (intOf v).toNat)
        case atStart => exact ⟨rfl, rfl⟩
        case round =>
          obtain ⟨rfl, h'⟩ := hrel
          obtain rfl := h'.symm
          go_wp2_with fail
          go_roundw
          case rel => exact .inr (.inr ⟨by go_num, M.out⟩)
          case measure => simp [intOf]
    · have M := Lib.hid hm
      clear hm
      go_wp2_with fail
      go_end0
      exact ⟨rfl, M.out⟩

set_option maxHeartbeats 1000000 in
theorem one12_any (r : Nat) (hbd : Bd B g A n c cs VS bad full w) (hn : n + 1 < 262144) (hrw : r < w.heap.size) (hrg : r ≠ g) (hra : (Value.slice A n c).ownBlock ≠ some r)
    (h0 : w.cell? ⟨r, 0, none⟩ = some (.int .i64 1)) (h1 : w.cell? ⟨r, 1, none⟩ = some (.int .i64 2)) :
    Calls Tryd.prog 25 #[.pointer (some ⟨g, 0, none⟩), .slice (some ⟨r, 0, none⟩) 2 2] w fun e w' => e = .returned (.tuple #[]) ∧ ∃ A' c' VS', Bd B g A' (n + 2) c' (cs ++ [[1, 2], [-1, -2]]) VS' bad full w' ∧ Below B w w' := by
  have hl : IRow w w.heap.size (some ⟨r, 0, none⟩) [1, 2] := by
    refine .inr ⟨r, 0, rfl, hrw, fun j hj => ?_⟩
    match j, hj with
    | 0, _ => exact h0
    | 1, _ => exact h1
  have S1 : Hid (Calls Tryd.prog 36 #[.pointer (some ⟨g, 0, none⟩), .slice (some ⟨r, 0, none⟩) 2 2] w fun e w' => e = .returned (.tuple #[]) ∧ More B g n A c cs [1, 2] bad full w w') := Lib.hid (add_any (some ⟨r, 0, none⟩) [1, 2] [1, 2] 2 2 hbd (by omega) hl rfl (by omega) (rg2 (by unfold Rg; omega) (by unfold Rg; omega)) form12)
  have S2 : Hid (∀ w1, More B g n A c cs [1, 2] bad full w w1 → Calls Tryd.prog 37 #[.pointer (some ⟨g, 0, none⟩), .slice (some ⟨r, 0, none⟩) 2 2] w1 fun e w' => e = .returned (.tuple #[]) ∧ ∃ A' c' VS', Bd B g A' (n + 2) c' (cs ++ [[1, 2], [-1, -2]]) VS' bad full w' ∧ Below B w w') := Lib.hid (fun w1 ⟨A', c', VS', k1, k2, k3, k4⟩ => by
    have hr1 : w1.heap[r]? = w.heap[r]? := k3 r hrw hrg hra
    refine (most12_any r k1 (by omega) (by have := k2.size; omega) hrg (fun e => by
      rcases k4 r e with h | h
      · exact hra h
      · omega) ((World.cell?_of_block (a := ⟨r, 0, none⟩) hr1).trans h0) ((World.cell?_of_block (a := ⟨r, 1, none⟩) hr1).trans h1)).mono ?_
    rintro e w2 ⟨he, A2, c2, VS2, j1, j2, _, _⟩
    exact ⟨he, A2, c2, VS2, by simpa using j1, k2.trans j2⟩)
  clear hbd hl h0 h1 hn
  go_enter Tryd.func25, Tryd.ntmps25
  go_wp2_with fail
  refine S1.out.mono ?_
  rintro e w1 ⟨rfl, hm⟩
  have S3 := Lib.hid (S2.out w1 hm)
  clear hm
  go_wp2_with fail
  refine S3.out.mono ?_
  rintro e w2 ⟨rfl, hm⟩
  have M := Lib.hid hm
  clear hm
  go_wp2_with fail
  go_end0
  exact ⟨rfl, M.out⟩

/-! ### the clauses, copied -/
theorem make_clauses (n : Nat) (hn : n ≤ 262144) (w : World) : (Instr.makeSlice 45 (.int .i64 n) (.int .i64 n)).run Tryd.prog w =
    .ok (.slice (some ⟨w.heap.size, 0, none⟩) n n) (w.alloc (.cells (madeCells #[.slice none 0 0] n) 73)) := by
  obtain ⟨i, hi, h1, h2, h3⟩ := ints_info
  have h := run_make w 45 73 i _ Tryd.underlying45 hi h1 .i64 .i64 (n : Int) (n : Int) (by omega) (by omega) (by rw [h3]; omega) (by omega)
  rw [h2] at h
  simp only [Int.toNat_natCast, Nat.mul_one] at h
  exact h
/-- block G: slices, the first k those of the clauses, each of its own. -/
structure CR (N G n k : Nat) (cs : List (List Int)) (w : World) : Prop where
  row : ∃ cells : Array Value, w.heap[G]? = some (.cells cells 73 (0, 0)) ∧ cells.size = n ∧ ∀ j, j < k → ∃ V, cells[j]? = some V ∧ w.ownsRow N 3 1 V (cs.getD j []).length (rowV (cs.getD j [])) ∧ V.ownBlock ≠ some G
theorem CR.step {N G n k : Nat} {cs : List (List Int)} {w w1 : World} {v : Value} (h : CR N G n k cs w) (hk : k < n) (hb : Below w.heap.size w w1) (hN : N ≤ w.heap.size) (hv : w1.ownsRow w.heap.size 3 1 v (cs.getD k []).length (rowV (cs.getD k []))) :
    CR N G n (k + 1) cs (w1.setCell ⟨G, k, none⟩ v) := by
  obtain ⟨cells, h1, h2, h3⟩ := h.row
  have hG := lt_of_block h1
  have h1' : w1.heap[G]? = some (.cells cells 73 (0, 0)) := (hb.block G hG).trans h1
  have hvlt := hv.lt
  have vg : v.ownBlock ≠ some G := fun e => by have := (hvlt G e).1; omega
  have keep : ∀ {e : TypeId} {base n : Nat} {u : Value} {xs : List Value}, w1.ownsRow base e 1 u n xs → u.ownBlock ≠ some G → (w1.setCell ⟨G, k, none⟩ v).ownsRow base e 1 u n xs := fun ho hne =>
    ho.kept (grown_set w1 ⟨G, k, none⟩ v) (.inr (by simpa using hne))
  refine ⟨cells.setIfInBounds k v, blk_set k v h1', by simp [h2], fun j hj => ?_⟩
  by_cases e : j = k
  · subst e
    exact ⟨v, by rw [Array.getElem?_setIfInBounds_self_of_lt (by omega)], keep (own_low hv hN) vg, vg⟩
  · obtain ⟨V, e1, e2, e3⟩ := h3 j (by omega)
    exact ⟨V, by rw [Array.getElem?_setIfInBounds_ne (fun x => e x.symm)]; exact e1, keep (keep_of e2 hb) e3, e3⟩
theorem CR.erow {N G n : Nat} {cs : List (List Int)} {w : World} (h : CR N G n n cs w) (hl : cs.length = n) : ERow w w.heap.size (some ⟨G, 0, none⟩) cs := by
  obtain ⟨cells, h1, h2, h3⟩ := h.row
  refine .inr ⟨G, 0, rfl, lt_of_block h1, fun j hj => ?_⟩
  obtain ⟨V, e1, e2, e3⟩ := h3 j (by omega)
  obtain ⟨A, c, rfl, k1, k2, k3, k4, _⟩ := own_irow e2
  exact ⟨A, _, c, rfl, by omega, k3, k4, by rw [Nat.zero_add]; exact blk_cell h1 e1⟩

set_option maxHeartbeats 4000000 in
set_option maxRecDepth 100000 in
theorem clauses_any (hbd : Bd B g A n c cs VS bad full w) (hn : n ≤ 262144) :
    Calls Tryd.prog 27 #[.pointer (some ⟨g, 0, none⟩)] w fun e w' => e = .returned (.slice (some ⟨w.heap.size, 0, none⟩) n n) ∧ ERow w' w'.heap.size (some ⟨w.heap.size, 0, none⟩) cs ∧ Below w.heap.size w w' := by
  have h63 : (n : Int) ≤ 9223372036854775807 := by omega
  have q0 : w.cell? ⟨g, 0, none⟩ = some (.slice A n c) := blk_cell hbd.blk rfl
  have hmk := make_clauses n hn w
  obtain ⟨G, hG⟩ : ∃ G, G = w.heap.size := ⟨_, rfl⟩
  obtain ⟨W0, hW0⟩ : ∃ W0, W0 = w.alloc (.cells (madeCells #[.slice none 0 0] n) 73) := ⟨_, rfl⟩
  have B0 : Hid (Below G w W0) := Lib.hid (by rw [hW0, hG]; exact (Below.refl _ _).alloc (Nat.le_refl _) _)
  have hmc : (madeCells #[Value.slice none 0 0] n).size = n := by
    have := congrArg List.length (toList_madeCells_one (Value.slice none 0 0) n)
    simpa using this
  have C0 : Hid (CR G G n 0 cs W0) := Lib.hid ⟨_, by rw [hW0, hG]; exact heap_alloc_new w _, hmc, fun j hj => absurd hj (Nat.not_lt_zero _)⟩
  have gG : g < G := by have := hbd.lt.1; omega
  have q1 : W0.cell? ⟨g, 0, none⟩ = some (.slice A n c) := (B0.out.cell (p := ⟨g, 0, none⟩) gG).trans q0
  have S0 : Hid (G < W0.heap.size) := Lib.hid (by rw [hW0, hG]; simp)
  have BD := Lib.hid hbd
  have EG := Lib.hid hG
  rw [← hG, ← hW0] at hmk
  rw [← hG]
  clear hbd hn hG hW0 hmc gG
  go_enter Tryd.func27, Tryd.ntmps27
  go_wp2_with fail
  clear hmk q0 q1
  go_loopw [4, 5, 19] (fun _ _ v wr => ∃ k : Nat, v = .int .i64 k ∧ k ≤ n ∧ Below G w wr ∧ G < wr.heap.size ∧ CR G G n k cs wr) (fun _ _ v _ => n - (intOf v).toNat)
  case atStart => exact ⟨0, rfl, Nat.zero_le _, B0.out, S0.out, C0.out⟩
  case round =>
    obtain ⟨k, rfl, hk, hbel, hsz, hcr⟩ := hrel
    have BL := Lib.hid hbel
    have SZ := Lib.hid hsz
    have CRH := Lib.hid hcr
    clear hbel hsz hcr B0 S0 C0
    by_cases hlt : k < n
    · have hlt' : (k : Int) < (n : Int) := by omega
      have BDR := Lib.hid (BD.out.below (by rw [← EG.out]; exact BL.out))
      obtain ⟨V, e1, e2, e3, e4⟩ := BDR.out.each k hlt
      obtain ⟨Ak, ck, rfl, k1, k2, k3, k4, -⟩ := own_irow e2
      have CL := Lib.hid (cloneI_any Ak (cs.getD k []) (cs.getD k []).length ck wr k4 rfl (by have := BD.out.small k; omega))
      have hVS : ∃ ga, A = some ⟨ga, 0, none⟩ ∧ wr.cell? ⟨ga, k, none⟩ = some (.slice Ak (cs.getD k []).length ck) := by
        rcases BDR.out.own.2 with ⟨_, h0⟩ | ⟨ga, cap, cur, e5, _, hh, hc, _, _, ht⟩
        · omega
        · injection e5 with e5 _ _
          refine ⟨ga, e5, blk_cell hh ?_⟩
          have e6 := e1
          rw [← ht, List.getElem?_take] at e6
          split at e6
          · simpa using e6
          · cases e6
      obtain ⟨ga, rfl, hva⟩ := hVS
      obtain ⟨m, hm⟩ : ∃ m, m = (cs.getD k []).length := ⟨_, rfl⟩
      have EM := Lib.hid hm
      rw [← hm] at hva CL
      clear e1 e2 e3 e4 k1 k2 k3 k4 hm
      go_wp2_with fail
      refine CL.out.mono ?_
      rintro e w1 ⟨v, rfl, ho, hb1⟩
      have ST : Hid (CR G G n (k + 1) cs (w1.setCell ⟨G, k, none⟩ v)) := Lib.hid (CRH.out.step hlt hb1 (by have := SZ.out; omega) (by rw [← EM.out]; exact ho))
      have B1 : Hid (Below G w (w1.setCell ⟨G, k, none⟩ v)) := Lib.hid ((BL.out.trans (hb1.mono (by have := SZ.out; omega))).setCell (p := ⟨G, k, none⟩) (Nat.le_refl _) _)
      have S1 : Hid (G < (w1.setCell ⟨G, k, none⟩ v).heap.size) := Lib.hid (by have := SZ.out; have := hb1.size; simp; omega)
      obtain ⟨cells, h1, h2, -⟩ := CRH.out.row
      have h1' := (hb1.block G SZ.out).trans h1
      have cz : w1.cell? ⟨G, k, none⟩ = some (cells[k]'(by omega)) := blk_cell h1' (Array.getElem?_eq_getElem (by omega))
      have fz : w1.frozen? ⟨G, k, none⟩ = false := blk_free k h1'
      obtain ⟨Av, cv, rfl, -⟩ := own_irow ho
      generalize cells[k]'(by omega) = oldv at cz
      clear h1 h2 h1' ho hb1 CL
      go_wp2_with fail
      go_roundw
      case rel => exact ⟨k + 1, by go_num, by omega, B1.out, S1.out, ST.out⟩
      case measure => simp [intOf]; omega
    · obtain rfl : k = n := by omega
      have EE := Lib.hid (CRH.out.erow BD.out.len)
      go_wp2_with fail
      go_ret
      exact ⟨rfl, EE.out, by rw [EG.out] at *; exact BL.out⟩

end Go.Proofs.YtlgakejjakeomaaDoor.Cnf
