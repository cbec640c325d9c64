/- Recipes: the versions of a package. -/
import Derived.Test.YtccmgaibikiedaaDcX
import Derived.Laws.MakeOwn
namespace Go.Proofs.Ytccmgaibikiedaa.Dc
open Go.RowKit
set_option linter.unusedVariables false
set_option linter.unusedSimpArgs false
theorem info_str : (Try.prog.info? 9).map (fun i => (i.zero, i.size, i.bytes)) = some (some (.string ⟨#[]⟩), 1, 16) := by kernel_rfl
theorem make_texts (n : Nat) (hn : n ≤ 100000) (w : World) : (Instr.makeSlice 41 (.int .i64 n) (.int .i64 n)).run Try.prog w =
    .ok (.slice (some ⟨w.heap.size, 0, none⟩) n n) (w.alloc (.cells (madeCells #[.string ⟨#[]⟩] n) 9)) := by
  obtain ⟨i, hi, hz⟩ := Option.map_eq_some_iff.1 info_str
  simp only [Prod.mk.injEq] at hz
  obtain ⟨h1, h2, h3⟩ := hz
  have h := run_make w 41 9 i _ Try.underlying41 hi h1 .i64 .i64 (n : Int) (n : Int) (by omega) (by omega) (by rw [h3]; omega) (by omega)
  rw [h2, Nat.mul_one] at h
  exact h
/-- block o holds the first k texts, of m places. -/
def Tx (W : World) (o m : Nat) (l : List Rel) (k : Nat) : Prop := ∃ cs : Array Value, W.heap[o]? = some (.cells cs 9 (0, 0)) ∧ cs.size = m ∧ ∀ j y, j < k → l[j]? = some y → cs[j]? = some (.string y.1)
theorem Tx.below {W W' : World} {o m k : Nat} {l : List Rel} (h : Tx W o m l k) (hb : Below W.heap.size W W') : Tx W' o m l k := by
  obtain ⟨cs, h1, h2, h3⟩ := h
  exact ⟨cs, (hb.block _ (lt_of_block h1)).trans h1, h2, h3⟩
set_option maxHeartbeats 4000000 in
set_option maxRecDepth 100000 in
theorem versions_any {w : World} {B : Nat} {p : Pk} {ps : List Value} (h : pkD w B ps p) (hB : B ≤ w.heap.size) (hl : p.rels.length ≤ 1000) (hsz : ∀ r ∈ p.rels, r.1.size ≤ maxLen) : Calls Try.prog 58 #[.agg ps.toArray] w fun e w' => ∃ o n, e = .returned (.slice (some ⟨o, 0, none⟩) n n) ∧ Sl ByteArray 1 strD w' w'.heap.size (some ⟨o, 0, none⟩) n n (p.rels.map (·.1)) ∧ Below w.heap.size w w' := by
  obtain ⟨Ar, nr, cr, Av, nv, cv, Ap, np, cp, Ad, nd, cd, Ac, nc, cc, Af, nf, cf, rfl, hc⟩ := pk_cells h
  obtain ⟨nm, ln, rels, vars, provs, deps, confs, files⟩ := p
  have s1 := hc.rels
  simp only [] at s1 hl hsz ⊢
  have n1000 : (nr : Int) ≤ 1000 := by have := s1.len; omega
  have bb : Below B w ((w.alloc (.cells #[.string nm, .int .i64 ln, .slice Ar nr cr, .slice Av nv cv, .slice Ap np cp, .slice Ad nd cd, .slice Ac nc cc, .slice Af nf cf] 45)).alloc (.cells (madeCells #[.string ⟨#[]⟩] nr) 9)) := ((Below.refl B w).alloc hB _).alloc (Nat.le_trans hB (by simp)) _
  have B0 : Hid (Below w.heap.size w ((w.alloc (.cells #[.string nm, .int .i64 ln, .slice Ar nr cr, .slice Av nv cv, .slice Ap np cp, .slice Ad nd cd, .slice Ac nc cc, .slice Af nf cf] 45)).alloc (.cells (madeCells #[.string ⟨#[]⟩] nr) 9))) := Lib.hid (two_below _ _ _)
  have hmk := make_texts nr (by omega) (w.alloc (.cells #[.string nm, .int .i64 ln, .slice Ar nr cr, .slice Av nv cv, .slice Ap np cp, .slice Ad nd cd, .slice Ac nc cc, .slice Af nf cf] 45))
  have k2 : (w.alloc (.cells #[.string nm, .int .i64 ln, .slice Ar nr cr, .slice Av nv cv, .slice Ap np cp, .slice Ad nd cd, .slice Ac nc cc, .slice Af nf cf] 45)).cell? ⟨w.heap.size, 2, none⟩ = some (.slice Ar nr cr) := blk_cell (heap_alloc_new w _) rfl
  have l2 : ((w.alloc (.cells #[.string nm, .int .i64 ln, .slice Ar nr cr, .slice Av nv cv, .slice Ap np cp, .slice Ad nd cd, .slice Ac nc cc, .slice Af nf cf] 45)).alloc (.cells (madeCells #[.string ⟨#[]⟩] nr) 9)).cell? ⟨w.heap.size, 2, none⟩ = some (.slice Ar nr cr) := blk_cell ((Below.heap_alloc _ _ _ (by simp)).trans (heap_alloc_new w _)) rfl
  have SR := Lib.hid s1
  have HB : Hid (B ≤ w.heap.size) := Lib.hid hB
  have HN := Lib.hid s1.len
  have HS := Lib.hid hsz
  have C0 : Hid (Tx ((w.alloc (.cells #[.string nm, .int .i64 ln, .slice Ar nr cr, .slice Av nv cv, .slice Ap np cp, .slice Ad nd cd, .slice Ac nc cc, .slice Af nf cf] 45)).alloc (.cells (madeCells #[.string ⟨#[]⟩] nr) 9)) (w.heap.size + 1) nr rels 0) := Lib.hid ⟨_, two_new _ _ _, size_madeCells _ _, fun j y hj => absurd hj (Nat.not_lt_zero _)⟩
  have BB : Hid (Below B w ((w.alloc (.cells #[.string nm, .int .i64 ln, .slice Ar nr cr, .slice Av nv cv, .slice Ap np cp, .slice Ad nd cd, .slice Ac nc cc, .slice Af nf cf] 45)).alloc (.cells (madeCells #[.string ⟨#[]⟩] nr) 9))) := Lib.hid bb
  clear h hc s1 bb hB hl hsz
  show Calls Try.prog _ #[.agg #[.string nm, .int .i64 ln, .slice Ar nr cr, .slice Av nv cv, .slice Ap np cp, .slice Ad nd cd, .slice Ac nc cc, .slice Af nf cf]] w _
  go_enter Try.func58, Try.ntmps58
  go_wp2_with fail
  clear hmk k2 l2
  go_loopw [4, 5, 13] (fun _ _ v wq => ∃ i : Nat, v = .int .i64 i ∧ i ≤ nr ∧ Tx wq (w.heap.size + 1) nr rels i ∧ Below w.heap.size w wq) (fun _ _ v _ => nr - (intOf v).toNat)
  case atStart => exact ⟨0, rfl, Nat.zero_le _, C0.out, B0.out⟩
  case round =>
    obtain ⟨i, rfl, hi, htx, hbw⟩ := hrel
    have TX := Lib.hid htx
    have BW := Lib.hid hbw
    have SW := Lib.hid (SR.out.below rel_stays (Nat.le_refl B) (hbw.mono HB.out))
    clear htx hbw
    by_cases hlt : i < nr
    · have hlt' : (i : Int) < (nr : Int) := by omega
      obtain ⟨⟨s, old⟩, b, o, t1, rfl, t3, x0, x1, -⟩ := rel_at SW.out hlt
      simp only [] at x0 x1
      have T2 := TX.out.below ((Below.refl wr.heap.size wr).alloc (Nat.le_refl _) (.cells #[.string s, .bool old] 55))
      obtain ⟨cs, h1, h2, h3⟩ := T2
      obtain ⟨u, u0⟩ : ∃ u, (wr.alloc (.cells #[.string s, .bool old] 55)).cell? ⟨w.heap.size + 1, i, none⟩ = some u := ⟨_, blk_cell h1 (Array.getElem?_eq_getElem (show i < cs.size by omega))⟩
      have f0 := blk_free i h1
      have C1 : Hid (Tx ((wr.alloc (.cells #[.string s, .bool old] 55)).setCell ⟨w.heap.size + 1, i, none⟩ (.string s)) (w.heap.size + 1) nr rels (i + 1)) := Lib.hid ⟨_, blk_set i _ h1, by simpa using h2, fun j y hj hy => by
        rcases Nat.lt_or_ge j i with h | h
        · rw [Array.getElem?_setIfInBounds_ne (by omega)]; exact h3 j y h hy
        · obtain rfl : j = i := by omega
          rw [t1] at hy
          obtain rfl := Option.some.inj hy
          rw [Array.getElem?_setIfInBounds_self_of_lt (by omega)]⟩
      have B1 : Hid (Below w.heap.size w ((wr.alloc (.cells #[.string s, .bool old] 55)).setCell ⟨w.heap.size + 1, i, none⟩ (.string s))) := Lib.hid ((BW.out.alloc BW.out.size _).setCell (p := ⟨w.heap.size + 1, i, none⟩) (Nat.le_succ _) _)
      have e1 := heap_alloc_new wr (.cells #[.string s, .bool old] 55)
      have v0 := blk_cell (j := 0) e1 rfl
      clear h1 h2 h3 t1 t3 e1
      go_wp2_with fail
      go_roundw
      case rel => exact ⟨i + 1, by go_num, by omega, C1.out, B1.out⟩
      case measure => simp [intOf]; omega
    · go_wp2_with fail
      go_ret
      obtain ⟨cs, h1, h2, h3⟩ := TX.out
      refine ⟨w.heap.size + 1, nr, rfl, ⟨by rw [List.length_map]; exact HN.out, Nat.le_refl _, by unfold maxLen; omega, .inr ⟨w.heap.size + 1, 0, rfl, lt_of_block h1, fun j y hj => ?_⟩⟩, BW.out⟩
      rw [List.getElem?_map] at hj
      cases hr : rels[j]? with
      | none => rw [hr] at hj; cases hj
      | some r =>
        rw [hr] at hj
        obtain rfl := Option.some.inj hj
        have hjl : j < rels.length := by
          rcases Nat.lt_or_ge j rels.length with h | h
          · exact h
          · rw [List.getElem?_eq_none h] at hr; cases hr
        refine ⟨[.string r.1], rfl, fun t ht => ?_, ⟨rfl, HS.out r (List.mem_of_getElem? hr)⟩⟩
        obtain rfl : t = 0 := by omega
        rw [Nat.mul_one, Nat.zero_add, Nat.add_zero]
        exact blk_cell h1 (h3 j r (by have := HN.out; omega) hr)

end Go.Proofs.Ytccmgaibikiedaa.Dc
