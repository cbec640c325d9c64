/- A row of atoms as an argument: what is read of it lies in cells. -/
import Derived.Test.YtbffcehaednefaaAtomsRowWalk
import Derived.Lib.SmallJoins
import Derived.ProofKit
import Derived.OpenShut
import Derived.Deep.Slices
import Derived.Deep.Strs
namespace Go.Proofs.Ytbffcehaednefaa.Atoms
open Go.ChangeShapes Go.WideShapes Go.ChangeAt Go.RowKit
set_option linter.unusedVariables false

theorem add_at (b o k : Nat) : (⟨b, o, none⟩ : Addr).add k = ⟨b, o + k, none⟩ := by
  unfold Addr.add
  split
  · rename_i e; subst e; rfl
  · rfl
set_option maxRecDepth 100000 in
theorem arow_of {H : Type} {enc : TypeId × Value → H} {W : World} {cs : List Value} {fuel : Nat} {x : DataW H × List MemPlace} (hf : DataW.trod enc Try.prog W 0 (fun _ => true) true fuel 40 cs = some x) :
    ∃ (A : Option Addr) (n c : Nat) (l : List At4), cs = [.slice A n c] ∧ n = l.length ∧ n ≤ c ∧ c ≤ maxLen ∧ ARow W W.heap.size A l ∧ ∀ (i : Nat) (x : At4), l[i]? = some x → WfA x := by
  rcases Go.Deep.open_slice Try.underlying40 hf with ⟨hcs, _⟩ | ⟨a, len, cap, m, n, D, Pl, hcs, _, hl, hm, hmm, _, hi⟩
  · exact ⟨none, 0, 0, [], hcs, rfl, Nat.le_refl _, Nat.zero_le _, .inl rfl, fun i x h => by simp at h⟩
  · simp at hmm
    obtain ⟨f, hfs⟩ := Go.Deep.choose_lt (α := At4) (n := len) (p := fun i s => (W.cell? ((a.add (i * 4)).add 0) = some (.int .u8 s.1) ∧ W.cell? ((a.add (i * 4)).add 1) = some (.int .i64 s.2.1) ∧ W.cell? ((a.add (i * 4)).add 2) = some (.int .i64 s.2.2.1) ∧ W.cell? ((a.add (i * 4)).add 3) = some (.int .i64 s.2.2.2)) ∧ WfA s) (fun i him => by
      obtain ⟨ds, hc, ht⟩ := hi i (by omega)
      rw [cellsA] at hc
      obtain ⟨_, hlen, hat⟩ := World.cells?_some hc
      obtain ⟨y0, y1, y2, y3, n', _, _, t0, t1, t2, t3⟩ := Go.Joins.trod_struct4 Try.underlying44 ht
      obtain ⟨c0, c1, c2, c3, rfl⟩ : ∃ c0 c1 c2 c3, ds = [c0, c1, c2, c3] := by
        match ds, hlen with
        | [c0, c1, c2, c3], _ => exact ⟨c0, c1, c2, c3, rfl⟩
      simp only [cells64, cells8, List.drop_zero, List.drop_succ_cons, List.take_succ_cons, List.take_zero] at t0 t1 t2 t3
      obtain ⟨n0, e0, _, g0⟩ := DataW.trod_int Try.underlying5 t0
      obtain ⟨n1, e1, _, g1⟩ := DataW.trod_int Try.underlying3 t1
      obtain ⟨n2, e2, _, g2⟩ := DataW.trod_int Try.underlying3 t2
      obtain ⟨n3, e3, _, g3⟩ := DataW.trod_int Try.underlying3 t3
      simp only [List.cons.injEq, and_true] at e0 e1 e2 e3
      subst e0 e1 e2 e3
      exact ⟨(n0, n1, n2, n3), ⟨hat 0 (by omega), hat 1 (by omega), hat 2 (by omega), hat 3 (by omega)⟩, g0, g1, g2, g3⟩)
    refine ⟨some a, len, cap, (List.range len).map f, hcs, by simp, hl, hm, ?_, fun i x hx => ?_⟩
    · rcases Nat.eq_zero_or_pos len with h0 | h0
      · exact .inl (by rw [h0]; rfl)
      · have spot : a.spot = none := by
          have c0 := (hfs 0 h0).1.1
          simpa [Addr.add] using World.cell?_spot c0
        obtain ⟨b, o, s⟩ := a
        simp at spot
        subst spot
        refine .inr ⟨b, o, rfl, ?_, fun j x hj => ?_⟩
        · have c0 := (hfs 0 h0).1.1
          rw [add_at, add_at] at c0
          exact World.block_lt_of_cell? W ⟨b, _, none⟩ c0
        · have hj' : j < len := by have := (List.getElem?_eq_some_iff.1 hj).1; simpa using this
          obtain ⟨c0, c1, c2, c3⟩ := (hfs j hj').1
          rw [add_at, add_at] at c0 c1 c2 c3
          rw [List.getElem?_map, List.getElem?_range hj'] at hj
          simp at hj
          subst hj
          exact ⟨c0, c1, c2, c3⟩
    · have hj' : i < len := by have := (List.getElem?_eq_some_iff.1 hx).1; simpa using this
      rw [List.getElem?_map, List.getElem?_range hj'] at hx
      simp at hx
      subst hx
      exact (hfs i hj').2

theorem law_rowI (a : Int) (A : Option Addr) (l : List At4) (n c : Nat) (w : World) (ha : (Lit.int .u8 a).wf = true) (h : ARow w w.heap.size A l) (hn : n = l.length) (hc : n ≤ c) (hm : c ≤ maxLen) (hw : ∀ (i : Nat) (x : At4), l[i]? = some x → WfA x) :
    Calls Try.prog 7 #[.int .u8 a, .slice A n c] w fun e w' => e = .returned (.bool true) ∧ Below w.heap.size w w' := by
  simp [Lit.wf, IntKind.min, IntKind.max, IntKind.signed, IntKind.bits] at ha
  obtain ⟨m, rfl⟩ : ∃ m : Nat, a = (m : Int) := ⟨a.toNat, by omega⟩
  exact law_row m A l n c w (by omega) h hn (by omega) hw

end Go.Proofs.Ytbffcehaednefaa.Atoms
