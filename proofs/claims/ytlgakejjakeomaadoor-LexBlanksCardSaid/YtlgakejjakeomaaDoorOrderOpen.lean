/- Rows of rows of numbers as an argument: what is read of them lies in cells. -/
import Derived.Test.YtlgakejjakeomaaDoorOrderA
import Derived.Lib.SmallJoins
import Derived.ProofKit
import Derived.OpenShut
import Derived.Deep.Slices
import Derived.Deep.Strs
namespace Go.Proofs.YtlgakejjakeomaaDoor.Order
open Go.ChangeShapes Go.WideShapes Go.ChangeAt Go.RowKit
set_option linter.unusedVariables false

theorem add_at (b o k : Nat) : (⟨b, o, none⟩ : Addr).add k = ⟨b, o + k, none⟩ := by
  unfold Addr.add
  split
  · rename_i e; subst e; rfl
  · rfl
theorem cells_int : Tryd.prog.cellsOf 3 = 1 := by kernel_rfl
theorem cells_ints : Tryd.prog.cellsOf 73 = 1 := by kernel_rfl
/-- all are numbers of the machine. -/
def FitE (E : Es) : Prop := ∀ l ∈ E, ∀ t ∈ l, (Lit.int .i64 t).wf = true
section
variable {H : Type} {enc : TypeId × Value → H} {W : World}
set_option maxRecDepth 100000 in
theorem irow_of {cs : List Value} {fuel : Nat} {x : DataW H × List MemPlace} (hf : DataW.trod enc Tryd.prog W 0 (fun _ => true) true fuel 73 cs = some x) :
    ∃ (A : Option Addr) (n c : Nat) (l : List Int), cs = [.slice A n c] ∧ n = l.length ∧ n ≤ c ∧ c ≤ maxLen ∧ IRow W W.heap.size A l ∧ ∀ t ∈ l, (Lit.int .i64 t).wf = true := by
  rcases Go.Deep.open_slice1 Tryd.underlying73 cells_int hf with ⟨hcs, _⟩ | ⟨a, len, cap, m, n, V, D, Pl, hcs, _, hl, hm, hmm, _, hi⟩
  · exact ⟨none, 0, 0, [], hcs, rfl, Nat.le_refl _, Nat.zero_le _, .inl rfl, fun t h => by simp at h⟩
  · simp at hmm
    obtain ⟨f, hfs⟩ := Go.Deep.choose_lt (α := Int) (n := len) (p := fun i s => W.cell? (a.add i) = some (.int .i64 s) ∧ (Lit.int .i64 s).wf = true) (fun i him => by
      obtain ⟨h1, h2⟩ := hi i (by omega)
      obtain ⟨s, e, _, z⟩ := DataW.trod_int Tryd.underlying3 h2
      simp only [List.cons.injEq, and_true] at e
      exact ⟨s, by rw [h1, e], z⟩)
    refine ⟨some a, len, cap, (List.range len).map f, hcs, by simp, hl, hm, ?_, fun t ht => ?_⟩
    · rcases Nat.eq_zero_or_pos len with h0 | h0
      · exact .inl (by rw [h0]; rfl)
      · have spot : a.spot = none := by
          have c0 := (hfs 0 h0).1
          simpa [Addr.add] using World.cell?_spot c0
        obtain ⟨b, o, s⟩ := a
        simp at spot
        subst spot
        refine .inr ⟨b, o, rfl, ?_, fun j hj => ?_⟩
        · have c0 := (hfs 0 h0).1
          rw [add_at] at c0
          exact World.block_lt_of_cell? W ⟨b, o + 0, none⟩ c0
        · have hj' : j < len := by simpa using hj
          have c0 := (hfs j hj').1
          rw [add_at] at c0
          rw [c0, List.getD_eq_getElem?_getD, List.getElem?_map, List.getElem?_range hj']; rfl
    · rw [List.mem_map] at ht
      obtain ⟨i, hi2, rfl⟩ := ht
      exact (hfs i (List.mem_range.1 hi2)).2
set_option maxRecDepth 100000 in
theorem erow_of {cs : List Value} {fuel : Nat} {x : DataW H × List MemPlace} (hf : DataW.trod enc Tryd.prog W 0 (fun _ => true) true fuel 45 cs = some x) :
    ∃ (A : Option Addr) (n c : Nat) (L : List (List Int)), cs = [.slice A n c] ∧ n = L.length ∧ n ≤ c ∧ c ≤ maxLen ∧ ERow W W.heap.size A L ∧ FitE L := by
  rcases Go.Deep.open_slice1 Tryd.underlying45 cells_ints hf with ⟨hcs, _⟩ | ⟨a, len, cap, m, n, V, D, Pl, hcs, _, hl, hm, hmm, _, hi⟩
  · exact ⟨none, 0, 0, [], hcs, rfl, Nat.le_refl _, Nat.zero_le _, .inl rfl, fun l h => by simp at h⟩
  · simp at hmm
    obtain ⟨f, hfs⟩ := Go.Deep.choose_lt (α := Option Addr × Nat × Nat × List Int) (n := len) (p := fun i s => W.cell? (a.add i) = some (.slice s.1 s.2.1 s.2.2.1) ∧ s.2.1 = s.2.2.2.length ∧ s.2.1 ≤ s.2.2.1 ∧ s.2.2.1 ≤ maxLen ∧ IRow W W.heap.size s.1 s.2.2.2 ∧ ∀ t ∈ s.2.2.2, (Lit.int .i64 t).wf = true) (fun i him => by
      obtain ⟨h1, h2⟩ := hi i (by omega)
      obtain ⟨A', n', c', l, e, f1, f2, f3, f4, f5⟩ := irow_of h2
      simp only [List.cons.injEq, and_true] at e
      exact ⟨(A', n', c', l), by rw [h1, e], f1, f2, f3, f4, f5⟩)
    refine ⟨some a, len, cap, (List.range len).map (fun i => (f i).2.2.2), hcs, by simp, hl, hm, ?_, fun l hl2 => ?_⟩
    · rcases Nat.eq_zero_or_pos len with h0 | h0
      · exact .inl (by rw [h0]; rfl)
      · have spot : a.spot = none := by
          have c0 := (hfs 0 h0).1
          simpa [Addr.add] using World.cell?_spot c0
        obtain ⟨b, o, s⟩ := a
        simp at spot
        subst spot
        refine .inr ⟨b, o, rfl, ?_, fun j hj => ?_⟩
        · have c0 := (hfs 0 h0).1
          rw [add_at] at c0
          exact World.block_lt_of_cell? W ⟨b, o + 0, none⟩ c0
        · have hj' : j < len := by simpa using hj
          obtain ⟨c0, f1, f2, f3, f4, _⟩ := hfs j hj'
          rw [add_at] at c0
          have e : ((List.range len).map (fun i => (f i).2.2.2)).getD j [] = (f j).2.2.2 := by
            rw [List.getD_eq_getElem?_getD, List.getElem?_map, List.getElem?_range hj']; rfl
          rw [e]
          exact ⟨(f j).1, (f j).2.1, (f j).2.2.1, f1, f2, f3, f4, c0⟩
    · rw [List.mem_map] at hl2
      obtain ⟨i, hi2, rfl⟩ := hl2
      exact (hfs i (List.mem_range.1 hi2)).2.2.2.2.2
end

end Go.Proofs.YtlgakejjakeomaaDoor.Order
