/- Rows of texts, of settings and of variants as arguments: what is read of them lies in cells. -/
import Derived.Test.YtbffcehaednefaaVariantJ
import Derived.Lib.SmallJoins
import Derived.ProofKit
import Derived.OpenShut
import Derived.Deep.Slices
import Derived.Deep.Strs
import Derived.ChangeMaps5
namespace Go.Proofs.Ytbffcehaednefaa.Variant
open Go.ChangeShapes Go.WideShapes Go.ChangeAt Go.RowKit Go.ChangeMaps
set_option linter.unusedVariables false

theorem add_at (b o k : Nat) : (⟨b, o, none⟩ : Addr).add k = ⟨b, o + k, none⟩ := by
  unfold Addr.add
  split
  · rename_i e; subst e; rfl
  · rfl
theorem cells_string : Try.prog.cellsOf 9 = 1 := by kernel_rfl
theorem cells_strings : Try.prog.cellsOf 28 = 1 := by kernel_rfl
theorem cells_variant : Try.prog.cellsOf 30 = 2 := by kernel_rfl
theorem cells_setting : Try.prog.cellsOf 33 = 2 := by kernel_rfl
section
variable {H : Type} {enc : TypeId × Value → H} {W : World}

set_option maxRecDepth 100000 in
theorem srow_of {cs : List Value} {fuel : Nat} {x : DataW H × List MemPlace} (hf : DataW.trod enc Try.prog W 0 (fun _ => true) true fuel 28 cs = some x) :
    ∃ (A : Option Addr) (n c : Nat) (l : List ByteArray), cs = [.slice A n c] ∧ n = l.length ∧ n ≤ c ∧ c ≤ maxLen ∧ SRow W W.heap.size A l ∧ ∀ i, (l.getD i ByteArray.empty).size ≤ maxLen := by
  rcases Go.Deep.open_slice1 Try.underlying28 cells_string hf with ⟨hcs, _⟩ | ⟨a, len, cap, m, n, V, D, Pl, hcs, _, hl, hm, hmm, _, hi⟩
  · exact ⟨none, 0, 0, [], hcs, rfl, Nat.le_refl _, Nat.zero_le _, .inl rfl, fun i => by simp⟩
  · simp at hmm
    obtain ⟨f, hfs⟩ := Go.Deep.choose_lt (α := ByteArray) (n := len) (p := fun i s => W.cell? (a.add i) = some (.string s) ∧ s.size ≤ maxLen) (fun i him => by
      obtain ⟨h1, h2⟩ := hi i (by omega)
      obtain ⟨s, e, _, z⟩ := DataW.trod_string Try.underlying9 h2
      simp only [List.cons.injEq, and_true] at e
      exact ⟨s, by rw [h1, e], z⟩)
    refine ⟨some a, len, cap, (List.range len).map f, hcs, by simp, hl, hm, ?_, fun i => ?_⟩
    · rcases Nat.eq_zero_or_pos len with h0 | h0
      · exact .inl (by rw [h0]; rfl)
      · have spot : a.spot = none := by
          have c0 := (hfs 0 h0).1
          simpa [Addr.add] using World.cell?_spot c0
        obtain ⟨b, o, s⟩ := a
        simp at spot
        subst spot
        refine .inr ⟨b, o, rfl, ?_, fun j hj => ?_⟩
        · have c0 := (hfs 0 h0).1
          rw [add_at] at c0
          exact World.block_lt_of_cell? W ⟨b, o + 0, none⟩ c0
        · have hj' : j < len := by simpa using hj
          have c0 := (hfs j hj').1
          rw [add_at] at c0
          rw [c0, List.getD_eq_getElem?_getD, List.getElem?_map, List.getElem?_range hj']; rfl
    · rcases Nat.lt_or_ge i len with h | h
      · rw [List.getD_eq_getElem?_getD, List.getElem?_map, List.getElem?_range h]; exact (hfs i h).2
      · rw [List.getD_eq_getElem?_getD, List.getElem?_eq_none (by simpa using h)]; simp

set_option maxRecDepth 100000 in
theorem trow_of {cs : List Value} {fuel : Nat} {x : DataW H × List MemPlace} (hf : DataW.trod enc Try.prog W 0 (fun _ => true) true fuel 31 cs = some x) :
    ∃ (A : Option Addr) (n c : Nat) (T : List Tr), cs = [.slice A n c] ∧ n = T.length ∧ n ≤ c ∧ c ≤ maxLen ∧ TRow W W.heap.size A T ∧ ∀ i, (T.getD i tr0).1.size ≤ maxLen ∧ (T.getD i tr0).2.size ≤ maxLen := by
  rcases Go.Deep.open_slice Try.underlying31 hf with ⟨hcs, _⟩ | ⟨a, len, cap, m, n, D, Pl, hcs, _, hl, hm, hmm, _, hi⟩
  · exact ⟨none, 0, 0, [], hcs, rfl, Nat.le_refl _, Nat.zero_le _, .inl rfl, fun i => by simp [tr0]⟩
  · simp at hmm
    obtain ⟨f, hfs⟩ := Go.Deep.choose_lt (α := Tr) (n := len) (p := fun i s => (W.cell? ((a.add (i * 2)).add 0) = some (.string s.1) ∧ W.cell? ((a.add (i * 2)).add 1) = some (.string s.2)) ∧ s.1.size ≤ maxLen ∧ s.2.size ≤ maxLen) (fun i him => by
      obtain ⟨ds, hc, ht⟩ := hi i (by omega)
      rw [cells_setting] at hc
      obtain ⟨_, hlen, hat⟩ := World.cells?_some hc
      obtain ⟨y0, y1, n', _, _, t0, t1⟩ := trod_struct2 Try.underlying33 ht
      obtain ⟨c0, c1, rfl⟩ : ∃ c0 c1, ds = [c0, c1] := by
        match ds, hlen with
        | [c0, c1], _ => exact ⟨c0, c1, rfl⟩
      simp only [cells_string, List.drop_zero, List.drop_succ_cons, List.take_succ_cons, List.take_zero] at t0 t1
      obtain ⟨s0, e0, _, z0⟩ := DataW.trod_string Try.underlying9 t0
      obtain ⟨s1, e1, _, z1⟩ := DataW.trod_string Try.underlying9 t1
      simp only [List.cons.injEq, and_true] at e0 e1
      subst e0 e1
      exact ⟨(s0, s1), ⟨hat 0 (by omega), hat 1 (by omega)⟩, z0, z1⟩)
    refine ⟨some a, len, cap, (List.range len).map f, hcs, by simp, hl, hm, ?_, fun i => ?_⟩
    · rcases Nat.eq_zero_or_pos len with h0 | h0
      · exact .inl (by rw [h0]; rfl)
      · have spot : a.spot = none := by
          have c0 := (hfs 0 h0).1.1
          simpa [Addr.add] using World.cell?_spot c0
        obtain ⟨b, o, s⟩ := a
        simp at spot
        subst spot
        refine .inr ⟨b, o, rfl, ?_, fun j hj => ?_⟩
        · have c0 := (hfs 0 h0).1.1
          rw [add_at, add_at] at c0
          exact World.block_lt_of_cell? W ⟨b, _, none⟩ c0
        · have hj' : j < len := by simpa using hj
          obtain ⟨c0, c1⟩ := (hfs j hj').1
          rw [add_at, add_at] at c0 c1
          rw [List.getD_eq_getElem?_getD, List.getElem?_map, List.getElem?_range hj']
          exact ⟨c0, c1⟩
    · rcases Nat.lt_or_ge i len with h | h
      · rw [List.getD_eq_getElem?_getD, List.getElem?_map, List.getElem?_range h]; exact (hfs i h).2
      · rw [List.getD_eq_getElem?_getD, List.getElem?_eq_none (by simpa using h)]; simp [tr0]

set_option maxRecDepth 100000 in
theorem vrow_of {cs : List Value} {fuel : Nat} {x : DataW H × List MemPlace} (hf : DataW.trod enc Try.prog W 0 (fun _ => true) true fuel 24 cs = some x) :
    ∃ (A : Option Addr) (n c : Nat) (L : List Vr), cs = [.slice A n c] ∧ n = L.length ∧ n ≤ c ∧ c ≤ maxLen ∧ VRow W W.heap.size A L ∧ Fit L := by
  rcases Go.Deep.open_slice Try.underlying24 hf with ⟨hcs, _⟩ | ⟨a, len, cap, m, n, D, Pl, hcs, _, hl, hm, hmm, _, hi⟩
  · exact ⟨none, 0, 0, [], hcs, rfl, Nat.le_refl _, Nat.zero_le _, .inl rfl, fun j i => by simp [vr0]⟩
  · simp at hmm
    obtain ⟨f, hfs⟩ := Go.Deep.choose_lt (α := Vr) (n := len) (p := fun i s => ∃ A' n' c', n' = s.2.length ∧ n' ≤ c' ∧ c' ≤ maxLen ∧ SRow W W.heap.size A' s.2 ∧ W.cell? ((a.add (i * 2)).add 0) = some (.string s.1) ∧ W.cell? ((a.add (i * 2)).add 1) = some (.slice A' n' c') ∧ ∀ j, (s.2.getD j ByteArray.empty).size ≤ maxLen) (fun i him => by
      obtain ⟨ds, hc, ht⟩ := hi i (by omega)
      rw [cells_variant] at hc
      obtain ⟨_, hlen, hat⟩ := World.cells?_some hc
      obtain ⟨y0, y1, n', _, _, t0, t1⟩ := trod_struct2 Try.underlying30 ht
      obtain ⟨c0, c1, rfl⟩ : ∃ c0 c1, ds = [c0, c1] := by
        match ds, hlen with
        | [c0, c1], _ => exact ⟨c0, c1, rfl⟩
      simp only [cells_string, cells_strings, List.drop_zero, List.drop_succ_cons, List.take_succ_cons, List.take_zero] at t0 t1
      obtain ⟨s0, e0, _, z0⟩ := DataW.trod_string Try.underlying9 t0
      obtain ⟨A', n', c', l, e1, h1, h2, h3, h4, h5⟩ := srow_of t1
      simp only [List.cons.injEq, and_true] at e0 e1
      subst e0 e1
      exact ⟨(s0, l), A', n', c', h1, h2, h3, h4, hat 0 (by omega), hat 1 (by omega), h5⟩)
    refine ⟨some a, len, cap, (List.range len).map f, hcs, by simp, hl, hm, ?_, fun i => ?_⟩
    · rcases Nat.eq_zero_or_pos len with h0 | h0
      · exact .inl (by rw [h0]; rfl)
      · have spot : a.spot = none := by
          obtain ⟨_, _, _, _, _, _, _, c0, _⟩ := hfs 0 h0
          simpa [Addr.add] using World.cell?_spot c0
        obtain ⟨b, o, s⟩ := a
        simp at spot
        subst spot
        refine .inr ⟨b, o, rfl, ?_, fun j hj => ?_⟩
        · obtain ⟨_, _, _, _, _, _, _, c0, _⟩ := hfs 0 h0
          rw [add_at, add_at] at c0
          exact World.block_lt_of_cell? W ⟨b, _, none⟩ c0
        · have hj' : j < len := by simpa using hj
          obtain ⟨A', n', c', h1, h2, h3, h4, c0, c1, h5⟩ := hfs j hj'
          rw [add_at, add_at] at c0 c1
          rw [List.getD_eq_getElem?_getD, List.getElem?_map, List.getElem?_range hj']
          exact ⟨A', n', c', h1, h2, h3, h4, c0, c1⟩
    · rcases Nat.lt_or_ge i len with h | h
      · rw [List.getD_eq_getElem?_getD, List.getElem?_map, List.getElem?_range h]
        obtain ⟨_, _, _, _, _, _, _, _, _, h5⟩ := hfs i h
        exact h5
      · rw [List.getD_eq_getElem?_getD, List.getElem?_eq_none (by simpa using h)]; simp [vr0]
end

end Go.Proofs.Ytbffcehaednefaa.Variant
