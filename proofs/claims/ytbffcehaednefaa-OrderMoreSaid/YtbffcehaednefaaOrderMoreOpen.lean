/- Rows of rows of numbers as an argument: no row is longer than the statement's reach. -/
import Derived.Test.YtbffcehaednefaaOrderOpen
namespace Go.Proofs.Ytbffcehaednefaa.Order
open Go.ChangeShapes Go.WideShapes Go.ChangeAt Go.RowKit
set_option linter.unusedVariables false
set_option linter.unusedSimpArgs false

theorem bytes_int : Try.prog.bytesOf 3 = 8 := by kernel_rfl
section
variable {H : Type} {enc : TypeId × Value → H} {W : World}
theorem weights_mem {P : Program} {e : TypeId} {q : Nat → Bool} {d : DataW H} : ∀ {l : List (DataW H)}, d ∈ l → (DataW.weightsAll P e l).all q = true → (d.weights P e).all q = true
  | [], h, _ => by simp at h
  | x :: r, h, hq => by
    rw [DataW.weightsAll, List.all_append, Bool.and_eq_true] at hq
    rcases List.mem_cons.1 h with h | h
    · rw [h]; exact hq.1
    · exact weights_mem h hq.2
set_option maxRecDepth 100000 in
theorem irow_w {A : Option Addr} {n c fuel : Nat} {x : DataW H × List MemPlace} (hf : DataW.trod enc Try.prog W 0 (fun _ => true) true fuel 52 [.slice A n c] = some x) (hw : (x.1.weights Try.prog 52).all (· ≤ reachBytes) = true) : n * 8 ≤ reachBytes := by
  rcases Go.Deep.open_slice1 Try.underlying52 cells_int hf with ⟨hcs, _⟩ | ⟨a, len, cap, m, nn, V, D, Pl, hcs, _, hl, hm, hmm, hx, hi⟩
  · simp only [List.cons.injEq, Value.slice.injEq, and_true] at hcs
    rw [hcs.2.1]; simp
  · simp only [List.cons.injEq, Value.slice.injEq, and_true] at hcs
    subst hx
    rw [DataW.weights, Try.underlying52] at hw
    simp only [List.all_cons, Bool.and_eq_true, decide_eq_true_eq, List.length_map, List.length_range, bytes_int] at hw
    have := hw.1
    have := hcs.2.1
    omega
set_option maxRecDepth 100000 in
theorem erow_w {cs : List Value} {fuel : Nat} {x : DataW H × List MemPlace} (hf : DataW.trod enc Try.prog W 0 (fun _ => true) true fuel 51 cs = some x) (hw : (x.1.weights Try.prog 51).all (· ≤ reachBytes) = true) :
    ∃ (A : Option Addr) (n c : Nat) (L : List (List Int)), cs = [.slice A n c] ∧ n = L.length ∧ n ≤ c ∧ c ≤ maxLen ∧ ERow W W.heap.size A L ∧ ∀ p, (L.getD p []).length ≤ 140737488355328 := by
  rcases Go.Deep.open_slice1 Try.underlying51 cells_ints hf with ⟨hcs, _⟩ | ⟨a, len, cap, m, n, V, D, Pl, hcs, _, hl, hm, hmm, hx, hi⟩
  · exact ⟨none, 0, 0, [], hcs, rfl, Nat.le_refl _, Nat.zero_le _, .inl rfl, fun p => by simp⟩
  · simp at hmm
    subst hx
    rw [DataW.weights, Try.underlying51] at hw
    simp only [List.all_cons, Bool.and_eq_true, List.all_append] at hw
    obtain ⟨f, hfs⟩ := Go.Deep.choose_lt (α := Option Addr × Nat × Nat × List Int) (n := len) (p := fun i s => W.cell? (a.add i) = some (.slice s.1 s.2.1 s.2.2.1) ∧ s.2.1 = s.2.2.2.length ∧ s.2.1 ≤ s.2.2.1 ∧ s.2.2.1 ≤ maxLen ∧ IRow W W.heap.size s.1 s.2.2.2 ∧ s.2.2.2.length ≤ 140737488355328) (fun i him => by
      obtain ⟨h1, h2⟩ := hi i (by omega)
      obtain ⟨A', n', c', l, e, f1, f2, f3, f4, f5⟩ := irow_of h2
      rw [e] at h2
      have hz := irow_w h2 (weights_mem (List.mem_map.2 ⟨i, List.mem_range.2 him, rfl⟩) hw.2.1)
      simp only [List.cons.injEq, and_true] at e
      refine ⟨(A', n', c', l), by rw [h1, e], f1, f2, f3, f4, ?_⟩
      show l.length ≤ _
      unfold reachBytes at hz
      omega)
    refine ⟨some a, len, cap, (List.range len).map (fun i => (f i).2.2.2), hcs, by simp, hl, hm, ?_, fun p => ?_⟩
    · rcases Nat.eq_zero_or_pos len with h0 | h0
      · exact .inl (by rw [h0]; rfl)
      · have spot : a.spot = none := by
          have c0 := (hfs 0 h0).1
          simpa [Addr.add] using World.cell?_spot c0
        obtain ⟨b, o, s⟩ := a
        simp at spot
        subst spot
        refine .inr ⟨b, o, rfl, ?_, fun j hj => ?_⟩
        · have c0 := (hfs 0 h0).1
          rw [add_at] at c0
          exact World.block_lt_of_cell? W ⟨b, o + 0, none⟩ c0
        · have hj' : j < len := by simpa using hj
          obtain ⟨c0, f1, f2, f3, f4, _⟩ := hfs j hj'
          rw [add_at] at c0
          have e : ((List.range len).map (fun i => (f i).2.2.2)).getD j [] = (f j).2.2.2 := by
            rw [List.getD_eq_getElem?_getD, List.getElem?_map, List.getElem?_range hj']; rfl
          rw [e]
          exact ⟨(f j).1, (f j).2.1, (f j).2.2.1, f1, f2, f3, f4, c0⟩
    · rcases Nat.lt_or_ge p len with h | h
      · have e : ((List.range len).map (fun i => (f i).2.2.2)).getD p [] = (f p).2.2.2 := by
          rw [List.getD_eq_getElem?_getD, List.getElem?_map, List.getElem?_range h]; rfl
        rw [e]; exact (hfs p h).2.2.2.2.2
      · rw [List.getD_eq_getElem?_getD, List.getElem?_eq_none (by simpa using h)]; simp
end

end Go.Proofs.Ytbffcehaednefaa.Order
