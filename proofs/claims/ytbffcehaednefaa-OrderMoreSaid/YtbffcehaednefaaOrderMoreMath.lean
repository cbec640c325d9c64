/- An edge more, edges that only lead up, edges turned round: plain lists. -/
import Derived.Test.YtbffcehaednefaaOrderMath
namespace Go.Proofs.Ytbffcehaednefaa.Order
set_option linter.unusedVariables false
set_option linter.unusedSimpArgs false

theorem way_mono {E E' : Es} (h : ∀ p t, Edge E p t → Edge E' p t) {v w : Nat} (hw : Way E v w) : Way E' v w := by
  induction hw with
  | single h1 => exact .single (h _ _ h1)
  | tail _ h1 ih => exact .tail ih (h _ _ h1)
theorem way_trans {E : Es} {a b c : Nat} (h : Way E a b) (h2 : Way E b c) : Way E a c := by
  induction h2 with
  | single h1 => exact .tail h h1
  | tail _ h1 ih => exact .tail ih h1
theorem way_back {E E' : Es} (h : ∀ p t, Edge E p t → Edge E' t p) {v w : Nat} (hw : Way E v w) : Way E' w v := by
  induction hw with
  | single h1 => exact .single (h _ _ h1)
  | tail _ h1 ih => exact way_trans (.single (h _ _ h1)) ih
theorem way_up {E : Es} (h : ∀ p t, Edge E p t → p < t) {v w : Nat} (hw : Way E v w) : v < w := by
  induction hw with
  | single h1 => exact h _ _ h1
  | tail _ h1 ih => exact Nat.lt_trans ih (h _ _ h1)
theorem no_up {E : Es} (h : ∀ p t, Edge E p t → p < t) : ¬ Cyclic E := fun ⟨v, hv⟩ => Nat.lt_irrefl _ (way_up h hv)
theorem cyc_mono {E E' : Es} (h : ∀ p t, Edge E p t → Edge E' p t) : Cyclic E → Cyclic E' := fun ⟨v, hv⟩ => ⟨v, way_mono h hv⟩
theorem cyc_back {E E' : Es} (h : ∀ p t, Edge E p t ↔ Edge E' t p) : Cyclic E ↔ Cyclic E' :=
  ⟨fun ⟨v, hv⟩ => ⟨v, way_back (fun p t => (h p t).1) hv⟩, fun ⟨v, hv⟩ => ⟨v, way_back (fun p t => (h t p).2) hv⟩⟩

/-! ### rows told by a function -/
/-- n rows. -/
def rowsOf (n : Nat) (f : Nat → List Int) : Es := (List.range n).map f
theorem rowsOf_len (n : Nat) (f : Nat → List Int) : (rowsOf n f).length = n := by simp [rowsOf]
theorem rowsOf_at (n : Nat) (f : Nat → List Int) (p : Nat) (h : p < n) : (rowsOf n f).getD p [] = f p := by
  unfold rowsOf
  rw [List.getD_eq_getElem?_getD, List.getElem?_map, List.getElem?_range h]; rfl
theorem rowsOf_edge (n : Nat) (f : Nat → List Int) (p t : Nat) : Edge (rowsOf n f) p t ↔ p < n ∧ t < n ∧ (t : Int) ∈ f p := by
  unfold Edge
  rw [rowsOf_len]
  constructor
  · rintro ⟨h1, h2, h3⟩
    rw [rowsOf_at n f p h1] at h3
    exact ⟨h1, h2, h3⟩
  · rintro ⟨h1, h2, h3⟩
    exact ⟨h1, h2, by rw [rowsOf_at n f p h1]; exact h3⟩

/-! ### how much was gone along -/
def cnt (E : Es) : Nat → Nat
  | 0 => 0
  | k + 1 => cnt E k + (1 + (E.getD k []).length)
theorem cnt_mono (E : Es) {i j : Nat} (h : i ≤ j) : cnt E i ≤ cnt E j := by
  induction j with
  | zero => have : i = 0 := by omega
            rw [this]; exact Nat.le_refl _
  | succ j ih =>
    rcases Nat.lt_or_ge i (j + 1) with h1 | h1
    · have := ih (by omega)
      have e : cnt E (j + 1) = cnt E j + (1 + (E.getD j []).length) := rfl
      omega
    · have : i = j + 1 := by omega
      rw [this]; exact Nat.le_refl _
theorem cnt_le (E : Es) (B : Nat) (h : ∀ p, (E.getD p []).length ≤ B) (k : Nat) : cnt E k ≤ k * (B + 1) := by
  induction k with
  | zero => simp [cnt]
  | succ k ih => unfold cnt; have := h k; rw [Nat.succ_mul]; omega

/-! ### what was put into the rows -/
/-- the edges of the first k places, and the first j of the next one's. -/
def Gone (E : Es) (k j p : Nat) (t : Int) : Prop := (p < k ∧ t ∈ E.getD p []) ∨ (p = k ∧ t ∈ (E.getD k []).take j)
/-- rows of the edges turned round, of those that lead up. -/
structure Turned (E : Es) (n k j : Nat) (fb fu : Nat → List Int) : Prop where
  back : ∀ t : Nat, t < n → ∀ x, x ∈ fb t ↔ ∃ p : Nat, x = (p : Int) ∧ Gone E k j p t
  up : ∀ (p : Nat) x, x ∈ fu p → (p : Int) < x
  lb : ∀ t, (fb t).length ≤ cnt E k + j
  lu : ∀ t, (fu t).length ≤ cnt E k + j
theorem gone_step {E : Es} {k j : Nat} (hj : j < (E.getD k []).length) {p : Nat} {t : Int} : Gone E k (j + 1) p t ↔ Gone E k j p t ∨ (p = k ∧ t = (E.getD k []).getD j 0) := by
  have e : (E.getD k []).take (j + 1) = (E.getD k []).take j ++ [(E.getD k []).getD j 0] := by
    rw [List.take_succ_eq_append_getElem hj]
    have : (E.getD k [])[j] = (E.getD k []).getD j 0 := by rw [List.getD_eq_getElem?_getD (l := E.getD k []), List.getElem?_eq_getElem hj]; rfl
    rw [this]
  unfold Gone
  rw [e, List.mem_append, List.mem_singleton]
  constructor
  · rintro (h | ⟨h1, h2 | h2⟩)
    · exact .inl (.inl h)
    · exact .inl (.inr ⟨h1, h2⟩)
    · exact .inr ⟨h1, h2⟩
  · rintro ((h | ⟨h1, h2⟩) | ⟨h1, h2⟩)
    · exact .inl h
    · exact .inr ⟨h1, .inl h2⟩
    · exact .inr ⟨h1, .inr h2⟩
theorem gone_next {E : Es} {k : Nat} {p : Nat} {t : Int} : Gone E k (E.getD k []).length p t ↔ Gone E (k + 1) 0 p t := by
  unfold Gone
  rw [List.take_of_length_le (Nat.le_refl _), List.take_zero]
  constructor
  · rintro (⟨h1, h2⟩ | ⟨h1, h2⟩)
    · exact .inl ⟨by omega, h2⟩
    · exact .inl ⟨by omega, by rw [h1]; exact h2⟩
  · rintro (⟨h1, h2⟩ | ⟨h1, h2⟩)
    · rcases Nat.lt_or_ge p k with h3 | h3
      · exact .inl ⟨h3, h2⟩
      · obtain rfl : p = k := by omega
        exact .inr ⟨rfl, h2⟩
    · simp at h2
theorem Turned.first (E : Es) (n : Nat) : Turned E n 0 0 (fun _ => []) (fun _ => []) := by
  refine ⟨fun t _ x => ?_, fun p x h => by simp at h, fun t => by simp, fun t => by simp⟩
  simp [Gone]
theorem Turned.next {E : Es} {n k : Nat} {fb fu : Nat → List Int} (h : Turned E n k (E.getD k []).length fb fu) : Turned E n (k + 1) 0 fb fu :=
  ⟨fun t ht x => by rw [h.back t ht x]; exact exists_congr fun p => and_congr_right fun _ => gone_next, h.up, fun t => by have := h.lb t; unfold cnt; omega, fun t => by have := h.lu t; unfold cnt; omega⟩
/-- one row grows. -/
def upd {α : Type} (f : Nat → α) (p : Nat) (x : α) : Nat → α := fun q => if q = p then x else f q
theorem upd_at {α : Type} (f : Nat → α) (p : Nat) (x : α) : upd f p x p = x := by simp [upd]
theorem upd_ne {α : Type} (f : Nat → α) {p q : Nat} (x : α) (h : q ≠ p) : upd f p x q = f q := by simp [upd, h]
/-- an edge that leads to no place. -/
theorem Turned.out {E : Es} {n k j : Nat} {fb fu : Nat → List Int} (h : Turned E n k j fb fu) (hj : j < (E.getD k []).length) (ho : ∀ t : Nat, t < n → (E.getD k []).getD j 0 ≠ (t : Int)) : Turned E n k (j + 1) fb fu := by
  refine ⟨fun t ht x => ?_, h.up, fun t => by have := h.lb t; omega, fun t => by have := h.lu t; omega⟩
  rw [h.back t ht x]
  refine exists_congr fun p => and_congr_right fun _ => ?_
  rw [gone_step hj]
  exact ⟨.inl, fun e => e.elim id fun e => absurd e.2.symm (ho t ht)⟩
/-- an edge to a place. -/
theorem Turned.put {E : Es} {n k j u : Nat} {fb fu : Nat → List Int} (h : Turned E n k j fb fu) (hj : j < (E.getD k []).length) (hu : u < n) (hx : (E.getD k []).getD j 0 = (u : Int)) : Turned E n k (j + 1) (upd fb u (fb u ++ [(k : Int)])) fu := by
  refine ⟨fun t ht x => ?_, h.up, fun t => ?_, fun t => by have := h.lu t; omega⟩
  · by_cases e : t = u
    · subst e
      rw [upd_at, List.mem_append, List.mem_singleton, h.back t ht x]
      constructor
      · rintro (⟨p, h1, h2⟩ | h1)
        · exact ⟨p, h1, (gone_step hj).2 (.inl h2)⟩
        · exact ⟨k, h1, (gone_step hj).2 (.inr ⟨rfl, hx.symm⟩)⟩
      · rintro ⟨p, h1, h2⟩
        rcases (gone_step hj).1 h2 with h3 | ⟨h3, _⟩
        · exact .inl ⟨p, h1, h3⟩
        · exact .inr (by rw [h1, h3])
    · rw [upd_ne _ _ e, h.back t ht x]
      refine exists_congr fun p => and_congr_right fun _ => ?_
      rw [gone_step hj]
      refine ⟨.inl, fun h => h.elim id fun h => ?_⟩
      exfalso; rw [hx] at h; omega
  · by_cases e : t = u
    · rw [e, upd_at, List.length_append, List.length_singleton]; have := h.lb u; omega
    · rw [upd_ne _ _ e]; have := h.lb t; omega
/-- an edge that leads up. -/
theorem Turned.rise {E : Es} {n k j : Nat} {fb fu : Nat → List Int} {x : Int} (h : Turned E n k (j + 1) fb fu) (hl : (fu k).length ≤ cnt E k + j) (hx : (k : Int) < x) : Turned E n k (j + 1) fb (upd fu k (fu k ++ [x])) := by
  refine ⟨h.back, fun p y hy => ?_, h.lb, fun t => ?_⟩
  · by_cases e : p = k
    · subst e
      rw [upd_at, List.mem_append, List.mem_singleton] at hy
      rcases hy with hy | hy
      · exact h.up _ _ hy
      · rw [hy]; exact hx
    · rw [upd_ne _ _ e] at hy; exact h.up _ _ hy
  · by_cases e : t = k
    · rw [e, upd_at, List.length_append, List.length_singleton]; omega
    · rw [upd_ne _ _ e]; exact h.lu t
theorem Turned.cyc {E : Es} {n : Nat} {fb fu : Nat → List Int} (h : Turned E n n 0 fb fu) (hn : n = E.length) : (Cyclic E ↔ Cyclic (rowsOf n fb)) ∧ ¬ Cyclic (rowsOf n fu) := by
  constructor
  · refine cyc_back fun p t => ?_
    rw [rowsOf_edge]
    unfold Edge
    rw [← hn]
    constructor
    · rintro ⟨h1, h2, h3⟩
      exact ⟨h2, h1, (h.back t h2 _).2 ⟨p, rfl, .inl ⟨h1, h3⟩⟩⟩
    · rintro ⟨h1, h2, h3⟩
      obtain ⟨q, e, h4⟩ := (h.back t h1 _).1 h3
      have e' : p = q := by omega
      subst e'
      rcases h4 with ⟨_, h4⟩ | ⟨_, h4⟩
      · exact ⟨h2, h1, h4⟩
      · simp at h4
  · refine no_up fun p t he => ?_
    have := h.up p t ((rowsOf_edge n fu p t).1 he).2.2
    omega
theorem more_cyc {E : Es} {n : Nat} {f : Nat → List Int} (hn : n = E.length) (h : ∀ p, p < n → ∀ x, x ∈ E.getD p [] → x ∈ f p) : Cyclic E → Cyclic (rowsOf n f) := by
  refine cyc_mono fun p t he => ?_
  rw [rowsOf_edge]
  exact ⟨by rw [hn]; exact he.1, by rw [hn]; exact he.2.1, h p (by rw [hn]; exact he.1) _ he.2.2⟩

end Go.Proofs.Ytbffcehaednefaa.Order
