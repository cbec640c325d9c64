/- The law that clauses hold together just if both parts do, walked. -/
import Derived.Test.YtcjcnhnpjcgcmaaCnfM
import Derived.Test.YtcjcnhnpjcgcmaaCnfFormsWalk
namespace Go.Proofs.Ytcjcnhnpjcgcmaa.Cnf
set_option linter.unusedVariables false
set_option linter.unusedSimpArgs false
open Go.RowKit Go.Lib
open Go.Proofs.Ytcjcnhnpjcgcmaa.Order (IRow ERow add_at)

/-- a slice that holds these numbers. -/
def Good (w : World) (B : Nat) (v : Value) (l : List Int) : Prop := ∃ A n c, v = .slice A n c ∧ n = l.length ∧ n ≤ c ∧ c ≤ maxLen ∧ IRow w B A l
theorem Good.below {w w' : World} {B : Nat} {v : Value} {l : List Int} (h : Good w B v l) (hb : Below B w w') : Good w' B v l := by
  obtain ⟨A, n, c, e, h1, h2, h3, h4⟩ := h
  exact ⟨A, n, c, e, h1, h2, h3, h4.below (Nat.le_refl _) hb⟩
/-- slices that hold these rows. -/
def Goods (w : World) (B : Nat) (VS : List Value) (E : List (List Int)) : Prop := VS.length = E.length ∧ ∀ i, i < E.length → ∃ V, VS[i]? = some V ∧ Good w B V (E.getD i [])
theorem Goods.below {w w' : World} {B : Nat} {VS : List Value} {E : List (List Int)} (h : Goods w B VS E) (hb : Below B w w') : Goods w' B VS E :=
  ⟨h.1, fun i hi => by obtain ⟨V, h1, h2⟩ := h.2 i hi; exact ⟨V, h1, h2.below hb⟩⟩
theorem goods_app {w : World} {B : Nat} {V1 V2 : List Value} {a b : List (List Int)} (h1 : Goods w B V1 a) (h2 : Goods w B V2 b) : Goods w B (V1 ++ V2) (a ++ b) := by
  refine ⟨by simp [h1.1, h2.1], fun i hi => ?_⟩
  rcases Nat.lt_or_ge i a.length with h | h
  · obtain ⟨V, e1, e2⟩ := h1.2 i h
    refine ⟨V, by rw [List.getElem?_append_left (by have := h1.1; omega)]; exact e1, ?_⟩
    rw [List.getD_eq_getElem?_getD, List.getElem?_append_left h, ← List.getD_eq_getElem?_getD]; exact e2
  · obtain ⟨V, e1, e2⟩ := h2.2 (i - a.length) (by simp at hi; omega)
    refine ⟨V, by rw [List.getElem?_append_right (by have := h1.1; omega), h1.1]; exact e1, ?_⟩
    rw [List.getD_eq_getElem?_getD, List.getElem?_append_right h, ← List.getD_eq_getElem?_getD]; exact e2
theorem add_block (ad : Addr) (j : Nat) : (ad.add j).block = ad.block := by unfold Addr.add; split <;> rfl
theorem goods_of {w : World} {B : Nat} {A : Option Addr} {E : List (List Int)} (h : ERow w B A E) : ∃ VS, Goods w B VS E ∧ (VS = [] ∨ ∃ ad, A = some ad ∧ ad.block < B ∧ ∀ j u, VS[j]? = some u → w.cell? (ad.add j) = some u) ∧ (∀ u ∈ VS, u.oneCell' = true) := by
  rcases h with h | ⟨b, o, e, hlt, hc⟩
  · subst h
    exact ⟨[], ⟨rfl, fun i hi => absurd hi (Nat.not_lt_zero _)⟩, .inl rfl, fun u hu => by cases hu⟩
  · have hex : ∀ j : Nat, ∃ V : Value, j < E.length → (Good w B V (E.getD j []) ∧ w.cell? ⟨b, o + j, none⟩ = some V) := fun j => by
      by_cases hj : j < E.length
      · obtain ⟨A', n, c, h1, h2, h3, h4, h5⟩ := hc j hj
        exact ⟨.slice A' n c, fun _ => ⟨⟨A', n, c, rfl, h1, h2, h3, h4⟩, h5⟩⟩
      · exact ⟨.slice none 0 0, fun h => absurd h hj⟩
    obtain ⟨f, hf⟩ : ∃ f : Nat → Value, ∀ j, j < E.length → (Good w B (f j) (E.getD j []) ∧ w.cell? ⟨b, o + j, none⟩ = some (f j)) := ⟨fun j => (hex j).choose, fun j hj => (hex j).choose_spec hj⟩
    refine ⟨(List.range E.length).map f, ⟨by simp, fun i hi => ⟨f i, by simp [hi], (hf i hi).1⟩⟩, .inr ⟨_, e, hlt, fun j u hu => ?_⟩, fun u hu => ?_⟩
    · have hj : j < E.length := by have := (List.getElem?_eq_some_iff.1 hu).1; simpa using this
      rw [add_at, (hf j hj).2]
      rw [List.getElem?_map, List.getElem?_range hj] at hu
      simpa using hu
    · obtain ⟨j, hj, rfl⟩ := List.mem_map.1 hu
      obtain ⟨A', n, c, e, _⟩ := (hf j (List.mem_range.1 hj)).1
      rw [e]; rfl
theorem news_below {w W : World} {B : Nat} {A : Option Addr} {VS : List Value} (h : VS = [] ∨ ∃ ad, A = some ad ∧ ad.block < B ∧ ∀ j u, VS[j]? = some u → w.cell? (ad.add j) = some u) (hb : Below B w W) :
    VS = [] ∨ ∃ ad, A = some ad ∧ ∀ j u, VS[j]? = some u → W.cell? (ad.add j) = some u := by
  rcases h with h | ⟨ad, h1, h2, h3⟩
  · exact .inl h
  · exact .inr ⟨ad, h1, fun j u hu => (hb.cell (by rw [add_block]; exact h2)).trans (h3 j u hu)⟩
theorem erow_own {w : World} {B base n : Nat} {A : Option Addr} {c : Nat} {VS : List Value} {E : List (List Int)} (h : w.ownsRow base 22 1 (.slice A n c) n VS) (hg : Goods w B VS E) (hB : B ≤ w.heap.size) : n = E.length ∧ ERow w w.heap.size A E := by
  have hl : n = E.length := by have := h.1; have := hg.1; omega
  refine ⟨hl, ?_⟩
  rcases h.2 with ⟨_, hk⟩ | ⟨g, cap, cur, e, hb', hh, hc, hm, hs, ht⟩
  · exact .inl (List.length_eq_zero_iff.1 (by omega))
  · injection e with e1 e2 e3
    subst e1
    refine .inr ⟨g, 0, rfl, lt_of_block hh, fun j hj => ?_⟩
    obtain ⟨V, v1, A', n', c', rfl, k1, k2, k3, k4⟩ := hg.2 j hj
    refine ⟨A', n', c', k1, k2, k3, k4.below hB (Below.refl _ _), ?_⟩
    rw [Nat.zero_add]
    refine blk_cell hh ?_
    rw [← ht, List.getElem?_take] at v1
    split at v1
    · simpa using v1
    · cases v1
theorem own_below1 {e : TypeId} {w w' : World} {base n : Nat} {v : Value} {xs : List Value} (h : w.ownsRow base e 1 v n xs) (hb : Below w.heap.size w w') : w'.ownsRow base e 1 v n xs := keep_of h hb
theorem own_madeE {w : World} : (w.alloc (.cells #[] 22)).ownsRow w.heap.size 22 1 (.slice (some ⟨w.heap.size, 0, none⟩) 0 0) 0 [] :=
  ⟨rfl, .inr ⟨w.heap.size, 0, #[], rfl, Nat.le_refl _, heap_alloc_new w _, Nat.le_refl _, Nat.zero_le _, rfl, rfl⟩⟩

/-- clauses with more literals each. -/
def wideE (E : List (List Int)) (more : List Int) : List (List Int) := E.map (· ++ more)
theorem wide_holds {E : List (List Int)} {more : List Int} {m : List Bool} (h : holdsB m E = true) : holdsB m (wideE E more) = true := by
  unfold holdsB wideE at *
  rw [List.all_eq_true] at *
  intro c hc
  obtain ⟨l, hl, rfl⟩ := List.mem_map.1 hc
  have := h l hl
  simp only [List.any_append, this, Bool.true_or]
theorem holds_app (a b : List (List Int)) (m : List Bool) : holdsB m (a ++ b) = (holdsB m a && holdsB m b) := by unfold holdsB; rw [List.all_append]
/-- the first k wide, the others as they were. -/
def mixE (E : List (List Int)) (more : List Int) (k : Nat) : List (List Int) := wideE (E.take k) more ++ E.drop k

/-- block G: slices; the first k of rows of their own with more literals, the others those of the clauses. -/
structure JR (N G n k : Nat) (E : List (List Int)) (more : List Int) (VS : List Value) (w : World) : Prop where
  row : ∃ cells : Array Value, w.heap[G]? = some (.cells cells 22 (0, 0)) ∧ n ≤ cells.size ∧ (∀ j, j < k → ∃ V, cells[j]? = some V ∧ w.ownsRow N 3 1 V (E.getD j [] ++ more).length (rowV (E.getD j [] ++ more)) ∧ V.ownBlock ≠ some G) ∧
    ∀ j, k ≤ j → j < n → ∃ V, cells[j]? = some V ∧ VS[j]? = some V
theorem JR.below {N G n k : Nat} {E : List (List Int)} {more : List Int} {VS : List Value} {w w' : World} (h : JR N G n k E more VS w) (hb : Below w.heap.size w w') : JR N G n k E more VS w' := by
  obtain ⟨cells, h1, h2, h3, h4⟩ := h.row
  refine ⟨cells, (hb.block G (lt_of_block h1)).trans h1, h2, fun j hj => ?_, h4⟩
  obtain ⟨V, e1, e2, e3⟩ := h3 j hj
  exact ⟨V, e1, keep_of e2 hb, e3⟩
theorem JR.step {N G n k : Nat} {E : List (List Int)} {more : List Int} {VS : List Value} {w w1 : World} {v : Value} {B : Nat} (h : JR N G n k E more VS w) (hk : k < n) (hb : Below B w w1) (hB : B = w.heap.size) (hN : N ≤ w.heap.size)
    (hv : w1.ownsRow w.heap.size 3 1 v (E.getD k [] ++ more).length (rowV (E.getD k [] ++ more))) : JR N G n (k + 1) E more VS (w1.setCell ⟨G, k, none⟩ v) := by
  subst hB
  obtain ⟨cells, h1, h2, h3, h4⟩ := h.row
  have hG := lt_of_block h1
  have h1' : w1.heap[G]? = some (.cells cells 22 (0, 0)) := (hb.block G hG).trans h1
  have hvlt := hv.lt
  have vg : v.ownBlock ≠ some G := fun e => by have := (hvlt G e).1; omega
  have keep : ∀ {e : TypeId} {base n : Nat} {u : Value} {xs : List Value}, w1.ownsRow base e 1 u n xs → u.ownBlock ≠ some G → (w1.setCell ⟨G, k, none⟩ v).ownsRow base e 1 u n xs := fun ho hne =>
    ho.kept (grown_set w1 ⟨G, k, none⟩ v) (.inr (by simpa using hne))
  refine ⟨cells.setIfInBounds k v, blk_set k v h1', by simpa using h2, fun j hj => ?_, fun j hj hjn => ?_⟩
  · by_cases e : j = k
    · subst e
      exact ⟨v, by rw [Array.getElem?_setIfInBounds_self_of_lt (by omega)], keep (own_low hv hN) vg, vg⟩
    · obtain ⟨V, e1, e2, e3⟩ := h3 j (by omega)
      exact ⟨V, by rw [Array.getElem?_setIfInBounds_ne (fun x => e x.symm)]; exact e1, keep (keep_of e2 hb) e3, e3⟩
  · obtain ⟨V, e1, e2⟩ := h4 j (by omega) hjn
    exact ⟨V, by rw [Array.getElem?_setIfInBounds_ne (by omega)]; exact e1, e2⟩
theorem JR.first {N G n cap base : Nat} {E : List (List Int)} {more : List Int} {VS : List Value} {w : World} (h : w.ownsRow base 22 1 (.slice (some ⟨G, 0, none⟩) n cap) n VS) : JR N G n 0 E more VS w := by
  have hl : VS.length = n := by have := h.1; simpa using this
  rcases h.2 with ⟨e, _⟩ | ⟨g, cap, cur, e, hb', hh, hc, hm, hs, ht⟩
  · cases e
  · injection e with e1 e2 e3
    injection e1 with e1
    injection e1 with e1 _ _
    subst e1
    have hsz : n ≤ cur.size := by omega
    refine ⟨cur, hh, hsz, fun j hj => absurd hj (Nat.not_lt_zero _), fun j _ hj => ?_⟩
    refine ⟨cur[j]'(by omega), Array.getElem?_eq_getElem (by omega), ?_⟩
    rw [← ht, List.getElem?_take, if_pos (by omega)]
    simp [show j < cur.size by omega]
theorem wide_at {E : List (List Int)} {more : List Int} {j : Nat} (hj : j < E.length) : (wideE E more).getD j [] = E.getD j [] ++ more := by
  unfold wideE
  rw [List.getD_eq_getElem?_getD, List.getElem?_map, List.getD_eq_getElem?_getD, List.getElem?_eq_getElem hj]
  rfl
theorem JR.erow {N G n : Nat} {E : List (List Int)} {more : List Int} {VS : List Value} {w : World} (h : JR N G n n E more VS w) (hl : E.length = n) : ERow w w.heap.size (some ⟨G, 0, none⟩) (wideE E more) := by
  obtain ⟨cells, h1, h2, h3, h4⟩ := h.row
  refine .inr ⟨G, 0, rfl, lt_of_block h1, fun j hj => ?_⟩
  have hj' : j < E.length := by unfold wideE at hj; simpa using hj
  obtain ⟨V, e1, e2, e3⟩ := h3 j (by omega)
  obtain ⟨A, c, rfl, k1, k2, k3, k4, _⟩ := own_irow e2
  rw [wide_at hj']
  exact ⟨A, _, c, rfl, by omega, k3, k4, by rw [Nat.zero_add]; exact blk_cell h1 e1⟩

end Go.Proofs.Ytcjcnhnpjcgcmaa.Cnf
