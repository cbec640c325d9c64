/- What was taken out of a heap, and put in again, comes in the same order. -/
import Derived.Test.YtapconhgcoefeaaHeapAll
namespace Go.Proofs.Ytapconhgcoefeaa.Heap
set_option linter.unusedVariables false
open Go.RowKit

/-- those that aren't among some. -/
def notin (l : List Nat) : Nat → Bool := fun x => !l.contains x
theorem notin_nil : notin [] = fun _ => true := by funext x; simp [notin]
theorem notin_snoc (l : List Nat) (a x : Nat) : (notin l x && decide (x ≠ a)) = notin (l ++ [a]) x := by
  simp only [notin, List.contains_eq_mem, List.mem_append, List.mem_singleton]
  by_cases h1 : x ∈ l <;> by_cases h2 : x = a <;> simp [h1, h2]

/-- the order in which all come out. -/
structure Order (n : Nat) (sc : List Nat) (fl : List Nat) : Prop where
  best : ∀ k, k < fl.length → Best n sc (notin (fl.take k)) (fl.getD k 0)
theorem Order.nil (n : Nat) (sc : List Nat) : Order n sc [] := ⟨fun k h => by simp at h⟩
theorem getD_app (l : List Nat) (a k : Nat) (h : k < l.length) : (l ++ [a]).getD k 0 = l.getD k 0 := by
  simp [List.getD_eq_getElem?_getD, List.getElem?_append, h]
theorem getD_last (l : List Nat) (a : Nat) : (l ++ [a]).getD l.length 0 = a := by simp [List.getD_eq_getElem?_getD]
theorem take_snoc (l : List Nat) (k : Nat) (h : k < l.length) : l.take (k + 1) = l.take k ++ [l.getD k 0] := by
  rw [List.take_succ_eq_append_getElem h]
  simp [List.getD_eq_getElem?_getD, h]
theorem Order.snoc {n : Nat} {sc : List Nat} {fl : List Nat} {a : Nat} (h : Order n sc fl) (hb : Best n sc (notin fl) a) : Order n sc (fl ++ [a]) := by
  constructor
  intro k hk
  simp at hk
  by_cases e : k = fl.length
  · subst e
    rw [getD_last, List.take_left]
    exact hb
  · have hk' : k < fl.length := by omega
    rw [getD_app _ _ _ hk', List.take_append_of_le_length (by omega)]
    exact h.best k hk'
theorem Order.inj {n : Nat} {sc : List Nat} {fl : List Nat} (h : Order n sc fl) {i k : Nat} (hi : i < fl.length) (hk : k < fl.length) (e : fl.getD i 0 = fl.getD k 0) : i = k := by
  have one : ∀ i k, i < k → k < fl.length → fl.getD i 0 = fl.getD k 0 → False := by
    intro i k hik hk e
    have m := (h.best k hk).mem
    rw [← e] at m
    simp only [notin, List.contains_eq_mem, Bool.not_eq_true', decide_eq_false_iff_not] at m
    apply m
    rw [List.mem_iff_getElem]
    refine ⟨i, by rw [List.length_take]; omega, ?_⟩
    rw [List.getElem_take, List.getD_eq_getElem?_getD, List.getElem?_eq_getElem (by omega)]
    rfl
  rcases Nat.lt_trichotomy i k with x | x | x
  · exact (one i k x hk e).elim
  · exact x
  · exact (one k i x hi e.symm).elim

/-- those that were put in again, of the order turned by t. -/
def putIn (fl : List Nat) (n t i : Nat) : Nat → Bool := fun x => (List.range i).any fun k => fl.getD ((k + t) % n) 0 == x
theorem putIn_succ (fl : List Nat) (n t i x : Nat) : (putIn fl n t i x || decide (x = fl.getD ((i + t) % n) 0)) = putIn fl n t (i + 1) x := by
  unfold putIn
  rw [List.range_succ, List.any_append]
  simp only [List.any_cons, List.any_nil, Bool.or_false]
  congr 1
  rw [Bool.eq_iff_iff, decide_eq_true_iff, beq_iff_eq]
  exact eq_comm
theorem mod_inj {n t i k : Nat} (hi : i < n) (hk : k < n) (e : (k + t) % n = (i + t) % n) : k = i := by
  have h1 := Nat.div_add_mod (k + t) n
  have h2 := Nat.div_add_mod (i + t) n
  rw [e] at h1
  rcases Nat.lt_trichotomy ((k + t) / n) ((i + t) / n) with x | x | x
  · have := Nat.mul_le_mul_left n x
    rw [Nat.mul_succ] at this
    omega
  · rw [x] at h1; omega
  · have := Nat.mul_le_mul_left n x
    rw [Nat.mul_succ] at this
    omega
theorem putIn_new {n t i : Nat} {sc fl : List Nat} (h : Order n sc fl) (hl : fl.length = n) (hi : i < n) : putIn fl n t i (fl.getD ((i + t) % n) 0) = false := by
  unfold putIn
  rw [List.any_eq_false]
  intro k hk
  rw [List.mem_range] at hk
  intro e
  have e' := beq_iff_eq.1 e
  have := h.inj (by rw [hl]; exact Nat.mod_lt _ (by omega)) (by rw [hl]; exact Nat.mod_lt _ (by omega)) e'
  have := mod_inj hi (by omega) this
  omega
theorem putIn_all {n t : Nat} {fl : List Nat} (hl : fl.length = n) {x : Nat} (hx : x ∈ fl) : putIn fl n t n x = true := by
  obtain ⟨m, hm, e⟩ := List.mem_iff_getElem.1 hx
  unfold putIn
  rw [List.any_eq_true]
  have hn : 0 < n := by omega
  refine ⟨(m + (n - t % n)) % n, List.mem_range.2 (Nat.mod_lt _ hn), ?_⟩
  have ht := Nat.mod_lt t hn
  have hdt := Nat.div_add_mod t n
  have key : ((m + (n - t % n)) % n + t) % n = m := by
    rw [Nat.add_mod, Nat.mod_mod, ← Nat.add_mod]
    have e2 : m + (n - t % n) + t = m + n * (t / n + 1) := by
      rw [Nat.mul_add, Nat.mul_one]; omega
    rw [e2, Nat.add_mul_mod_self_left]
    exact Nat.mod_eq_of_lt (by omega)
  rw [key]
  simp [List.getD_eq_getElem?_getD, hm, e]

theorem own_keep {w w' : World} {S : Nat → Prop} {base n : Nat} {e : TypeId} {v : Value} {xs : List Value} (h : w.ownsRow base e 1 v n xs) (k : Sm S w w') (hs : ∀ i, S i → i < base) : w'.ownsRow base e 1 v n xs := by
  refine ⟨h.1, ?_⟩
  rcases h.2 with hn | ⟨g, cap, cur, rfl, hb, hgg, rest⟩
  · exact .inl hn
  · refine .inr ⟨g, cap, cur, rfl, hb, ?_, rest⟩
    rw [k.block g (Array.getElem?_eq_some_iff.1 hgg).1 (fun x => by have := hs g x; omega)]
    exact hgg

theorem all_in {n : Nat} {fl : List Nat} (h : cin (notin fl) n = 0) {x : Nat} (h1 : 1 ≤ x) (h2 : x ≤ n) : x ∈ fl := by
  by_cases e : notin fl x = true
  · have := cin_pos h1 h2 e
    omega
  · simp only [notin, Bool.not_eq_true', Bool.not_eq_false] at e
    simpa using e

structure G2 (I : Ids) (B n : Nat) (sc fl : List Nat) (w : World) (v : Value) (j : Nat) (wr : World) : Prop where
  len : fl.length = j
  is : Is wr I n sc (notin fl)
  own : wr.ownsRow B 3 1 v j (nats fl)
  ord : Order n sc fl
  cnt : cin (notin fl) n + j = n
  bel : Below w.heap.size w wr
  sz : B ≤ wr.heap.size
def G2Head (I : Ids) (B n : Nat) (sc : List Nat) (w : World) (v i : Value) (wr : World) : Prop :=
  ∃ (j : Nat) (fl : List Nat), i = .int .i64 j ∧ j ≤ n ∧ G2 I B n sc fl w v j wr

structure G3 (I : Ids) (B n : Nat) (sc fl : List Nat) (w : World) (v : Value) (inn : Nat → Bool) (wr : World) : Prop where
  is : Is wr I n sc inn
  own : wr.ownsRow B 3 1 v n (nats fl)
  bel : Below w.heap.size w wr
  sz : B ≤ wr.heap.size
theorem G3.next {I : Ids} {B n : Nat} {sc fl : List Nat} {w : World} {v : Value} {inn inn' : Nat → Bool} {wr w' : World} (h : G3 I B n sc fl w v inn wr) (hi : Is w' I n sc inn') (hs : Sm I.has wr w')
    (hlo : ∀ k, I.has k → w.heap.size ≤ k) (hhi : ∀ k, I.has k → k < B) : G3 I B n sc fl w v inn' w' :=
  ⟨hi, own_keep h.own hs hhi, h.bel.trans (hs.below h.bel.size hlo), Nat.le_trans h.sz hs.size⟩

end Go.Proofs.Ytapconhgcoefeaa.Heap
