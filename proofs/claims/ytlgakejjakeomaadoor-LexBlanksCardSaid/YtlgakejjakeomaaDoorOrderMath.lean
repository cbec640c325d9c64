/- Ways round in plain lists: edges, a search from a place, places that go one by one. -/
namespace Go.Proofs.YtlgakejjakeomaaDoor.Order
set_option linter.unusedVariables false
set_option linter.unusedSimpArgs false

abbrev Es := List (List Int)
/-- an edge that leads to a place. -/
def Edge (E : Es) (p t : Nat) : Prop := p < E.length ∧ t < E.length ∧ (t : Int) ∈ E.getD p []
abbrev Way (E : Es) : Nat → Nat → Prop := Relation.TransGen (Edge E)
def Cyclic (E : Es) : Prop := ∃ v, Way E v v
/-- a way round. -/
structure IsCycle (E : Es) (Q : List Nat) : Prop where
  ne : Q ≠ []
  nodup : Q.Nodup
  step : ∀ i, i + 1 < Q.length → Edge E (Q.getD i 0) (Q.getD (i + 1) 0)
  back : Edge E (Q.getD (Q.length - 1) 0) (Q.getD 0 0)
theorem IsCycle.lt {E : Es} {Q : List Nat} (h : IsCycle E Q) (i : Nat) (hi : i < Q.length) : Q.getD i 0 < E.length := by
  rcases Nat.lt_or_ge (i + 1) Q.length with h1 | h1
  · exact (h.step i h1).1
  · have : i = Q.length - 1 := by omega
    rw [this]; exact h.back.1
theorem IsCycle.next {E : Es} {Q : List Nat} (h : IsCycle E Q) (i : Nat) (hi : i < Q.length) : Edge E (Q.getD i 0) (Q.getD ((i + 1) % Q.length) 0) := by
  rcases Nat.lt_or_ge (i + 1) Q.length with h1 | h1
  · rw [Nat.mod_eq_of_lt h1]; exact h.step i h1
  · have e : i = Q.length - 1 := by omega
    have e2 : (i + 1) % Q.length = 0 := by
      have : i + 1 = Q.length := by omega
      rw [this, Nat.mod_self]
    rw [e2, e]; exact h.back

/-! ### the search -/
/-- what a search from s knows: the row of places met; of each but the first one from where. -/
structure Sea (E : Es) (s : Nat) (fr : List Int) (row : List Nat) : Prop where
  len : fr.length = E.length
  nodup : row.Nodup
  head : row.getD 0 0 = s ∧ 0 < row.length
  lt : ∀ v ∈ row, v < E.length
  start : fr.getD s 0 = -1
  met : ∀ v, v < E.length → v ≠ s → (fr.getD v 0 = -1 ↔ v ∉ row)
  from_ : ∀ i, 0 < i → i < row.length → ∃ j, j < i ∧ fr.getD (row.getD i 0) 0 = (row.getD j 0 : Nat) ∧ Edge E (row.getD j 0) (row.getD i 0)
  way : ∀ v ∈ row, v = s ∨ Way E s v
theorem Sea.first (E : Es) (s : Nat) (h : s < E.length) : Sea E s (List.replicate E.length (-1)) [s] := by
  refine ⟨by simp, by simp, by simp, by simpa using h, ?_, ?_, ?_, by simp⟩
  · simp [List.getD_eq_getElem?_getD, List.getElem?_replicate, h]
  · intro v hv hne
    simp [List.getD_eq_getElem?_getD, List.getElem?_replicate, hv, hne]
  · intro i h1 h2
    simp at h2; omega
theorem getD_mem {row : List Nat} {i : Nat} (h : i < row.length) : row.getD i 0 ∈ row := by
  rw [List.getD_eq_getElem?_getD, List.getElem?_eq_getElem h]; exact List.getElem_mem _
theorem getD_app {row : List Nat} {i : Nat} (t : Nat) (h : i < row.length) : (row ++ [t]).getD i 0 = row.getD i 0 := by
  rw [List.getD_eq_getElem?_getD, List.getD_eq_getElem?_getD, List.getElem?_append_left h]
theorem getD_last (row : List Nat) (t : Nat) : (row ++ [t]).getD row.length 0 = t := by
  rw [List.getD_eq_getElem?_getD]; simp
theorem getD_set {fr : List Int} {v t : Nat} (x : Int) (h : t < fr.length) : (fr.set t x).getD v 0 = if v = t then x else fr.getD v 0 := by
  rw [List.getD_eq_getElem?_getD, List.getD_eq_getElem?_getD, List.getElem?_set]
  by_cases e : t = v
  · subst e; simp [h]
  · rw [if_neg e, if_neg (fun e2 => e e2.symm)]
theorem Sea.add {E : Es} {s : Nat} {fr : List Int} {row : List Nat} (h : Sea E s fr row) {i t : Nat} (hi : i < row.length) (he : Edge E (row.getD i 0) t) (hts : t ≠ s) (hf : fr.getD t 0 = -1) :
    Sea E s (fr.set t (row.getD i 0 : Nat)) (row ++ [t]) := by
  have htl := he.2.1
  have hfl : t < fr.length := by rw [h.len]; exact htl
  have htr : t ∉ row := (h.met t htl hts).1 hf
  refine ⟨by simpa using h.len, ?_, ?_, ?_, ?_, ?_, ?_, ?_⟩
  · rw [List.nodup_append]
    refine ⟨h.nodup, by simp, ?_⟩
    intro a ha b hb e
    simp at hb
    subst hb
    exact htr (e ▸ ha)
  · rw [getD_app t h.head.2]; exact ⟨h.head.1, by simp⟩
  · intro v hv
    rw [List.mem_append, List.mem_singleton] at hv
    rcases hv with hv | rfl
    · exact h.lt v hv
    · exact htl
  · rw [getD_set _ hfl, if_neg (Ne.symm hts)]; exact h.start
  · intro v hv hne
    rw [getD_set _ hfl, List.mem_append, List.mem_singleton]
    by_cases e : v = t
    · subst e
      rw [if_pos rfl]
      constructor
      · intro h1; omega
      · intro h1; exact absurd (Or.inr rfl) h1
    · rw [if_neg e, h.met v hv hne]
      constructor
      · rintro h1 (h2 | h2)
        · exact h1 h2
        · exact e h2
      · intro h1 h2; exact h1 (.inl h2)
  · intro k h1 h2
    rw [List.length_append, List.length_singleton] at h2
    rcases Nat.lt_or_ge k row.length with hk | hk
    · obtain ⟨j, hj, e1, e2⟩ := h.from_ k h1 hk
      refine ⟨j, hj, ?_, ?_⟩
      · rw [getD_app t hk, getD_app t (by omega), getD_set _ hfl, if_neg (by intro e; apply htr; rw [← e]; exact getD_mem hk)]; exact e1
      · rw [getD_app t hk, getD_app t (by omega)]; exact e2
    · obtain rfl : k = row.length := by omega
      refine ⟨i, hi, ?_, ?_⟩
      · rw [getD_last, getD_app t hi, getD_set _ hfl, if_pos rfl]
      · rw [getD_last, getD_app t hi]; exact he
  · intro v hv
    rw [List.mem_append, List.mem_singleton] at hv
    rcases hv with hv | rfl
    · exact h.way v hv
    · right
      rcases h.way _ (getD_mem hi) with e | e
      · rw [e] at he; exact .single he
      · exact .tail e he
/-- of the places ahead all edges have been gone along: they lead to places met, and not to s. -/
def Done (E : Es) (s : Nat) (row : List Nat) (i : Nat) : Prop := ∀ k, k < i → ∀ t, Edge E (row.getD k 0) t → t ∈ row ∧ t ≠ s
theorem no_way {E : Es} {s : Nat} {fr : List Int} {row : List Nat} (h : Sea E s fr row) (hd : Done E s row row.length) : ¬ Way E s s := by
  have key : ∀ v, Way E s v → v ∈ row ∧ v ≠ s := by
    intro v hv
    induction hv with
    | single e =>
      have := hd 0 h.head.2 _ (by rw [h.head.1]; exact e)
      exact this
    | tail _ e ih =>
      obtain ⟨k, hk, ek⟩ := List.getElem_of_mem ih.1
      have e2 : row.getD k 0 = row[k] := by rw [List.getD_eq_getElem?_getD, List.getElem?_eq_getElem hk]; rfl
      exact hd k hk _ (by rw [e2, ek]; exact e)
  intro hw
  exact (key s hw).2 rfl

/-- the places from one back to the first one, as they were come to: each comes of a lower place of the row. -/
structure Back (E : Es) (s : Nat) (row : List Nat) (W : List Nat) (k : Nat) : Prop where
  ne : 0 < W.length
  lt : k < row.length
  last : W.getD (W.length - 1) 0 = row.getD k 0
  hi : ∀ v ∈ W, ∃ j, k ≤ j ∧ j < row.length ∧ v = row.getD j 0
  nodup : W.Nodup
  step : ∀ i, i + 1 < W.length → Edge E (W.getD (i + 1) 0) (W.getD i 0)
theorem nodup_idx {row : List Nat} (h : row.Nodup) {i j : Nat} (hi : i < row.length) (hj : j < row.length) (e : row.getD i 0 = row.getD j 0) : i = j := by
  rw [List.getD_eq_getElem?_getD, List.getD_eq_getElem?_getD, List.getElem?_eq_getElem hi, List.getElem?_eq_getElem hj] at e
  simp only [Option.getD_some] at e
  have h' := List.pairwise_iff_getElem.1 h
  rcases Nat.lt_trichotomy i j with h1 | h1 | h1
  · exact absurd e (h' i j hi hj h1)
  · exact h1
  · exact absurd e.symm (h' j i hj hi h1)
theorem Back.first {E : Es} {s : Nat} {row : List Nat} {k : Nat} (h : k < row.length) : Back E s row [row.getD k 0] k := by
  refine ⟨by simp, h, by simp, ?_, by simp, fun i hi => by simp at hi⟩
  intro v hv
  simp at hv
  exact ⟨k, Nat.le_refl _, h, by simpa using hv⟩
theorem Back.add {E : Es} {s : Nat} {fr : List Int} {row W : List Nat} {k j : Nat} (hs : Sea E s fr row) (h : Back E s row W k) (hj : j < k) (he : Edge E (row.getD j 0) (row.getD k 0)) : Back E s row (W ++ [row.getD j 0]) j := by
  have hjl : j < row.length := by have := h.lt; omega
  have hnew : row.getD j 0 ∉ W := by
    intro hm
    obtain ⟨q, h1, h2, h3⟩ := h.hi _ hm
    have := nodup_idx hs.nodup hjl h2 h3
    omega
  refine ⟨by simp, hjl, ?_, ?_, ?_, ?_⟩
  · rw [List.length_append, List.length_singleton, Nat.add_sub_cancel, getD_last]
  · intro v hv
    rw [List.mem_append, List.mem_singleton] at hv
    rcases hv with hv | rfl
    · obtain ⟨q, h1, h2, h3⟩ := h.hi v hv; exact ⟨q, by omega, h2, h3⟩
    · exact ⟨j, Nat.le_refl _, hjl, rfl⟩
  · rw [List.nodup_append]
    refine ⟨h.nodup, by simp, ?_⟩
    intro a ha b hb e
    rw [List.mem_singleton] at hb
    exact hnew (by rw [← hb, ← e]; exact ha)
  · intro i hi
    rw [List.length_append, List.length_singleton] at hi
    rcases Nat.lt_or_ge (i + 1) W.length with h1 | h1
    · rw [getD_app _ h1, getD_app _ (by omega)]; exact h.step i h1
    · obtain e : i + 1 = W.length := by omega
      rw [e, getD_last, getD_app _ (by omega)]
      have : i = W.length - 1 := by omega
      rw [this, h.last]; exact he
theorem getD_rev (W : List Nat) (i : Nat) (h : i < W.length) : W.reverse.getD i 0 = W.getD (W.length - 1 - i) 0 := by
  rw [List.getD_eq_getElem?_getD, List.getD_eq_getElem?_getD, List.getElem?_reverse h]
theorem Back.cycle {E : Es} {s : Nat} {fr : List Int} {row W : List Nat} {i : Nat} (hs : Sea E s fr row) (h : Back E s row W 0) (hf : W.getD 0 0 = row.getD i 0) (he : Edge E (row.getD i 0) s) : IsCycle E W.reverse := by
  refine ⟨?_, (List.pairwise_reverse.2 (h.nodup.imp fun h => Ne.symm h)), ?_, ?_⟩
  · intro e
    have := h.ne
    rw [List.reverse_eq_nil_iff] at e
    rw [e] at this; simp at this
  · intro k hk
    rw [List.length_reverse] at hk
    rw [getD_rev W k (by omega), getD_rev W (k + 1) hk]
    have := h.step (W.length - 1 - (k + 1)) (by omega)
    rwa [show W.length - 1 - (k + 1) + 1 = W.length - 1 - k by omega] at this
  · rw [List.length_reverse, getD_rev W _ (by have := h.ne; omega), getD_rev W 0 h.ne]
    rw [show W.length - 1 - (W.length - 1) = 0 by omega, Nat.sub_zero, h.last, hf, hs.head.1]
    exact he

/-! ### places that go, one by one -/
def validIn (E : Es) (g : List Bool) (t : Int) : Bool := decide (0 ≤ t) && decide (t < (E.length : Int)) && !g.getD t.toNat false
def held (E : Es) (g : List Bool) (p : Nat) : Bool := (E.getD p []).any (validIn E g)
def stepG (E : Es) (g : List Bool) (p : Nat) : List Bool := g.set p (g.getD p false || !held E g p)
def sweepTo (E : Es) (g : List Bool) : Nat → List Bool
  | 0 => g
  | p + 1 => stepG E (sweepTo E g p) p
def roundsG (E : Es) : Nat → List Bool
  | 0 => List.replicate E.length false
  | k + 1 => sweepTo E (roundsG E k) E.length
theorem held_iff (E : Es) (g : List Bool) (p : Nat) (hp : p < E.length) : held E g p = true ↔ ∃ t, Edge E p t ∧ g.getD t false = false := by
  unfold held
  rw [List.any_eq_true]
  constructor
  · rintro ⟨t, ht, hv⟩
    unfold validIn at hv
    simp only [Bool.and_eq_true, decide_eq_true_eq, Bool.not_eq_true'] at hv
    refine ⟨t.toNat, ⟨hp, by omega, ?_⟩, hv.2⟩
    rw [Int.toNat_of_nonneg hv.1.1]; exact ht
  · rintro ⟨t, ⟨_, h1, h2⟩, h3⟩
    refine ⟨(t : Int), h2, ?_⟩
    unfold validIn
    simp only [Bool.and_eq_true, decide_eq_true_eq, Bool.not_eq_true', Int.toNat_natCast]
    exact ⟨⟨by omega, by omega⟩, h3⟩
theorem stepG_len (E : Es) (g : List Bool) (p : Nat) : (stepG E g p).length = g.length := by simp [stepG]
theorem sweep_len (E : Es) (g : List Bool) : ∀ k, (sweepTo E g k).length = g.length
  | 0 => rfl
  | k + 1 => by rw [sweepTo, stepG_len, sweep_len E g k]
theorem rounds_len (E : Es) : ∀ k, (roundsG E k).length = E.length
  | 0 => by simp [roundsG]
  | k + 1 => by rw [roundsG, sweep_len, rounds_len E k]
theorem stepG_at (E : Es) (g : List Bool) (p v : Nat) (hp : p < g.length) : (stepG E g p).getD v false = if v = p then (g.getD p false || !held E g p) else g.getD v false := by
  unfold stepG
  rw [List.getD_eq_getElem?_getD, List.getD_eq_getElem?_getD (l := g) (i := v), List.getElem?_set]
  by_cases e : p = v
  · subst e; simp [hp]
  · rw [if_neg e, if_neg (fun e2 => e e2.symm)]
/-- what lies on a way round stays. -/
theorem way_head {E : Es} {v w : Nat} (h : Way E v w) : ∃ t, Edge E v t ∧ (t = w ∨ Way E t w) := by
  induction h with
  | single e => exact ⟨_, e, .inl rfl⟩
  | tail _ e ih =>
    obtain ⟨t, h1, h2⟩ := ih
    refine ⟨t, h1, .inr ?_⟩
    rcases h2 with h2 | h2
    · rw [h2]; exact .single e
    · exact .tail h2 e
theorem cyc_next {E : Es} {v : Nat} (h : Way E v v) : ∃ t, Edge E v t ∧ Way E t t := by
  obtain ⟨t, h1, h2⟩ := way_head h
  refine ⟨t, h1, ?_⟩
  rcases h2 with h2 | h2
  · rw [h2]; exact h
  · exact .tail h2 h1
theorem stays (E : Es) (g : List Bool) (hg : ∀ v, Way E v v → g.getD v false = false) (hl : g.length = E.length) : ∀ k, k ≤ E.length → ∀ v, Way E v v → (sweepTo E g k).getD v false = false
  | 0, _, v, hv => hg v hv
  | k + 1, hk, v, hv => by
    have ih := stays E g hg hl k (by omega)
    rw [sweepTo, stepG_at _ _ _ _ (by rw [sweep_len]; omega)]
    by_cases e : v = k
    · subst e
      rw [if_pos rfl, ih v hv]
      obtain ⟨t, h1, h2⟩ := cyc_next hv
      rw [(held_iff E _ v (by omega)).2 ⟨t, h1, ih t h2⟩]; rfl
    · rw [if_neg e]; exact ih v hv
theorem stays_all (E : Es) : ∀ k v, Way E v v → (roundsG E k).getD v false = false
  | 0, v, _ => by
    unfold roundsG
    rw [List.getD_eq_getElem?_getD, List.getElem?_replicate]; split <;> rfl
  | k + 1, v, hv => stays E _ (stays_all E k) (rounds_len E k) _ (Nat.le_refl _) v hv

theorem nodup_sub : ∀ (l m : List Nat), l.Nodup → (∀ x ∈ l, x ∈ m) → l.length ≤ m.length
  | [], m, _, _ => Nat.zero_le _
  | x :: l, m, h, hs => by
    rw [List.nodup_cons] at h
    have hx := hs x List.mem_cons_self
    have := nodup_sub l (m.erase x) h.2 (fun y hy => (List.mem_erase_of_ne (fun e => h.1 (by rw [← e]; exact hy))).2 (hs y (List.mem_cons_of_mem _ hy)))
    rw [List.length_erase_of_mem hx] at this
    have : 0 < m.length := List.length_pos_of_mem hx
    simp only [List.length_cons]; omega
/-- where each place has an edge to one of them there is a way round. -/
theorem round_of (E : Es) (U : Nat → Prop) (hU : ∀ v, U v → v < E.length ∧ ∃ t, Edge E v t ∧ U t) (v : Nat) (hv : U v) : Cyclic E := by
  have key : ∀ k, Cyclic E ∨ ∃ (u : Nat) (l : List Nat), l.length = k ∧ (u :: l).Nodup ∧ (∀ x ∈ u :: l, U x) ∧ ∀ x ∈ u :: l, x = u ∨ Way E x u := by
    intro k
    induction k with
    | zero => exact .inr ⟨v, [], rfl, by simp, by simpa using hv, by simp⟩
    | succ k ih =>
      rcases ih with h | ⟨u, l, hl, hnd, hall, hway⟩
      · exact .inl h
      · obtain ⟨_, t, he, ht⟩ := hU u (hall u List.mem_cons_self)
        by_cases hm : t ∈ u :: l
        · left
          rcases hway t hm with e | e
          · subst e; exact ⟨t, .single he⟩
          · exact ⟨t, .tail e he⟩
        · right
          refine ⟨t, u :: l, by simp [hl], by rw [List.nodup_cons]; exact ⟨hm, hnd⟩, ?_, ?_⟩
          · intro x hx
            rcases List.mem_cons.1 hx with e | e
            · rw [e]; exact ht
            · exact hall x e
          · intro x hx
            rcases List.mem_cons.1 hx with e | e
            · exact .inl e
            · right
              rcases hway x e with e2 | e2
              · rw [e2]; exact .single he
              · exact .tail e2 he
  rcases key E.length with h | ⟨u, l, hl, hnd, hall, _⟩
  · exact h
  · exfalso
    have := nodup_sub (u :: l) (List.range E.length) hnd (fun x hx => List.mem_range.2 (hU x (hall x hx)).1)
    rw [List.length_range, List.length_cons] at this
    omega

/-- how many are gone. -/
def cntG (g : List Bool) : Nat := g.countP id
theorem cnt_set : ∀ (g : List Bool) (p : Nat) (b : Bool), p < g.length → (g.getD p false = true → b = true) → cntG g ≤ cntG (g.set p b) ∧ (g.getD p false ≠ b → cntG g + 1 ≤ cntG (g.set p b))
  | [], p, b, h, _ => by simp at h
  | a :: g, 0, b, _, hm => by
    simp only [List.set_cons_zero, cntG, List.countP_cons, List.getD_cons_zero, id] at *
    cases a <;> cases b <;> simp at *
  | a :: g, p + 1, b, h, hm => by
    have ih := cnt_set g p b (by simpa using h) (by simpa using hm)
    simp only [List.set_cons_succ, cntG, List.countP_cons, List.getD_cons_succ] at *
    exact ⟨by omega, fun hne => by have := ih.2 hne; omega⟩
theorem cnt_step (E : Es) (g : List Bool) (p : Nat) (h : p < g.length) : cntG g ≤ cntG (stepG E g p) ∧ (g.getD p false = false → held E g p = false → cntG g + 1 ≤ cntG (stepG E g p)) := by
  have := cnt_set g p (g.getD p false || !held E g p) h (fun e => by rw [e]; rfl)
  refine ⟨this.1, fun h1 h2 => this.2 (by rw [h1, h2]; simp)⟩
/-- every place that is left is held by one that is. -/
def Still (E : Es) (g : List Bool) : Prop := ∀ p, p < E.length → g.getD p false = false → held E g p = true
theorem step_same (E : Es) (g : List Bool) (p : Nat) (hs : g.getD p false = false → held E g p = true) (hp : p < g.length) : stepG E g p = g := by
  unfold stepG
  have e : (g.getD p false || !held E g p) = g[p] := by
    have e1 : g.getD p false = g[p] := by rw [List.getD_eq_getElem?_getD, List.getElem?_eq_getElem hp]; rfl
    rw [← e1]
    cases h : g.getD p false with
    | true => rfl
    | false => rw [hs h]; rfl
  rw [e, List.set_getElem_self]
theorem sweep_cnt (E : Es) (g : List Bool) (hl : g.length = E.length) : ∀ k, k ≤ E.length → (sweepTo E g k = g ∧ ∀ p, p < k → g.getD p false = false → held E g p = true) ∨ cntG g + 1 ≤ cntG (sweepTo E g k)
  | 0, _ => .inl ⟨rfl, fun p hp => absurd hp (Nat.not_lt_zero _)⟩
  | k + 1, hk => by
    have hlk : k < (sweepTo E g k).length := by rw [sweep_len]; omega
    have hst := cnt_step E (sweepTo E g k) k hlk
    rcases sweep_cnt E g hl k (by omega) with ⟨e, hh⟩ | h
    · rw [e] at hst
      by_cases hc : g.getD k false = false ∧ held E g k = false
      · right
        rw [sweepTo, e]; exact hst.2 hc.1 hc.2
      · left
        have hs : g.getD k false = false → held E g k = true := fun h1 => by
          cases h2 : held E g k with
          | true => rfl
          | false => exact absurd ⟨h1, h2⟩ hc
        refine ⟨?_, fun p hp h1 => ?_⟩
        · rw [sweepTo, e]; exact step_same E g k hs (by omega)
        · rcases Nat.lt_or_ge p k with h2 | h2
          · exact hh p h2 h1
          · obtain rfl : p = k := by omega
            exact hs h1
    · right
      rw [sweepTo]; have := hst.1; omega
theorem rounds_cnt (E : Es) : ∀ k, Still E (roundsG E k) ∨ k ≤ cntG (roundsG E k)
  | 0 => .inr (Nat.zero_le _)
  | k + 1 => by
    rcases sweep_cnt E (roundsG E k) (rounds_len E k) E.length (Nat.le_refl _) with ⟨e, h⟩ | h
    · left; rw [roundsG, e]; exact h
    · rcases rounds_cnt E k with h2 | h2
      · left
        rw [roundsG]
        have e : ∀ j, j ≤ E.length → sweepTo E (roundsG E k) j = roundsG E k := by
          intro j
          induction j with
          | zero => intro _; rfl
          | succ j ih =>
            intro hj
            rw [sweepTo, ih (by omega)]
            exact step_same E _ j (h2 j (by omega)) (by rw [rounds_len]; omega)
        rw [e _ (Nat.le_refl _)]; exact h2
      · right; rw [roundsG]; omega
theorem cnt_all (g : List Bool) (h : g.length ≤ cntG g) : ∀ p, p < g.length → g.getD p false = true := by
  intro p hp
  have e : g.countP id = g.length := Nat.le_antisymm List.countP_le_length h
  rw [List.countP_eq_length] at e
  have := e g[p] (List.getElem_mem hp)
  rw [List.getD_eq_getElem?_getD, List.getElem?_eq_getElem hp]; exact this
/-- what is left at the end tells whether there is a way round. -/
theorem left_iff (E : Es) : (∃ p, p < E.length ∧ (roundsG E E.length).getD p false = false) ↔ Cyclic E := by
  constructor
  · rintro ⟨p, hp, h⟩
    rcases rounds_cnt E E.length with hs | hc
    · refine round_of E (fun v => v < E.length ∧ (roundsG E E.length).getD v false = false) ?_ p ⟨hp, h⟩
      rintro v ⟨h1, h2⟩
      obtain ⟨t, h3, h4⟩ := (held_iff E _ v h1).1 (hs v h1 h2)
      exact ⟨h1, t, h3, h3.2.1, h4⟩
    · have := cnt_all _ (by rw [rounds_len]; exact hc) p (by rw [rounds_len]; exact hp)
      rw [h] at this; cases this
  · rintro ⟨v, hv⟩
    obtain ⟨t, h1, _⟩ := cyc_next hv
    exact ⟨v, h1.1, stays_all E _ v hv⟩

def cycB (E : Es) : Bool := (roundsG E E.length).any fun x => !x
theorem cycB_iff (E : Es) : cycB E = true ↔ Cyclic E := by
  rw [← left_iff]
  unfold cycB
  rw [List.any_eq_true]
  constructor
  · rintro ⟨x, hx, h⟩
    obtain ⟨i, hi, e⟩ := List.getElem_of_mem hx
    rw [rounds_len] at hi
    refine ⟨i, hi, ?_⟩
    rw [List.getD_eq_getElem?_getD, List.getElem?_eq_getElem (by rw [rounds_len]; exact hi), e]
    simpa using h
  · rintro ⟨p, hp, h⟩
    have hp' : p < (roundsG E E.length).length := by rw [rounds_len]; exact hp
    refine ⟨(roundsG E E.length)[p], List.getElem_mem hp', ?_⟩
    rw [List.getD_eq_getElem?_getD, List.getElem?_eq_getElem hp'] at h
    simpa using h

end Go.Proofs.YtlgakejjakeomaaDoor.Order
