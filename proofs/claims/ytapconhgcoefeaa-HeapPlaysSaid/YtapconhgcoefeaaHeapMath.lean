/- A binary heap as lists: the order, and what lifting and lowering one place keeps. Plain mathematics, for every list. -/
namespace Go.Proofs.Ytapconhgcoefeaa.Heap
set_option linter.unusedVariables false

/-- is atom a asked ahead of b? -/
def bt (sc : List Nat) (a b : Nat) : Prop := sc.getD b 0 < sc.getD a 0 ∨ (sc.getD a 0 = sc.getD b 0 ∧ a < b)
instance (sc : List Nat) (a b : Nat) : Decidable (bt sc a b) := by unfold bt; infer_instance

theorem bt_irr (sc : List Nat) (a : Nat) : ¬ bt sc a a := by unfold bt; omega
theorem bt_asym {sc : List Nat} {a b : Nat} (h : bt sc a b) : ¬ bt sc b a := by unfold bt at *; omega
theorem bt_trans {sc : List Nat} {a b c : Nat} (h : bt sc a b) (k : bt sc b c) : bt sc a c := by unfold bt at *; omega
theorem bt_total {sc : List Nat} {a b : Nat} (h : a ≠ b) : bt sc a b ∨ bt sc b a := by unfold bt; omega
/-- 'not ahead' is transitive, too. -/
theorem nbt_trans {sc : List Nat} {a b c : Nat} (h : ¬ bt sc a b) (k : ¬ bt sc b c) : ¬ bt sc a c := by unfold bt at *; omega

theorem getD_set {α : Type} (l : List α) (i j : Nat) (x d : α) : (l.set i x).getD j d = if i = j ∧ j < l.length then x else l.getD j d := by
  simp only [List.getD_eq_getElem?_getD, List.getElem?_set]
  by_cases h : i = j
  · subst h
    by_cases h2 : i < l.length
    · simp [h2]
    · simp [h2]
  · simp [h]

def swap (rw : List Nat) (i k : Nat) : List Nat := (rw.set i (rw.getD k 0)).set k (rw.getD i 0)
theorem swap_len (rw : List Nat) (i k : Nat) : (swap rw i k).length = rw.length := by simp [swap]
theorem swap_at (rw : List Nat) (i k j : Nat) (hi : i < rw.length) (hk : k < rw.length) :
    (swap rw i k).getD j 0 = if j = k then rw.getD i 0 else if j = i then rw.getD k 0 else rw.getD j 0 := by
  unfold swap
  rw [getD_set, getD_set]
  simp only [List.length_set]
  by_cases h : j = k
  · subst h; simp [hk]
  · have h' : ¬ k = j := fun x => h x.symm
    by_cases h2 : j = i
    · subst h2; simp [h, h', hi]
    · have h2' : ¬ i = j := fun x => h2 x.symm
      simp [h, h', h2, h2']

/-- place j stands behind the one at half its place. -/
def ok (sc rw : List Nat) (j : Nat) : Prop := ¬ bt sc (rw.getD j 0) (rw.getD ((j - 1) / 2) 0)
/-- a heap from place L on. -/
def HeapFrom (sc rw : List Nat) (L : Nat) : Prop := ∀ j, 0 < j → j < rw.length → L ≤ (j - 1) / 2 → ok sc rw j

structure Up (sc rw : List Nat) (i : Nat) : Prop where
  rest : ∀ j, 0 < j → j < rw.length → j ≠ i → ok sc rw j
  kids : ∀ c, c < rw.length → 0 < c → (c - 1) / 2 = i → 0 < i → ¬ bt sc (rw.getD c 0) (rw.getD ((i - 1) / 2) 0)

theorem Up.step {sc rw : List Nat} {i : Nat} (h : Up sc rw i) (h0 : 0 < i) (hi : i < rw.length) (hb : bt sc (rw.getD i 0) (rw.getD ((i - 1) / 2) 0)) :
    Up sc (swap rw i ((i - 1) / 2)) ((i - 1) / 2) := by
  have hp : (i - 1) / 2 < rw.length := by omega
  constructor
  · intro j h1 h2 h3
    rw [swap_len] at h2
    unfold ok
    rw [swap_at _ _ _ _ hi hp, swap_at _ _ _ _ hi hp, if_neg h3]
    by_cases e1 : j = i
    · subst e1
      rw [if_pos rfl, if_pos rfl]
      exact bt_asym hb
    · rw [if_neg e1]
      by_cases e2 : (j - 1) / 2 = (i - 1) / 2
      · rw [if_pos e2]
        have := h.rest j h1 h2 e1
        unfold ok at this
        rw [e2] at this
        exact fun x => this (bt_trans x hb)
      · rw [if_neg e2]
        by_cases e3 : (j - 1) / 2 = i
        · rw [if_pos e3]
          exact h.kids j h2 h1 e3 h0
        · rw [if_neg e3]
          exact h.rest j h1 h2 e1
  · intro c h1 h2 h3 h4
    rw [swap_len] at h1
    have ec : c ≠ (i - 1) / 2 := by omega
    have eq : ¬ ((i - 1) / 2 - 1) / 2 = (i - 1) / 2 := by omega
    have eq2 : ¬ ((i - 1) / 2 - 1) / 2 = i := by omega
    rw [swap_at _ _ _ _ hi hp, swap_at _ _ _ _ hi hp, if_neg ec, if_neg eq, if_neg eq2]
    have hpp := h.rest ((i - 1) / 2) h4 hp (by omega)
    unfold ok at hpp
    by_cases e1 : c = i
    · subst e1
      rw [if_pos rfl]
      exact hpp
    · rw [if_neg e1]
      have := h.rest c h2 h1 e1
      unfold ok at this
      rw [h3] at this
      exact nbt_trans this hpp

theorem Up.done {sc rw : List Nat} {i : Nat} (h : Up sc rw i) (hb : 0 < i → ¬ bt sc (rw.getD i 0) (rw.getD ((i - 1) / 2) 0)) : HeapFrom sc rw 0 := by
  intro j h1 h2 _
  by_cases e : j = i
  · subst e; exact hb h1
  · exact h.rest j h1 h2 e

structure Dn (sc rw : List Nat) (L i : Nat) : Prop where
  low : L ≤ i
  rest : ∀ j, 0 < j → j < rw.length → L ≤ (j - 1) / 2 → (j - 1) / 2 ≠ i → ok sc rw j
  kids : 0 < i → L ≤ (i - 1) / 2 → ∀ c, c < rw.length → 0 < c → (c - 1) / 2 = i → ¬ bt sc (rw.getD c 0) (rw.getD ((i - 1) / 2) 0)

/-- the first one among a place and its children. -/
structure First (sc rw : List Nat) (i f : Nat) : Prop where
  mem : f = i ∨ (0 < f ∧ f < rw.length ∧ (f - 1) / 2 = i)
  self : ¬ bt sc (rw.getD i 0) (rw.getD f 0)
  kids : ∀ c, 0 < c → c < rw.length → (c - 1) / 2 = i → ¬ bt sc (rw.getD c 0) (rw.getD f 0)

theorem Dn.done {sc rw : List Nat} {L i : Nat} (h : Dn sc rw L i) (hf : First sc rw i i) : HeapFrom sc rw L := by
  intro j h1 h2 h3
  by_cases e : (j - 1) / 2 = i
  · have := hf.kids j h1 h2 e
    unfold ok
    rw [e]
    exact this
  · exact h.rest j h1 h2 h3 e

theorem Dn.step {sc rw : List Nat} {L i f : Nat} (h : Dn sc rw L i) (hi : i < rw.length) (hf : First sc rw i f) (hne : f ≠ i) :
    Dn sc (swap rw i f) L f := by
  rcases hf.mem with e | ⟨f0, f1, f2⟩
  · exact absurd e hne
  have hlow := h.low
  constructor
  · omega
  · intro j h1 h2 h3 h4
    rw [swap_len] at h2
    unfold ok
    rw [swap_at _ _ _ _ hi f1, swap_at _ _ _ _ hi f1, if_neg h4]
    by_cases e1 : j = f
    · subst e1
      rw [if_pos rfl, if_pos f2]
      exact hf.self
    · rw [if_neg e1]
      by_cases e2 : j = i
      · subst e2
        have e3 : ¬ (j - 1) / 2 = j := by omega
        rw [if_pos rfl, if_neg e3]
        exact h.kids h1 h3 f f1 f0 f2
      · rw [if_neg e2]
        by_cases e3 : (j - 1) / 2 = i
        · rw [if_pos e3]
          exact hf.kids j h1 h2 e3
        · rw [if_neg e3]
          exact h.rest j h1 h2 h3 e3
  · intro h1 h2 c h3 h4 h5
    rw [swap_len] at h3
    have ec : ¬ c = f := by omega
    have ec2 : ¬ c = i := by omega
    have ef : ¬ (f - 1) / 2 = f := by omega
    rw [swap_at _ _ _ _ hi f1, swap_at _ _ _ _ hi f1, if_neg ec, if_neg ec2, if_neg ef, if_pos f2]
    have := h.rest c h4 h3 (by omega) (by omega)
    unfold ok at this
    rw [h5] at this
    exact this

/-- of a heap the place 0 has the first one. -/
theorem top {sc rw : List Nat} (h : HeapFrom sc rw 0) : ∀ j, j < rw.length → ¬ bt sc (rw.getD j 0) (rw.getD 0 0) := by
  intro j
  induction j using Nat.strongRecOn with
  | _ j ih =>
    intro hj
    by_cases e : j = 0
    · subst e; exact bt_irr _ _
    · exact nbt_trans (h j (by omega) hj (by omega)) (ih ((j - 1) / 2) (by omega) (by omega))

/-- which atoms are in, and where. -/
structure Places (n : Nat) (pl : List Int) (rw : List Nat) : Prop where
  len : pl.length = n + 1
  row : ∀ i, i < rw.length → 1 ≤ rw.getD i 0 ∧ rw.getD i 0 ≤ n ∧ pl.getD (rw.getD i 0) (-1) = (i : Int)
  place : ∀ a, 1 ≤ a → a ≤ n → pl.getD a (-1) = -1 ∨ ∃ i, i < rw.length ∧ pl.getD a (-1) = (i : Int) ∧ rw.getD i 0 = a

theorem Places.inj {n : Nat} {pl : List Int} {rw : List Nat} (h : Places n pl rw) {i k : Nat} (hi : i < rw.length) (hk : k < rw.length) (e : rw.getD i 0 = rw.getD k 0) : i = k := by
  have a := (h.row i hi).2.2
  have b := (h.row k hk).2.2
  rw [e, b] at a
  omega

def swapPl (pl : List Int) (rw : List Nat) (i k : Nat) : List Int := (pl.set (rw.getD k 0) (i : Int)).set (rw.getD i 0) (k : Int)
theorem swapPl_len (pl : List Int) (rw : List Nat) (i k : Nat) : (swapPl pl rw i k).length = pl.length := by simp [swapPl]
theorem swapPl_at {n : Nat} {pl : List Int} {rw : List Nat} (h : Places n pl rw) {i k : Nat} (hi : i < rw.length) (hk : k < rw.length) (a : Nat) :
    (swapPl pl rw i k).getD a (-1) = if a = rw.getD i 0 then (k : Int) else if a = rw.getD k 0 then (i : Int) else pl.getD a (-1) := by
  have ri := h.row i hi
  have rk := h.row k hk
  have hl := h.len
  unfold swapPl
  rw [getD_set, getD_set]
  simp only [List.length_set]
  generalize rw.getD i 0 = x at *
  generalize rw.getD k 0 = y at *
  by_cases e : a = x
  · have l : a < pl.length := by omega
    subst e; simp [l]
  · have e' : ¬ x = a := fun z => e z.symm
    by_cases e2 : a = y
    · have l : a < pl.length := by omega
      subst e2; simp [e, e', l]
    · have e2' : ¬ y = a := fun z => e2 z.symm
      simp [e, e', e2, e2']

theorem Places.swap {n : Nat} {pl : List Int} {rw : List Nat} (h : Places n pl rw) {i k : Nat} (hi : i < rw.length) (hk : k < rw.length) (hne : i ≠ k) :
    Places n (swapPl pl rw i k) (Heap.swap rw i k) := by
  have hab : rw.getD i 0 ≠ rw.getD k 0 := fun e => hne (h.inj hi hk e)
  constructor
  · rw [swapPl_len]; exact h.len
  · intro j hj
    rw [swap_len] at hj
    rw [swap_at _ _ _ _ hi hk]
    by_cases e1 : j = k
    · subst e1
      rw [if_pos rfl, swapPl_at h hi hk, if_pos rfl]
      exact ⟨(h.row i hi).1, (h.row i hi).2.1, rfl⟩
    · rw [if_neg e1]
      by_cases e2 : j = i
      · subst e2
        rw [if_pos rfl, swapPl_at h hi hk, if_neg (fun x => hab x.symm), if_pos rfl]
        exact ⟨(h.row k hk).1, (h.row k hk).2.1, rfl⟩
      · rw [if_neg e2, swapPl_at h hi hk, if_neg (fun x => e2 (h.inj hj hi x)), if_neg (fun x => e1 (h.inj hj hk x))]
        exact h.row j hj
  · intro a h1 h2
    rw [swapPl_at h hi hk, swap_len]
    by_cases e1 : a = rw.getD i 0
    · rw [if_pos e1]
      exact .inr ⟨k, hk, rfl, by rw [swap_at _ _ _ _ hi hk, if_pos rfl]; exact e1.symm⟩
    · rw [if_neg e1]
      by_cases e2 : a = rw.getD k 0
      · rw [if_pos e2]
        refine .inr ⟨i, hi, rfl, ?_⟩
        rw [swap_at _ _ _ _ hi hk, if_neg hne, if_pos rfl]
        exact e2.symm
      · rw [if_neg e2]
        rcases h.place a h1 h2 with h3 | ⟨j, h3, h4, h5⟩
        · exact .inl h3
        · refine .inr ⟨j, h3, h4, ?_⟩
          rw [swap_at _ _ _ _ hi hk, if_neg (fun x => e2 (by rw [← h5, x])), if_neg (fun x => e1 (by rw [← h5, x]))]
          exact h5

/-- a swap leaves in what was in, and out what was out. -/
theorem swapPl_in {n : Nat} {pl : List Int} {rw : List Nat} (h : Places n pl rw) {i k : Nat} (hi : i < rw.length) (hk : k < rw.length) (a : Nat) :
    ((swapPl pl rw i k).getD a (-1) = -1) ↔ (pl.getD a (-1) = -1) := by
  rw [swapPl_at h hi hk]
  by_cases e1 : a = rw.getD i 0
  · rw [if_pos e1, e1, (h.row i hi).2.2]; omega
  · rw [if_neg e1]
    by_cases e2 : a = rw.getD k 0
    · rw [if_pos e2, e2, (h.row k hk).2.2]; omega
    · rw [if_neg e2]

end Go.Proofs.Ytapconhgcoefeaa.Heap
