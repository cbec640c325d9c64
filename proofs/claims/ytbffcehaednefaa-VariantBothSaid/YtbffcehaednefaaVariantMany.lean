/- Variants: how many settings meet a wish is a product. -/
import Derived.Test.YtbffcehaednefaaVariantJ
namespace Go.Proofs.Ytbffcehaednefaa.Variant
set_option linter.unusedVariables false
set_option linter.unusedSimpArgs false

def okW (W : List Tr) (nm v : ByteArray) : Bool := W.all fun x => !eqB x.1 nm || eqB x.2 v
def cntW (W : List Tr) (L : List Vr) (j : Nat) : Nat := (L.getD j vr0).2.countP (okW W (L.getD j vr0).1)
def wantTo (W : List Tr) (L : List Vr) : Nat → Nat
  | 0 => 1
  | k + 1 => wantTo W L k * cntW W L k
def namedTo (W : List Tr) (L : List Vr) : Nat → Nat
  | 0 => 0
  | k + 1 => namedTo W L k + W.countP (fun x => eqB x.1 (L.getD k vr0).1)
def hasT (S : List Tr) (x : Tr) : Bool := S.any fun y => eqB y.1 x.1 && eqB y.2 x.2
def meetsB (S W : List Tr) : Bool := W.all fun x => hasT S x
def gotTo (W : List Tr) (L : List Vr) (k : Nat) : Nat := (List.range k).countP fun q => meetsB (chosenT L q) W

theorem quo_div (L : List Vr) (q : Nat) : ∀ j, quo L q j = q / prodTo L j
  | 0 => by simp [quo, prodTo]
  | j + 1 => by rw [quo, quo_div L q j, Nat.div_div_eq_div_mul]; rfl
theorem prodTo_dvd (L : List Vr) (j : Nat) : ∀ k, j < k → ∃ c, prodTo L k = prodTo L j * (L.getD j vr0).2.length * c
  | 0, h => absurd h (Nat.not_lt_zero _)
  | k + 1, h => by
    rcases Nat.lt_or_ge j k with hlt | hge
    · obtain ⟨c, hc⟩ := prodTo_dvd L j k hlt
      exact ⟨c * (L.getD k vr0).2.length, by rw [prodTo, hc, Nat.mul_assoc]⟩
    · obtain rfl : j = k := by omega
      exact ⟨1, by rw [Nat.mul_one]; rfl⟩
theorem pick_low (L : List Vr) (j k r d : Nat) (hj : j < k) (hP : 0 < prodTo L k) : pick L (r + prodTo L k * d) j = pick L r j := by
  obtain ⟨c, hc⟩ := prodTo_dvd L j k hj
  have hp : 0 < prodTo L j := by
    rcases Nat.eq_zero_or_pos (prodTo L j) with h | h
    · rw [h] at hc; simp at hc; omega
    · exact h
  unfold pick
  rw [quo_div, quo_div]
  have e : r + prodTo L k * d = r + prodTo L j * ((L.getD j vr0).2.length * (c * d)) := by
    rw [hc]; simp only [Nat.mul_assoc]
  rw [e, Nat.add_mul_div_left _ _ hp, Nat.add_mul_mod_self_left]
theorem pick_top (L : List Vr) (k r d : Nat) (hr : r < prodTo L k) (hd : d < (L.getD k vr0).2.length) : pick L (r + prodTo L k * d) k = (L.getD k vr0).2.getD d ByteArray.empty := by
  unfold pick
  rw [quo_div, Nat.add_mul_div_left _ _ (by omega), Nat.div_eq_of_lt hr, Nat.zero_add, Nat.mod_eq_of_lt hd]
theorem countP_prod (f g : Nat → Bool) (P : Nat) : ∀ m, (List.range (P * m)).countP (fun q => f (q % P) && g (q / P)) = (List.range P).countP f * (List.range m).countP g
  | 0 => by simp
  | m + 1 => by
    rcases Nat.eq_zero_or_pos P with h | h
    · subst h; simp
    · rw [Nat.mul_succ, List.range_add, List.countP_append, countP_prod f g P m, List.range_succ, List.countP_append, List.countP_map, Nat.mul_add]
      congr 1
      have e : (List.range P).countP ((fun q => f (q % P) && g (q / P)) ∘ fun x => P * m + x) = (List.range P).countP (fun r => f r && g m) := by
        apply List.countP_congr
        intro r hr
        rw [List.mem_range] at hr
        simp only [Function.comp]
        rw [Nat.mul_add_mod, Nat.mod_eq_of_lt hr, Nat.add_comm, Nat.add_mul_div_left _ _ h, Nat.div_eq_of_lt hr, Nat.zero_add]
      rw [e]
      cases hg : g m <;> simp [hg]
theorem countP_getD (l : List ByteArray) (p : ByteArray → Bool) : (List.range l.length).countP (fun i => p (l.getD i ByteArray.empty)) = l.countP p := by
  have e : l = (List.range l.length).map (fun i => l.getD i ByteArray.empty) := by
    apply List.ext_getElem
    · simp
    · intro i h1 h2
      simp [List.getElem?_eq_getElem h1]
  conv => rhs; rw [e, List.countP_map]
  rfl
theorem count_digits (W : List Tr) (L : List Vr) : ∀ k, (List.range (prodTo L k)).countP (fun q => (List.range k).all fun j => okW W (L.getD j vr0).1 (pick L q j)) = wantTo W L k
  | 0 => by simp [prodTo, wantTo]
  | k + 1 => by
    rw [wantTo, ← count_digits W L k, cntW, ← countP_getD, ← countP_prod]
    show (List.range (prodTo L k * (L.getD k vr0).2.length)).countP _ = _
    apply List.countP_congr
    intro q hq
    rw [List.mem_range] at hq
    have hP : 0 < prodTo L k := by
      rcases Nat.eq_zero_or_pos (prodTo L k) with h | h
      · rw [h] at hq; simp at hq
      · exact h
    have hr : q % prodTo L k < prodTo L k := Nat.mod_lt _ hP
    have hd : q / prodTo L k < (L.getD k vr0).2.length := by
      rw [Nat.div_lt_iff_lt_mul hP, Nat.mul_comm]; exact hq
    have hq' : q = q % prodTo L k + prodTo L k * (q / prodTo L k) := (Nat.mod_add_div q _).symm
    rw [List.range_succ, List.all_append]
    have e1 : (List.range k).all (fun j => okW W (L.getD j vr0).1 (pick L q j)) = (List.range k).all (fun j => okW W (L.getD j vr0).1 (pick L (q % prodTo L k) j)) := by
      rw [Bool.eq_iff_iff, List.all_eq_true, List.all_eq_true]
      have key : ∀ j, j ∈ List.range k → pick L q j = pick L (q % prodTo L k) j := fun j hj => by
        rw [List.mem_range] at hj
        conv => lhs; rw [hq']
        exact pick_low L j k _ _ hj hP
      constructor
      · intro h j hj; have := h j hj; rwa [key j hj] at this
      · intro h j hj; rw [key j hj]; exact h j hj
    have e2 : pick L q k = (L.getD k vr0).2.getD (q / prodTo L k) ByteArray.empty := by
      conv => lhs; rw [hq']
      exact pick_top L k _ _ hr hd
    rw [e1]
    simp only [List.all_cons, List.all_nil, Bool.and_true]
    rw [e2]

theorem names_apart {L : List Vr} (h : mayL L = true) (i j : Nat) (hi : i < L.length) (hj : j < L.length) (he : (L.getD i vr0).1 = (L.getD j vr0).1) : i = j := by
  have key : ∀ i j, i < j → j < L.length → (L.getD i vr0).1 = (L.getD j vr0).1 → False := by
    intro i j hij hj he
    unfold mayL at h
    simp only [Bool.and_eq_true, decide_eq_true_eq] at h
    have h2 := List.all_eq_true.1 h.2 j (by simpa using hj)
    unfold okV at h2
    simp only [Bool.and_eq_true, Bool.not_eq_true'] at h2
    have h3 := named_hit L i j (L.getD j vr0).1 (by omega) hij ((eqB_iff _ _).2 he)
    rw [h2.2] at h3; cases h3
  rcases Nat.lt_trichotomy i j with h1 | h1 | h1
  · exact (key i j h1 hj he).elim
  · exact h1
  · exact (key j i h1 hi he.symm).elim
theorem countP_or (l : List Tr) (p q : Tr → Bool) (h : ∀ x ∈ l, p x = true → q x = true → False) : l.countP (fun x => p x || q x) = l.countP p + l.countP q := by
  induction l with
  | nil => rfl
  | cons x l ih =>
    have ih' := ih fun y hy => h y (List.mem_cons_of_mem _ hy)
    have hx := h x List.mem_cons_self
    simp only [List.countP_cons, ih']
    cases hp : p x <;> cases hq : q x
    · simp
    · simp; omega
    · simp; omega
    · exact (hx hp hq).elim
def matchT (L : List Vr) (k : Nat) (x : Tr) : Bool := (List.range k).any fun j => eqB x.1 (L.getD j vr0).1
theorem named_count (W : List Tr) (L : List Vr) (h : mayL L = true) : ∀ k, k ≤ L.length → namedTo W L k = W.countP (matchT L k)
  | 0, _ => by
    rw [namedTo, eq_comm, List.countP_eq_zero]
    intro x _; simp [matchT]
  | k + 1, hk => by
    rw [namedTo, named_count W L h k (by omega), ← countP_or]
    · apply List.countP_congr
      intro x _
      unfold matchT
      rw [List.range_succ, List.any_append]
      simp
    · intro x _ h1 h2
      unfold matchT at h1
      rw [List.any_eq_true] at h1
      obtain ⟨j, hj, e⟩ := h1
      rw [List.mem_range] at hj
      rw [eqB_iff] at e h2
      have := names_apart h j k (by omega) (by omega) (by rw [← e, ← h2])
      omega
theorem named_le (W : List Tr) (L : List Vr) (h : mayL L = true) (k : Nat) (hk : k ≤ L.length) : namedTo W L k ≤ W.length := by
  rw [named_count W L h k hk]; exact List.countP_le_length
theorem hasT_iff (L : List Vr) (q : Nat) (x : Tr) : hasT (chosenT L q) x = true ↔ ∃ j, j < L.length ∧ (L.getD j vr0).1 = x.1 ∧ pick L q j = x.2 := by
  unfold hasT chosenT
  rw [List.any_map, List.any_eq_true]
  constructor
  · rintro ⟨j, hj, e⟩
    rw [List.mem_range] at hj
    simp only [Function.comp, Bool.and_eq_true, eqB_iff] at e
    exact ⟨j, hj, e.1, e.2⟩
  · rintro ⟨j, hj, e1, e2⟩
    refine ⟨j, by simpa using hj, ?_⟩
    simp only [Function.comp, Bool.and_eq_true, eqB_iff]
    exact ⟨e1, e2⟩
theorem meets_none (W : List Tr) (L : List Vr) (h : mayL L = true) (hn : namedTo W L L.length < W.length) (q : Nat) : meetsB (chosenT L q) W = false := by
  rw [named_count W L h _ (Nat.le_refl _)] at hn
  rw [← Bool.not_eq_true]
  intro hm
  have : W.countP (matchT L L.length) = W.length := by
    rw [List.countP_eq_length]
    intro x hx
    obtain ⟨j, hj, e, _⟩ := (hasT_iff L q x).1 (List.all_eq_true.1 hm x hx)
    unfold matchT
    rw [List.any_eq_true]
    exact ⟨j, by simpa using hj, (eqB_iff _ _).2 e.symm⟩
  omega
theorem meets_all (W : List Tr) (L : List Vr) (h : mayL L = true) (hn : ¬ namedTo W L L.length < W.length) (q : Nat) : meetsB (chosenT L q) W = (List.range L.length).all fun j => okW W (L.getD j vr0).1 (pick L q j) := by
  rw [named_count W L h _ (Nat.le_refl _)] at hn
  have hall : ∀ x ∈ W, matchT L L.length x = true := by
    rw [← List.countP_eq_length]
    have := List.countP_le_length (p := matchT L L.length) (l := W)
    omega
  rw [Bool.eq_iff_iff, List.all_eq_true]
  unfold meetsB
  rw [List.all_eq_true]
  constructor
  · intro hm j hj
    rw [List.mem_range] at hj
    unfold okW
    rw [List.all_eq_true]
    intro x hx
    cases he : eqB x.1 (L.getD j vr0).1 with
    | false => rfl
    | true =>
      obtain ⟨i, hi, e1, e2⟩ := (hasT_iff L q x).1 (hm x hx)
      rw [eqB_iff] at he
      have := names_apart h i j hi hj (by rw [e1, he])
      subst this
      simp [(eqB_iff x.2 _).2 e2.symm]
  · intro hm x hx
    have hmx := hall x hx
    unfold matchT at hmx
    rw [List.any_eq_true] at hmx
    obtain ⟨j, hj, e⟩ := hmx
    have hj' := hj
    rw [List.mem_range] at hj'
    have ho := List.all_eq_true.1 (hm j hj) x hx
    rw [e] at ho
    simp only [Bool.not_true, Bool.false_or, eqB_iff] at ho
    exact (hasT_iff L q x).2 ⟨j, hj', ((eqB_iff _ _).1 e).symm, ho.symm⟩
/-- how many settings meet a wish. -/
theorem many (W : List Tr) (L : List Vr) (h : mayL L = true) : gotTo W L (prodTo L L.length) = if namedTo W L L.length < W.length then 0 else wantTo W L L.length := by
  unfold gotTo
  split
  · rename_i hn
    rw [List.countP_eq_zero]
    intro q _
    rw [meets_none W L h hn q]; simp
  · rename_i hn
    rw [← count_digits]
    apply List.countP_congr
    intro q _
    rw [meets_all W L h hn q]

end Go.Proofs.Ytbffcehaednefaa.Variant
