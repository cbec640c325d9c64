/- Variants: two wishes put together, in plain lists. -/
import Derived.Test.YtbffcehaednefaaVariantO
namespace Go.Proofs.Ytbffcehaednefaa.Variant
set_option linter.unusedVariables false
set_option linter.unusedSimpArgs false

/-! ### the order of texts -/
theorem bl_irrefl : ∀ a : List UInt8, Op.bytesLess a a = false
  | [] => rfl
  | c :: a => by simp [Op.bytesLess, bl_irrefl a]
theorem bl_trans : ∀ a b c : List UInt8, Op.bytesLess a b = true → Op.bytesLess b c = true → Op.bytesLess a c = true
  | _, [], _, h, _ => by simp [Op.bytesLess] at h
  | _, _ :: _, [], _, h => by simp [Op.bytesLess] at h
  | [], _ :: _, _ :: _, _, _ => by simp [Op.bytesLess]
  | x :: a, y :: b, z :: c, h1, h2 => by
    simp only [Op.bytesLess, Bool.or_eq_true, Bool.and_eq_true, decide_eq_true_eq, beq_iff_eq] at h1 h2 ⊢
    rcases h1 with h1 | ⟨rfl, h1⟩
    · rcases h2 with h2 | ⟨rfl, h2⟩
      · exact .inl (UInt8.lt_trans h1 h2)
      · exact .inl h1
    · rcases h2 with h2 | ⟨rfl, h2⟩
      · exact .inl h2
      · exact .inr ⟨rfl, bl_trans a b c h1 h2⟩
theorem bl_total : ∀ a b : List UInt8, Op.bytesLess a b = false → Op.bytesLess b a = false → a = b
  | [], [], _, _ => rfl
  | [], _ :: _, h, _ => by simp [Op.bytesLess] at h
  | _ :: _, [], _, h => by simp [Op.bytesLess] at h
  | x :: a, y :: b, h1, h2 => by
    simp only [Op.bytesLess, Bool.or_eq_false_iff, Bool.and_eq_false_iff, decide_eq_false_iff_not, beq_eq_false_iff_ne] at h1 h2
    have e : x = y := by
      have a1 := UInt8.not_lt.1 h1.1
      have a2 := UInt8.not_lt.1 h2.1
      exact UInt8.le_antisymm a2 a1
    subst e
    have h1' : Op.bytesLess a b = false := by rcases h1.2 with h | h; · exact absurd rfl h
                                              · exact h
    have h2' : Op.bytesLess b a = false := by rcases h2.2 with h | h; · exact absurd rfl h
                                              · exact h
    rw [bl_total a b h1' h2']
theorem ltS_irrefl (a : ByteArray) : ltS a a = false := bl_irrefl _
theorem ltS_trans {a b c : ByteArray} (h1 : ltS a b = true) (h2 : ltS b c = true) : ltS a c = true := bl_trans _ _ _ h1 h2
theorem ltS_total {a b : ByteArray} (h1 : ltS a b = false) (h2 : ltS b a = false) : a = b := by
  have h := bl_total _ _ h1 h2
  rw [Lib.toList_data, Lib.toList_data] at h
  exact ByteArray.ext (Array.toList_inj.1 h)
theorem ltS_ne {a b : ByteArray} (h : ltS a b = true) : a ≠ b := by
  rintro rfl; rw [ltS_irrefl] at h; cases h
theorem ltS_asymm {a b : ByteArray} (h : ltS a b = true) : ltS b a = false := by
  cases e : ltS b a with
  | false => rfl
  | true => have := ltS_trans h e; rw [ltS_irrefl] at this; cases this

/-! ### wishes: valid settings, names rising -/
def Rising (T : List Tr) : Prop := T.Pairwise fun x y => ltS x.1 y.1 = true
def okT (t : Tr) : Bool := nameB t.1.data.toList && valueB t.2.data.toList
theorem getD_eq (T : List Tr) (i : Nat) (h : i < T.length) : T.getD i tr0 = T[i] := by rw [List.getD_eq_getElem?_getD, List.getElem?_eq_getElem h]; rfl
theorem wish_iff (T : List Tr) : wishB T = true ↔ (∀ t ∈ T, okT t = true) ∧ Rising T := by
  unfold wishB
  rw [List.all_eq_true]
  constructor
  · intro h
    have key : ∀ i, ∀ hi : i < T.length, okT T[i] = true ∧ (0 < i → ltS T[i - 1].1 T[i].1 = true) := fun i hi => by
      have h1 := h i (by simpa using hi)
      unfold wishAt at h1
      rw [getD_eq T i hi, getD_eq T (i - 1) (by omega)] at h1
      simp only [Bool.and_eq_true, Bool.or_eq_true, decide_eq_true_eq] at h1
      refine ⟨by unfold okT; rw [h1.1.1, h1.1.2]; rfl, fun h0 => ?_⟩
      rcases h1.2 with h2 | h2
      · omega
      · exact h2
    refine ⟨fun t ht => ?_, ?_⟩
    · obtain ⟨i, hi, rfl⟩ := List.getElem_of_mem ht
      exact (key i hi).1
    · unfold Rising
      rw [List.pairwise_iff_getElem]
      have far : ∀ d i, ∀ (hi : i < T.length) (hj : i + d + 1 < T.length), ltS T[i].1 T[i + d + 1].1 = true := by
        intro d
        induction d with
        | zero => intro i hi hj; exact (key (i + 1) hj).2 (by omega)
        | succ d ih => intro i hi hj; exact ltS_trans (ih i hi (by omega)) ((key (i + d + 1 + 1) (by omega)).2 (by omega))
      intro i j hi hj hij
      obtain ⟨d, rfl⟩ : ∃ d, j = i + d + 1 := ⟨j - i - 1, by omega⟩
      exact far d i hi hj
  · rintro ⟨h1, h2⟩ i hi
    rw [List.mem_range] at hi
    unfold wishAt
    rw [getD_eq T i hi, getD_eq T (i - 1) (by omega)]
    have a := h1 _ (List.getElem_mem hi)
    unfold okT at a
    simp only [Bool.and_eq_true] at a
    rw [a.1, a.2]
    simp only [Bool.true_and, Bool.or_eq_true, decide_eq_true_eq]
    rcases Nat.eq_zero_or_pos i with h0 | h0
    · exact .inl h0
    · unfold Rising at h2
      rw [List.pairwise_iff_getElem] at h2
      exact .inr (h2 (i - 1) i (by omega) hi (by omega))
def Apart (T : List Tr) : Prop := T.Pairwise fun x y => x.1 ≠ y.1
theorem Rising.apart {T : List Tr} (h : Rising T) : Apart T := List.Pairwise.imp (fun h => ltS_ne h) h
theorem Apart.nodup {T : List Tr} (h : Apart T) : T.Nodup := List.Pairwise.imp (fun h e => h (by rw [e])) h
theorem Apart.eq {T : List Tr} (h : Apart T) {x y : Tr} (hx : x ∈ T) (hy : y ∈ T) (e : x.1 = y.1) : x = y := by
  induction T with
  | nil => cases hx
  | cons t T ih =>
    unfold Apart at h
    rw [List.pairwise_cons] at h
    rcases List.mem_cons.1 hx with rfl | hx'
    · rcases List.mem_cons.1 hy with rfl | hy'
      · rfl
      · exact absurd e (h.1 y hy')
    · rcases List.mem_cons.1 hy with rfl | hy'
      · exact absurd e.symm (h.1 x hx')
      · exact ih h.2 hx' hy'

/-! ### both -/
def nmIn (a : List Tr) (nm : ByteArray) : Bool := a.any fun t => eqB t.1 nm
def addTo (a b : List Tr) (k : Nat) : List Tr := a ++ (b.take k).filter fun x => !nmIn a x.1
def clashAt (a : List Tr) (x : Tr) : Bool := a.any fun t => eqB t.1 x.1 && !eqB t.2 x.2
def clashB (a b : List Tr) : Bool := b.any (clashAt a)
def bothL (a b : List Tr) : List Tr := addTo a b b.length
theorem bothL_eq (a b : List Tr) : bothL a b = a ++ b.filter fun x => !nmIn a x.1 := by
  unfold bothL addTo; rw [List.take_of_length_le (Nat.le_refl _)]
theorem addTo_next (a b : List Tr) (k : Nat) (hk : k < b.length) : addTo a b (k + 1) = addTo a b k ++ if nmIn a (b.getD k tr0).1 then [] else [b.getD k tr0] := by
  unfold addTo
  rw [List.take_succ_eq_append_getElem hk, List.filter_append, ← List.append_assoc, getD_eq b k hk]
  congr 1
  cases h : nmIn a b[k].1 <;> simp [h]
theorem addTo_len (a b : List Tr) (k : Nat) : (addTo a b k).length ≤ a.length + b.length := by
  unfold addTo
  rw [List.length_append]
  have h1 := List.length_filter_le (fun x : Tr => !nmIn a x.1) (b.take k)
  have h2 : (b.take k).length ≤ b.length := by rw [List.length_take]; omega
  omega
theorem nmIn_iff (a : List Tr) (nm : ByteArray) : nmIn a nm = true ↔ ∃ t ∈ a, t.1 = nm := by
  unfold nmIn; rw [List.any_eq_true]
  constructor
  · rintro ⟨t, ht, e⟩; exact ⟨t, ht, (eqB_iff _ _).1 e⟩
  · rintro ⟨t, ht, e⟩; exact ⟨t, ht, (eqB_iff _ _).2 e⟩
theorem clashAt_iff (a : List Tr) (x : Tr) : clashAt a x = true ↔ ∃ t ∈ a, t.1 = x.1 ∧ t.2 ≠ x.2 := by
  unfold clashAt; rw [List.any_eq_true]
  constructor
  · rintro ⟨t, ht, e⟩
    simp only [Bool.and_eq_true, Bool.not_eq_true', eqB_iff, eqB_false] at e
    exact ⟨t, ht, e⟩
  · rintro ⟨t, ht, e⟩
    refine ⟨t, ht, ?_⟩
    simp only [Bool.and_eq_true, Bool.not_eq_true', eqB_iff, eqB_false]
    exact e
theorem clash_iff (a b : List Tr) : clashB a b = true ↔ ∃ x ∈ b, ∃ t ∈ a, t.1 = x.1 ∧ t.2 ≠ x.2 := by
  unfold clashB; rw [List.any_eq_true]
  constructor
  · rintro ⟨x, hx, e⟩; obtain ⟨t, ht, h⟩ := (clashAt_iff a x).1 e; exact ⟨x, hx, t, ht, h⟩
  · rintro ⟨x, hx, t, ht, h⟩; exact ⟨x, hx, (clashAt_iff a x).2 ⟨t, ht, h⟩⟩
theorem clash_comm (a b : List Tr) : clashB a b = clashB b a := by
  rw [Bool.eq_iff_iff, clash_iff, clash_iff]
  constructor
  · rintro ⟨x, hx, t, ht, h1, h2⟩; exact ⟨t, ht, x, hx, h1.symm, h2.symm⟩
  · rintro ⟨x, hx, t, ht, h1, h2⟩; exact ⟨t, ht, x, hx, h1.symm, h2.symm⟩
/-- of one name there is one setting of a wish: what the code asks of it. -/
theorem clash_at (a : List Tr) (x : Tr) (h : Apart a) (i : Nat) (hi : i < a.length) (hn : eqB (a.getD i tr0).1 x.1 = true) : clashAt a x = !eqB (a.getD i tr0).2 x.2 := by
  rw [getD_eq a i hi] at hn ⊢
  rw [eqB_iff] at hn
  cases e : eqB a[i].2 x.2 with
  | true =>
    rw [eqB_iff] at e
    rw [Bool.not_true, ← Bool.not_eq_true, clashAt_iff]
    rintro ⟨t, ht, h1, h2⟩
    have := h.eq ht (List.getElem_mem hi) (by rw [h1, hn])
    exact h2 (by rw [this, e])
  | false =>
    rw [eqB_false] at e
    rw [Bool.not_false, clashAt_iff]
    exact ⟨a[i], List.getElem_mem hi, hn, e⟩
theorem clash_none (a : List Tr) (x : Tr) (hn : nmIn a x.1 = false) : clashAt a x = false := by
  rw [← Bool.not_eq_true, clashAt_iff]
  rintro ⟨t, ht, h1, _⟩
  rw [(nmIn_iff a x.1).2 ⟨t, ht, h1⟩] at hn; cases hn
theorem both_mem (a b : List Tr) (hc : clashB a b = false) (x : Tr) : x ∈ bothL a b ↔ x ∈ a ∨ x ∈ b := by
  rw [bothL_eq, List.mem_append, List.mem_filter]
  constructor
  · rintro (h | h)
    · exact .inl h
    · exact .inr h.1
  · rintro (h | h)
    · exact .inl h
    · cases hn : nmIn a x.1 with
      | false => exact .inr ⟨h, rfl⟩
      | true =>
        obtain ⟨t, ht, e⟩ := (nmIn_iff a x.1).1 hn
        left
        have : t.2 = x.2 := by
          refine Classical.byContradiction fun hne => ?_
          rw [(clash_iff a b).2 ⟨x, h, t, ht, e, hne⟩] at hc; cases hc
        have e2 : t = x := by cases t; cases x; simp_all
        rw [← e2]; exact ht
theorem both_apart (a b : List Tr) (ha : Apart a) (hb : Apart b) : Apart (bothL a b) := by
  rw [bothL_eq]
  unfold Apart
  rw [List.pairwise_append]
  refine ⟨ha, List.Pairwise.filter _ hb, fun x hx y hy e => ?_⟩
  rw [List.mem_filter] at hy
  have h2 := hy.2
  simp only [Bool.not_eq_true'] at h2
  rw [(nmIn_iff a y.1).2 ⟨x, hx, e⟩] at h2; cases h2
/-- what is in order with names apart rises. -/
theorem rising_of (C X : List Tr) (hp : C.Perm X) (hx : Apart X) (hs : C.Pairwise fun x y => ltS y.1 x.1 = false) : Rising C := by
  have ha : Apart C := (hp.pairwise_iff (fun h => Ne.symm h)).2 hx
  unfold Rising Apart at *
  have := hs.and ha
  exact List.Pairwise.imp (fun {x y} h => by
    cases e : ltS x.1 y.1 with
    | true => rfl
    | false => exact absurd (ltS_total e h.1) h.2) this
theorem rising_unique {C D : List Tr} (hc : Rising C) (hd : Rising D) (hm : ∀ x, x ∈ C ↔ x ∈ D) : C = D := by
  have hp : C.Perm D := (List.perm_ext_iff_of_nodup hc.apart.nodup hd.apart.nodup).2 hm
  refine List.Perm.eq_of_pairwise (le := fun (x y : Tr) => ltS x.1 y.1 = true) ?_ hc hd hp
  intro x y _ _ h1 h2
  have := ltS_asymm h1
  rw [h2] at this; cases this
theorem meets_iff (S W : List Tr) : meetsB S W = true ↔ ∀ x ∈ W, x ∈ S := by
  unfold meetsB
  rw [List.all_eq_true]
  have key : ∀ x, hasT S x = true ↔ x ∈ S := fun x => by
    unfold hasT
    rw [List.any_eq_true]
    constructor
    · rintro ⟨y, hy, e⟩
      simp only [Bool.and_eq_true, eqB_iff] at e
      have : y = x := by cases y; cases x; simp_all
      rw [← this]; exact hy
    · intro h
      exact ⟨x, h, by simp [eqB_refl]⟩
  constructor
  · intro h x hx; exact (key x).1 (h x hx)
  · intro h x hx; exact (key x).2 (h x hx)
theorem meets_both (S a b C : List Tr) (hm : ∀ x, x ∈ C ↔ x ∈ a ∨ x ∈ b) : meetsB S C = (meetsB S a && meetsB S b) := by
  rw [Bool.eq_iff_iff, Bool.and_eq_true, meets_iff, meets_iff, meets_iff]
  constructor
  · intro h; exact ⟨fun x hx => h x ((hm x).2 (.inl hx)), fun x hx => h x ((hm x).2 (.inr hx))⟩
  · rintro ⟨h1, h2⟩ x hx
    rcases (hm x).1 hx with h | h
    · exact h1 x h
    · exact h2 x h
/-- no settings of variants meet two that clash. -/
theorem no_both (L : List Vr) (S a b : List Tr) (hm : mayL L = true) (hl : legalB L S = true) (ha : meetsB S a = true) (hb : meetsB S b = true) (hc : clashB a b = true) : False := by
  obtain ⟨x, hx, t, ht, e1, e2⟩ := (clash_iff a b).1 hc
  have h1 := (meets_iff S b).1 hb x hx
  have h2 := (meets_iff S a).1 ha t ht
  unfold legalB at hl
  simp only [Bool.and_eq_true, decide_eq_true_eq, List.all_eq_true] at hl
  obtain ⟨i, hi, ei⟩ := List.getElem_of_mem h1
  obtain ⟨j, hj, ej⟩ := List.getElem_of_mem h2
  have li := hl.2 i (by simp; omega)
  have lj := hl.2 j (by simp; omega)
  unfold legalAt at li lj
  rw [getD_eq S i hi] at li
  rw [getD_eq S j hj] at lj
  simp only [Bool.and_eq_true, eqB_iff] at li lj
  have := names_apart hm i j (by omega) (by omega) (by rw [li.1, lj.1, ei, ej, e1])
  subst this
  rw [ei] at ej
  exact e2 (by rw [ej])

end Go.Proofs.Ytbffcehaednefaa.Variant
