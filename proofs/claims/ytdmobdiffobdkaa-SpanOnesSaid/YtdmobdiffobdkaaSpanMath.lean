/- Spans of versions as pairs of texts. -/
import Derived.Test.YtdmobdiffobdkaaVerMath
namespace Go.Proofs.Ytdmobdiffobdkaa.Ver
set_option linter.unusedVariables false

def boundB (s : Bs) : Bool := s.isEmpty || mayV s
def spanB (lo hi : Bs) : Bool := boundB lo && boundB hi && (lo.isEmpty || hi.isEmpty || decide (cmpV lo hi ≤ 0))
def lowerB (v lo : Bs) : Bool := if v.isEmpty || lo.isEmpty then v.isEmpty && !lo.isEmpty else decide (cmpV v lo < 0)
def higherB (v hi : Bs) : Bool := if v.isEmpty || hi.isEmpty then v.isEmpty && !hi.isEmpty else decide (0 < cmpV v hi)
def hasB (lo hi v : Bs) : Bool := spanB lo hi && mayV v && !lowerB v lo && !higherB v hi
def upLo (lo lo' : Bs) : Bs := if lowerB lo lo' then lo' else lo
def downHi (hi hi' : Bs) : Bs := if higherB hi hi' then hi' else hi
def meetB (lo hi lo' hi' : Bs) : Bool := spanB lo hi && spanB lo' hi' && spanB (upLo lo lo') (downHi hi hi')
def meetS (lo hi lo' hi' : Bs) : Bs × Bs := if meetB lo hi lo' hi' then (upLo lo lo', downHi hi hi') else ([], [])
def downLo (lo lo' : Bs) : Bs := if lowerB lo' lo then lo' else lo
def upHi (hi hi' : Bs) : Bs := if higherB hi' hi then hi' else hi
def joinS (lo hi lo' hi' : Bs) : Bs × Bs := if spanB lo hi && spanB lo' hi' then (downLo lo lo', upHi hi hi') else ([], [])
def withinB (lo hi lo' hi' : Bs) : Bool := spanB lo hi && spanB lo' hi' && !lowerB lo lo' && !higherB hi hi'
def textS (lo hi : Bs) : Bs := if lo = hi ∧ lo ≠ [] then lo else lo ++ 58 :: hi
def textB (lo hi : Bs) : Bs := if spanB lo hi then textS lo hi else []

theorem may_ne {v : Bs} (h : mayV v = true) : v.isEmpty = false := by
  cases v with
  | nil => simp [mayV] at h
  | cons _ _ => rfl
theorem bound_cases {s : Bs} (h : boundB s = true) : s = [] ∨ (mayV s = true ∧ s.isEmpty = false) := by
  simp only [boundB, Bool.or_eq_true] at h
  rcases h with h | h
  · exact .inl (List.isEmpty_iff.1 h)
  · exact .inr ⟨h, may_ne h⟩
theorem span_parts {lo hi : Bs} (h : spanB lo hi = true) : boundB lo = true ∧ boundB hi = true ∧ (lo.isEmpty = false → hi.isEmpty = false → cmpV lo hi ≤ 0) := by
  simp only [spanB, Bool.and_eq_true, Bool.or_eq_true, decide_eq_true_eq] at h
  refine ⟨h.1.1, h.1.2, fun h1 h2 => ?_⟩
  rcases h.2 with (h3 | h3) | h3
  · rw [h1] at h3; cases h3
  · rw [h2] at h3; cases h3
  · exact h3
theorem span_mk {lo hi : Bs} (h1 : boundB lo = true) (h2 : boundB hi = true) (h3 : lo.isEmpty = false → hi.isEmpty = false → cmpV lo hi ≤ 0) : spanB lo hi = true := by
  simp only [spanB, Bool.and_eq_true, Bool.or_eq_true, decide_eq_true_eq]
  refine ⟨⟨h1, h2⟩, ?_⟩
  cases e1 : lo.isEmpty with
  | true => exact .inl (.inl rfl)
  | false =>
    cases e2 : hi.isEmpty with
    | true => exact .inl (.inr rfl)
    | false => exact .inr (h3 e1 e2)
theorem lower_v {v lo : Bs} (h : mayV v = true) : lowerB v lo = (!lo.isEmpty && decide (cmpV v lo < 0)) := by
  unfold lowerB
  rw [may_ne h]
  cases lo.isEmpty <;> simp
theorem higher_v {v hi : Bs} (h : mayV v = true) : higherB v hi = (!hi.isEmpty && decide (0 < cmpV v hi)) := by
  unfold higherB
  rw [may_ne h]
  cases hi.isEmpty <;> simp
theorem has_iff {lo hi v : Bs} : hasB lo hi v = true ↔ spanB lo hi = true ∧ mayV v = true ∧ (lo.isEmpty = false → cmpV lo v ≤ 0) ∧ (hi.isEmpty = false → cmpV v hi ≤ 0) := by
  unfold hasB
  cases hv : mayV v with
  | false => simp
  | true =>
    rw [lower_v hv, higher_v hv, ord_v.anti v lo]
    have e0 : ∀ x : Int, (-x ≤ 0) ↔ (0 ≤ x) := fun x => by omega
    simp only [e0]
    cases e1 : lo.isEmpty <;> cases e2 : hi.isEmpty <;> simp [and_assoc]

theorem up_lo {lo lo' : Bs} (h : boundB lo = true) (h' : boundB lo' = true) : boundB (upLo lo lo') = true ∧ ∀ v, mayV v = true → (((upLo lo lo').isEmpty = false → cmpV (upLo lo lo') v ≤ 0) ↔ ((lo.isEmpty = false → cmpV lo v ≤ 0) ∧ (lo'.isEmpty = false → cmpV lo' v ≤ 0))) := by
  unfold upLo
  rcases bound_cases h with rfl | ⟨m1, e1⟩ <;> rcases bound_cases h' with rfl | ⟨m2, e2⟩
  · unfold lowerB; simp [h]
  · unfold lowerB; simp [e2, h']
  · unfold lowerB; simp [e1, h]
  · have hl : lowerB lo lo' = decide (cmpV lo lo' < 0) := by unfold lowerB; simp [e1, e2]
    rw [hl]
    by_cases hc : cmpV lo lo' < 0
    · rw [decide_eq_true hc, if_pos rfl]
      refine ⟨h', fun v hv => ⟨fun hx => ⟨fun _ => ord_v.tr _ _ _ (by omega) (hx e2), hx⟩, fun hx => hx.2⟩⟩
    · rw [decide_eq_false hc, if_neg (by decide)]
      have a1 := ord_v.anti lo lo'
      refine ⟨h, fun v hv => ⟨fun hx => ⟨hx, fun _ => ord_v.tr _ _ _ (by omega) (hx e1)⟩, fun hx => hx.1⟩⟩
theorem down_hi {hi hi' : Bs} (h : boundB hi = true) (h' : boundB hi' = true) : boundB (downHi hi hi') = true ∧ ∀ v, mayV v = true → (((downHi hi hi').isEmpty = false → cmpV v (downHi hi hi') ≤ 0) ↔ ((hi.isEmpty = false → cmpV v hi ≤ 0) ∧ (hi'.isEmpty = false → cmpV v hi' ≤ 0))) := by
  unfold downHi
  rcases bound_cases h with rfl | ⟨m1, e1⟩ <;> rcases bound_cases h' with rfl | ⟨m2, e2⟩
  · unfold higherB; simp [h]
  · unfold higherB; simp [e2, h']
  · unfold higherB; simp [e1, h]
  · have hl : higherB hi hi' = decide (0 < cmpV hi hi') := by unfold higherB; simp [e1, e2]
    rw [hl]
    have a1 := ord_v.anti hi hi'
    by_cases hc : 0 < cmpV hi hi'
    · rw [decide_eq_true hc, if_pos rfl]
      refine ⟨h', fun v hv => ⟨fun hx => ⟨fun _ => ord_v.tr _ _ _ (hx e2) (by omega), hx⟩, fun hx => hx.2⟩⟩
    · rw [decide_eq_false hc, if_neg (by decide)]
      refine ⟨h, fun v hv => ⟨fun hx => ⟨hx, fun _ => ord_v.tr _ _ _ (hx e1) (by omega)⟩, fun hx => hx.1⟩⟩
theorem down_lo {lo lo' : Bs} (h : boundB lo = true) (h' : boundB lo' = true) : boundB (downLo lo lo') = true ∧ (downLo lo lo' = lo ∨ downLo lo lo' = lo') ∧ lowerB lo (downLo lo lo') = false ∧ lowerB lo' (downLo lo lo') = false := by
  unfold downLo
  cases hl : lowerB lo' lo with
  | true =>
    simp only [if_true]
    refine ⟨h', .inr trivial, ?_, ?_⟩
    · unfold lowerB at hl ⊢
      rcases bound_cases h with rfl | ⟨m1, e1⟩ <;> rcases bound_cases h' with rfl | ⟨m2, e2⟩
      · simp
      · simp at hl
      · simp
      · have a1 := ord_v.anti lo lo'
        simp only [e1, e2, Bool.or_self, Bool.false_eq_true, if_false, decide_eq_true_eq, decide_eq_false_iff_not] at hl ⊢
        omega
    · unfold lowerB
      rw [ord_v.refl]
      cases lo'.isEmpty <;> simp
  | false =>
    simp only [Bool.false_eq_true, if_false]
    refine ⟨h, .inl trivial, ?_, hl⟩
    unfold lowerB
    rw [ord_v.refl]
    cases lo.isEmpty <;> simp
theorem up_hi {hi hi' : Bs} (h : boundB hi = true) (h' : boundB hi' = true) : boundB (upHi hi hi') = true ∧ (upHi hi hi' = hi ∨ upHi hi hi' = hi') ∧ higherB hi (upHi hi hi') = false ∧ higherB hi' (upHi hi hi') = false := by
  unfold upHi
  cases hl : higherB hi' hi with
  | true =>
    simp only [if_true]
    refine ⟨h', .inr trivial, ?_, ?_⟩
    · unfold higherB at hl ⊢
      rcases bound_cases h with rfl | ⟨m1, e1⟩ <;> rcases bound_cases h' with rfl | ⟨m2, e2⟩
      · simp
      · simp at hl
      · simp
      · have a1 := ord_v.anti hi hi'
        simp only [e1, e2, Bool.or_self, Bool.false_eq_true, if_false, decide_eq_true_eq, decide_eq_false_iff_not] at hl ⊢
        omega
    · unfold higherB
      rw [ord_v.refl]
      cases hi'.isEmpty <;> simp
  | false =>
    simp only [Bool.false_eq_true, if_false]
    refine ⟨h, .inl trivial, ?_, hl⟩
    unfold higherB
    rw [ord_v.refl]
    cases hi.isEmpty <;> simp

theorem meet_has (lo hi lo' hi' v : Bs) : (meetB lo hi lo' hi' && hasB (meetS lo hi lo' hi').1 (meetS lo hi lo' hi').2 v) = (hasB lo hi v && hasB lo' hi' v) := by
  rw [Bool.eq_iff_iff]
  simp only [Bool.and_eq_true, has_iff]
  constructor
  · rintro ⟨hm, hs, hv, h1, h2⟩
    simp only [meetS, hm, if_true] at hs h1 h2
    have hm' := hm
    simp only [meetB, Bool.and_eq_true] at hm'
    obtain ⟨b1, b2, _⟩ := span_parts hm'.1.1
    obtain ⟨b3, b4, _⟩ := span_parts hm'.1.2
    have u := ((up_lo b1 b3).2 v hv).1 h1
    have d := ((down_hi b2 b4).2 v hv).1 h2
    exact ⟨⟨hm'.1.1, hv, u.1, d.1⟩, hm'.1.2, hv, u.2, d.2⟩
  · rintro ⟨⟨s1, hv, l1, r1⟩, s2, _, l2, r2⟩
    obtain ⟨b1, b2, _⟩ := span_parts s1
    obtain ⟨b3, b4, _⟩ := span_parts s2
    have u := ((up_lo b1 b3).2 v hv).2 ⟨l1, l2⟩
    have d := ((down_hi b2 b4).2 v hv).2 ⟨r1, r2⟩
    have s3 : spanB (upLo lo lo') (downHi hi hi') = true := span_mk (up_lo b1 b3).1 (down_hi b2 b4).1 fun e1 e2 => ord_v.tr _ _ _ (u e1) (d e2)
    have hm : meetB lo hi lo' hi' = true := by simp [meetB, s1, s2, s3]
    refine ⟨hm, ?_⟩
    simp only [meetS, hm, if_true]
    exact ⟨s3, hv, u, d⟩

theorem not_lower {lo lo' : Bs} (h : boundB lo = true) (h' : boundB lo' = true) : lowerB lo lo' = false ↔ (lo'.isEmpty = false → lo.isEmpty = false ∧ cmpV lo' lo ≤ 0) := by
  unfold lowerB
  rcases bound_cases h with rfl | ⟨m1, e1⟩ <;> rcases bound_cases h' with rfl | ⟨m2, e2⟩
  · simp
  · simp [e2]
  · simp [e1]
  · have a1 := ord_v.anti lo lo'
    simp only [e1, e2, Bool.or_self, Bool.false_eq_true, if_false, decide_eq_false_iff_not, true_and, forall_const]
    omega
theorem not_higher {hi hi' : Bs} (h : boundB hi = true) (h' : boundB hi' = true) : higherB hi hi' = false ↔ (hi'.isEmpty = false → hi.isEmpty = false ∧ cmpV hi hi' ≤ 0) := by
  unfold higherB
  rcases bound_cases h with rfl | ⟨m1, e1⟩ <;> rcases bound_cases h' with rfl | ⟨m2, e2⟩
  · simp
  · simp [e2]
  · simp [e1]
  · simp only [e1, e2, Bool.or_self, Bool.false_eq_true, if_false, decide_eq_false_iff_not, true_and, forall_const]
    omega
theorem within_iff {lo hi lo' hi' : Bs} : withinB lo hi lo' hi' = true ↔ spanB lo hi = true ∧ spanB lo' hi' = true ∧ (lo'.isEmpty = false → lo.isEmpty = false ∧ cmpV lo' lo ≤ 0) ∧ (hi'.isEmpty = false → hi.isEmpty = false ∧ cmpV hi hi' ≤ 0) := by
  unfold withinB
  simp only [Bool.and_eq_true, Bool.not_eq_true']
  constructor
  · rintro ⟨⟨⟨s1, s2⟩, h1⟩, h2⟩
    obtain ⟨b1, b2, _⟩ := span_parts s1
    obtain ⟨b3, b4, _⟩ := span_parts s2
    exact ⟨s1, s2, (not_lower b1 b3).1 h1, (not_higher b2 b4).1 h2⟩
  · rintro ⟨s1, s2, h1, h2⟩
    obtain ⟨b1, b2, _⟩ := span_parts s1
    obtain ⟨b3, b4, _⟩ := span_parts s2
    exact ⟨⟨⟨s1, s2⟩, (not_lower b1 b3).2 h1⟩, (not_higher b2 b4).2 h2⟩
theorem within_has {lo hi lo' hi' v : Bs} (h : withinB lo hi lo' hi' = true) (hv : hasB lo hi v = true) : hasB lo' hi' v = true := by
  obtain ⟨s1, s2, h1, h2⟩ := within_iff.1 h
  obtain ⟨_, hm, l, r⟩ := has_iff.1 hv
  exact has_iff.2 ⟨s2, hm, fun e => ord_v.tr _ _ _ (h1 e).2 (l (h1 e).1), fun e => ord_v.tr _ _ _ (r (h2 e).1) (h2 e).2⟩
theorem join_span {lo hi lo' hi' : Bs} (h1 : spanB lo hi = true) (h2 : spanB lo' hi' = true) : spanB (downLo lo lo') (upHi hi hi') = true := by
  obtain ⟨b1, b2, c1⟩ := span_parts h1
  obtain ⟨b3, b4, c2⟩ := span_parts h2
  obtain ⟨d1, d2, d3, d4⟩ := down_lo b1 b3
  obtain ⟨u1, u2, u3, u4⟩ := up_hi b2 b4
  refine span_mk d1 u1 fun e1 e2 => ?_
  have x1 := (not_lower b1 d1).1 d3 e1
  have x2 := (not_higher b2 u1).1 u3 e2
  exact ord_v.tr _ _ _ x1.2 (ord_v.tr _ _ _ (c1 x1.1 x2.1) x2.2)
theorem join_wide {lo hi lo' hi' : Bs} (h1 : spanB lo hi = true) (h2 : spanB lo' hi' = true) : withinB lo hi (downLo lo lo') (upHi hi hi') = true ∧ withinB lo' hi' (downLo lo lo') (upHi hi hi') = true := by
  obtain ⟨b1, b2, c1⟩ := span_parts h1
  obtain ⟨b3, b4, c2⟩ := span_parts h2
  obtain ⟨d1, d2, d3, d4⟩ := down_lo b1 b3
  obtain ⟨u1, u2, u3, u4⟩ := up_hi b2 b4
  have s := join_span h1 h2
  simp [withinB, h1, h2, s, d3, d4, u3, u4]
theorem join_least {lo hi lo' hi' lo2 hi2 : Bs} (h1 : withinB lo hi lo2 hi2 = true) (h2 : withinB lo' hi' lo2 hi2 = true) : withinB (downLo lo lo') (upHi hi hi') lo2 hi2 = true := by
  obtain ⟨s1, s2, l1, r1⟩ := within_iff.1 h1
  obtain ⟨s3, _, l2, r2⟩ := within_iff.1 h2
  obtain ⟨b1, b2, _⟩ := span_parts s1
  obtain ⟨b3, b4, _⟩ := span_parts s3
  refine within_iff.2 ⟨join_span s1 s3, s2, fun e => ?_, fun e => ?_⟩
  · rcases (down_lo b1 b3).2.1 with h | h <;> rw [h]
    · exact l1 e
    · exact l2 e
  · rcases (up_hi b2 b4).2.1 with h | h <;> rw [h]
    · exact r1 e
    · exact r2 e
theorem within_all {lo hi : Bs} (h : spanB lo hi = true) : withinB lo hi [] [] = true ∧ withinB lo hi lo hi = true := by
  have e : spanB [] [] = true := rfl
  refine ⟨within_iff.2 ⟨h, e, by simp, by simp⟩, within_iff.2 ⟨h, h, fun e => ⟨e, by rw [ord_v.refl]; omega⟩, fun e => ⟨e, by rw [ord_v.refl]; omega⟩⟩⟩
theorem one_span {v : Bs} : spanB v v = boundB v := by
  unfold spanB
  rw [ord_v.refl]
  cases boundB v <;> simp
theorem one_has {v w : Bs} (h0 : v.isEmpty = false) (h : boundB v = true) : hasB v v w = decide (v = w) := by
  have hm : mayV v = true := by simp only [boundB, h0, Bool.false_or] at h; exact h
  rw [Bool.eq_iff_iff, has_iff, decide_eq_true_eq, one_span]
  constructor
  · rintro ⟨_, hw, h1, h2⟩
    have a := ord_v.anti v w
    have x1 := h1 h0
    have x2 := h2 h0
    exact v_eq hm hw (by omega)
  · rintro rfl
    exact ⟨h, hm, fun _ => by rw [ord_v.refl]; omega, fun _ => by rw [ord_v.refl]; omega⟩

/-! ### texts -/
theorem may_no (v : Bs) (c : UInt8) (h : mayV v = true) (hc : low c = false) (hd : dig c = false) (h46 : c ≠ 46) : c ∉ v := by
  have hp : ∀ p ∈ cutAt 46 v, c ∉ p := fun p hp hm => by
    have := may_all h p hp
    simp only [partP, Bool.or_eq_true] at this
    rcases this with h1 | h1
    · simp only [lettersP, Bool.and_eq_true, List.all_eq_true] at h1
      rw [h1.1 c hm] at hc; cases hc
    · have h2 := num_digits h1
      simp only [digitsP, Bool.and_eq_true, List.all_eq_true] at h2
      rw [h2.1 c hm] at hd; cases hd
  have key : ∀ l : List Bs, (∀ p ∈ l, c ∉ p) → c ∉ joinAt 46 l := by
    intro l
    induction l with
    | nil => simp [joinAt]
    | cons p l ih =>
      intro h
      cases l with
      | nil => simpa [joinAt] using h
      | cons q l =>
        simp only [joinAt, List.mem_append, List.mem_cons, not_or]
        exact ⟨h p (by simp), h46, ih fun p hp => h p (by simp [hp])⟩
  rw [← join_cut 46 v]
  exact key _ hp
theorem bound_no {v : Bs} (h : boundB v = true) : (58 : UInt8) ∉ v := by
  rcases bound_cases h with rfl | ⟨m, _⟩
  · simp
  · exact may_no v 58 m (by decide) (by decide) (by decide)
theorem text_cut {lo hi : Bs} (h1 : boundB lo = true) (h2 : boundB hi = true) : cutAt 58 (lo ++ 58 :: hi) = [lo, hi] := by
  rw [cut_at 58 _ _ (bound_no h1), cut_none 58 _ (bound_no h2)]

end Go.Proofs.Ytdmobdiffobdkaa.Ver
