/- Clauses: a clause's form, as lists. -/
import Derived.Lib.SlicesCompact
namespace Go.Proofs.YtlgakejjakeomaaDoor.Cnf
open Go.Lib
set_option linter.unusedVariables false
set_option linter.unusedSimpArgs false

def noneI (x : Int) : Bool := decide (x = 0) || decide (x = -9223372036854775808)
def insAt (out : List Int) (x : Int) : Nat := (out.takeWhile fun y => decide (y.natAbs < x.natAbs)).length
def stepF (out : List Int) (x : Int) : Option (List Int) :=
  if noneI x = true then none else
  if out[insAt out x]? = some (-x) then none else
  if out[insAt out x]? = some x then some out else some (out.take (insAt out x) ++ x :: out.drop (insAt out x))
def formFrom (out : List Int) : List Int → Option (List Int)
  | [] => some out
  | x :: l => (stepF out x).bind fun o => formFrom o l
def formOf (l : List Int) : Option (List Int) := formFrom [] l
def Asc (f : List Int) : Prop := f.Pairwise fun x y => x.natAbs < y.natAbs
def OkL (l : List Int) : Prop := (∀ x ∈ l, noneI x = false) ∧ ∀ x ∈ l, -x ∉ l

theorem insAt_split (out : List Int) (x : Int) (h : Asc out) : ∃ p r, out = p ++ r ∧ p.length = insAt out x ∧ (∀ y ∈ p, y.natAbs < x.natAbs) ∧ (∀ y, r.head? = some y → x.natAbs ≤ y.natAbs) ∧ Asc r := by
  refine ⟨out.takeWhile fun y => decide (y.natAbs < x.natAbs), out.dropWhile fun y => decide (y.natAbs < x.natAbs), (List.takeWhile_append_dropWhile).symm, rfl, fun y hy => ?_, fun y hy => ?_, ?_⟩
  · have := List.all_takeWhile (p := fun y : Int => decide (y.natAbs < x.natAbs)) (l := out)
    rw [List.all_eq_true] at this
    simpa using this y hy
  · have := List.head?_dropWhile_not (fun y : Int => decide (y.natAbs < x.natAbs)) out
    rw [hy] at this
    simpa using this
  · exact List.Pairwise.sublist (List.dropWhile_sublist _) h

theorem tail_gt {r : List Int} {y : Int} (h : Asc (y :: r)) : ∀ z ∈ r, y.natAbs < z.natAbs := (List.pairwise_cons.1 h).1

theorem abs_eq {x y : Int} (h : x.natAbs = y.natAbs) : y = x ∨ y = -x := by omega

theorem step_some {out o : List Int} {x : Int} (h : Asc out) (hs : stepF out x = some o) : noneI x = false ∧ Asc o ∧ ∀ y, y ∈ o ↔ y ∈ out ∨ y = x := by
  unfold stepF at hs
  obtain ⟨p, r, e, hl, hp, hr, har⟩ := insAt_split out x h
  have hget : out[insAt out x]? = r.head? := by rw [e, ← hl, ← e] at *; rw [e, List.getElem?_append_right (by omega)]; simp [← hl, List.head?_eq_getElem?]
  rw [hget] at hs
  split at hs
  · cases hs
  split at hs
  · cases hs
  rename_i h0 h1
  split at hs
  · rename_i h2
    cases hs
    refine ⟨by simpa using h0, h, fun y => ⟨.inl, fun hy => hy.elim id fun hy => ?_⟩⟩
    subst hy
    rw [e]
    exact List.mem_append_right _ (List.mem_of_head? h2)
  · rename_i h2
    have et : out.take (insAt out x) = p := by rw [← hl]; rw [e]; simp
    have ed : out.drop (insAt out x) = r := by rw [← hl]; rw [e]; simp
    rw [et, ed] at hs
    cases hs
    refine ⟨by simpa using h0, ?_, fun y => ?_⟩
    · have hgt : ∀ y ∈ r, x.natAbs < y.natAbs := by
        cases r with
        | nil => intro y hy; cases hy
        | cons z r' =>
          have hz := hr z rfl
          have hz' : x.natAbs < z.natAbs := by
            rcases Nat.lt_or_ge x.natAbs z.natAbs with h3 | h3
            · exact h3
            · have := abs_eq (x := x) (y := z) (by omega)
              rcases this with h4 | h4
              · exact absurd (by rw [h4]; rfl) h2
              · exact absurd (by rw [h4]; rfl) h1
          intro y hy
          rcases List.mem_cons.1 hy with h4 | h4
          · rw [h4]; exact hz'
          · have := tail_gt har y h4; omega
      have h' := h
      rw [e] at h'
      unfold Asc at h' ⊢
      rw [List.pairwise_append] at h' ⊢
      refine ⟨h'.1, List.pairwise_cons.2 ⟨hgt, har⟩, fun a ha b hb => ?_⟩
      rcases List.mem_cons.1 hb with h4 | h4
      · rw [h4]; exact hp a ha
      · exact h'.2.2 a ha b h4
    · rw [e]
      simp only [List.mem_append, List.mem_cons]
      constructor
      · rintro (h4 | h4 | h4)
        · exact .inl (.inl h4)
        · exact .inr h4
        · exact .inl (.inr h4)
      · rintro ((h4 | h4) | h4)
        · exact .inl h4
        · exact .inr (.inr h4)
        · exact .inr (.inl h4)

theorem step_none {out : List Int} {x : Int} (hs : stepF out x = none) : noneI x = true ∨ -x ∈ out := by
  unfold stepF at hs
  split at hs
  · exact .inl (by assumption)
  split at hs
  · rename_i h1
    exact .inr (List.mem_of_getElem? h1)
  split at hs <;> cases hs

theorem ok_congr {a b : List Int} (h : ∀ x, x ∈ a ↔ x ∈ b) (ha : OkL a) : OkL b :=
  ⟨fun x hx => ha.1 x ((h x).2 hx), fun x hx hn => ha.2 x ((h x).2 hx) ((h _).2 hn)⟩

theorem from_some : ∀ {l out f : List Int}, Asc out → formFrom out l = some f → Asc f ∧ (∀ y, y ∈ f ↔ y ∈ out ∨ y ∈ l) ∧ ∀ x ∈ l, noneI x = false
  | [], out, f, h, hs => by
    cases hs
    exact ⟨h, fun y => by simp, fun x hx => by cases hx⟩
  | x :: l, out, f, h, hs => by
    rw [formFrom] at hs
    cases e : stepF out x with
    | none => rw [e] at hs; cases hs
    | some o =>
      rw [e] at hs
      obtain ⟨h0, h1, h2⟩ := step_some h e
      obtain ⟨g1, g2, g3⟩ := from_some (l := l) h1 hs
      refine ⟨g1, fun y => ?_, fun y hy => ?_⟩
      · rw [g2, h2, List.mem_cons, or_assoc]
      · rcases List.mem_cons.1 hy with h4 | h4
        · rw [h4]; exact h0
        · exact g3 y h4

theorem from_none : ∀ {l out : List Int}, Asc out → formFrom out l = none → ¬ OkL (out ++ l)
  | [], out, h, hs, _ => by cases hs
  | x :: l, out, h, hs, ok => by
    rw [formFrom] at hs
    cases e : stepF out x with
    | none =>
      rcases step_none e with h1 | h1
      · have := ok.1 x (by simp); rw [h1] at this; cases this
      · exact ok.2 x (by simp) (List.mem_append_left _ h1)
    | some o =>
      rw [e] at hs
      obtain ⟨h0, h1, h2⟩ := step_some h e
      refine from_none (l := l) h1 hs (ok_congr (fun y => ?_) ok)
      simp only [List.mem_append, h2, List.mem_cons, or_assoc]

theorem asc_uniq : ∀ {f g : List Int}, Asc f → Asc g → (∀ x, x ∈ f ↔ x ∈ g) → f = g
  | [], [], _, _, _ => rfl
  | [], y :: g, _, _, h => absurd ((h y).2 (by simp)) (by simp)
  | x :: f, [], _, _, h => absurd ((h x).1 (by simp)) (by simp)
  | x :: f, y :: g, hf, hg, h => by
    have hx := tail_gt hf
    have hy := tail_gt hg
    have exy : x = y := by
      rcases List.mem_cons.1 ((h x).1 (by simp)) with h1 | h1
      · exact h1
      · rcases List.mem_cons.1 ((h y).2 (by simp)) with h2 | h2
        · exact h2.symm
        · have := hy x h1; have := hx y h2; omega
    subst exy
    congr 1
    refine asc_uniq (List.pairwise_cons.1 hf).2 (List.pairwise_cons.1 hg).2 fun z => ?_
    constructor
    · intro hz
      rcases List.mem_cons.1 ((h z).1 (List.mem_cons_of_mem _ hz)) with h1 | h1
      · have := hx z hz; rw [h1] at this; omega
      · exact h1
    · intro hz
      rcases List.mem_cons.1 ((h z).2 (List.mem_cons_of_mem _ hz)) with h1 | h1
      · have := hy z hz; rw [h1] at this; omega
      · exact h1

theorem asc_opp {f : List Int} (h : Asc f) {x : Int} (hx : x ∈ f) (hn : -x ∈ f) : x = 0 := by
  obtain ⟨i, hi, ei⟩ := List.getElem_of_mem hx
  obtain ⟨j, hj, ej⟩ := List.getElem_of_mem hn
  have hp := List.pairwise_iff_getElem.1 h
  rcases Nat.lt_trichotomy i j with h1 | h1 | h1
  · have := hp i j hi hj h1; rw [ei, ej] at this; omega
  · subst h1; rw [ei] at ej; omega
  · have := hp j i hj hi h1; rw [ei, ej] at this; omega

theorem asc_nil : Asc [] := List.Pairwise.nil

theorem form_some {l f : List Int} : formOf l = some f ↔ (OkL l ∧ Asc f ∧ ∀ y, y ∈ f ↔ y ∈ l) := by
  constructor
  · intro h
    obtain ⟨h1, h2, h3⟩ := from_some asc_nil h
    have h2' : ∀ y, y ∈ f ↔ y ∈ l := fun y => by rw [h2]; simp
    refine ⟨⟨h3, fun x hx hn => ?_⟩, h1, h2'⟩
    have := asc_opp h1 ((h2' x).2 hx) ((h2' _).2 hn)
    have := h3 x hx
    subst x
    simp [noneI] at this
  · rintro ⟨ok, ha, hm⟩
    cases e : formOf l with
    | none => exact absurd (by simpa using ok) (from_none asc_nil e)
    | some g =>
      obtain ⟨h1, h2, h3⟩ := from_some asc_nil e
      rw [asc_uniq h1 ha fun y => by rw [h2, hm]; simp]
theorem form_none {l : List Int} (h : formOf l = none) : ¬ OkL l := by simpa using from_none asc_nil h

/-! The program's way: sorted by atoms, runs struck, opposites looked for. -/
def atomW (x : Int) : Int := if x = -9223372036854775808 then x else (x.natAbs : Int)
def keyLt (x y : Int) : Bool := decide (atomW x < atomW y) || (decide (atomW x = atomW y) && decide (x < y))
theorem keyLt_iff (x y : Int) : keyLt x y = true ↔ (atomW x < atomW y ∨ (atomW x = atomW y ∧ x < y)) := by simp [keyLt]
theorem keyLt_trans {x y z : Int} (h1 : keyLt x y = true) (h2 : keyLt y z = true) : keyLt x z = true := by rw [keyLt_iff] at *; omega
theorem keyLt_tri (x y : Int) (h : keyLt y x = false) : x = y ∨ keyLt x y = true := by
  have h' : ¬ (keyLt y x = true) := by rw [h]; simp
  rw [keyLt_iff] at *
  omega
theorem atomW_abs {x : Int} (h : noneI x = false) : atomW x = (x.natAbs : Int) := by
  unfold atomW; rw [if_neg]; simp [noneI] at h; exact h.2

theorem compact_mem (d : Array Int) : ∀ (m : Nat) (y : Int), y ∈ compactUpTo d m ↔ ∃ j, j < m ∧ d[j]! = y
  | 0, y => by simp [compactUpTo]
  | m + 1, y => by
    rw [compactUpTo_succ, List.mem_append, compact_mem d m y]
    constructor
    · rintro (⟨j, hj, e⟩ | h)
      · exact ⟨j, by omega, e⟩
      · split at h
        · simp at h; exact ⟨m, by omega, h.symm⟩
        · cases h
    · rintro ⟨j, hj, e⟩
      rcases Nat.lt_or_ge j m with h1 | h1
      · exact .inl ⟨j, h1, e⟩
      · obtain rfl : j = m := by omega
        by_cases hk : keeps d j = true
        · right; rw [if_pos hk]; simp [e]
        · left
          have hk' : ¬ (j = 0 ∨ d[j]! ≠ d[j - 1]!) := by simpa [keeps] using hk
          have h2 : d[j]! = d[j - 1]! := by
            by_cases h3 : d[j]! = d[j - 1]!
            · exact h3
            · exact absurd (.inr h3) hk'
          have h3 : j ≠ 0 := fun h => hk' (.inl h)
          exact ⟨j - 1, by omega, by rw [← h2]; exact e⟩

theorem compact_lt (d : Array Int) (hs : ∀ i j, i < j → j < d.size → keyLt d[j]! d[i]! = false) : ∀ m, m ≤ d.size → (compactUpTo d m).Pairwise fun x y => keyLt x y = true
  | 0, _ => by simp [compactUpTo]
  | m + 1, hm => by
    rw [compactUpTo_succ, List.pairwise_append]
    refine ⟨compact_lt d hs m (by omega), by split <;> simp, fun a ha b hb => ?_⟩
    split at hb
    · rename_i hk
      simp at hb
      subst hb
      obtain ⟨j, hj, e⟩ := (compact_mem d m a).1 ha
      have hk' : m = 0 ∨ d[m]! ≠ d[m - 1]! := by simpa [keeps] using hk
      have hne : d[m]! ≠ d[m - 1]! := hk'.elim (fun h => by omega) id
      have h1 : keyLt d[m - 1]! d[m]! = true := (keyLt_tri _ _ (hs (m - 1) m (by omega) (by omega))).elim (fun h => absurd h.symm hne) id
      rw [← e]
      rcases Nat.lt_or_ge j (m - 1) with h2 | h2
      · rcases keyLt_tri _ _ (hs j (m - 1) h2 (by omega)) with h3 | h3
        · rw [h3]; exact h1
        · exact keyLt_trans h3 h1
      · rw [show j = m - 1 by omega]; exact h1
    · cases hb

theorem asc_of : ∀ {c : List Int}, (∀ x ∈ c, noneI x = false) → (c.Pairwise fun x y => keyLt x y = true) → (∀ i, i + 1 < c.length → c.getD (i + 1) 0 ≠ -c.getD i 0) → Asc c
  | [], _, _, _ => asc_nil
  | [x], _, _, _ => List.pairwise_singleton _ _
  | x :: y :: r, hn, hp, ha => by
    have hp' := List.pairwise_cons.1 hp
    have ih := asc_of (c := y :: r) (fun z hz => hn z (List.mem_cons_of_mem _ hz)) hp'.2 (fun i hi => by
      have := ha (i + 1) (by simp at hi ⊢; omega)
      simpa using this)
    have hxy : x.natAbs < y.natAbs := by
      have h1 := hp'.1 y (by simp)
      rw [keyLt_iff, atomW_abs (hn x (by simp)), atomW_abs (hn y (by simp))] at h1
      have h2 := ha 0 (by simp)
      simp at h2
      omega
    refine List.pairwise_cons.2 ⟨fun z hz => ?_, ih⟩
    rcases List.mem_cons.1 hz with h1 | h1
    · rw [h1]; exact hxy
    · have := tail_gt ih z h1; omega

/-- what the program's way gives, where no opposites stand one behind the other .. -/
theorem code_some {l : List Int} {d : Array Int} (hn : ∀ x ∈ l, noneI x = false) (hp : d.toList.Perm l) (hs : ∀ i j, i < j → j < d.size → keyLt d[j]! d[i]! = false)
    (ha : ∀ i, i + 1 < (compactUpTo d d.size).length → (compactUpTo d d.size).getD (i + 1) 0 ≠ -(compactUpTo d d.size).getD i 0) : formOf l = some (compactUpTo d d.size) := by
  have hm : ∀ y, y ∈ compactUpTo d d.size ↔ y ∈ l := fun y => by
    rw [compact_mem, ← hp.mem_iff]
    constructor
    · rintro ⟨j, hj, e⟩
      rw [← e]; simp [hj]
    · intro h
      obtain ⟨j, hj, e⟩ := List.getElem_of_mem h
      exact ⟨j, by simpa using hj, by simp at hj; simp [hj]; simpa using e⟩
  have hA := asc_of (fun x hx => hn x ((hm x).1 hx)) (compact_lt d hs d.size (Nat.le_refl _)) ha
  refine form_some.2 ⟨⟨hn, fun x hx hx' => ?_⟩, hA, hm⟩
  have := asc_opp hA ((hm x).2 hx) ((hm _).2 hx')
  have := hn x hx
  subst x
  simp [noneI] at this
/-- .. and where some do. -/
theorem code_none {l : List Int} {d : Array Int} (hp : d.toList.Perm l) {i : Nat} (hi : i + 1 < (compactUpTo d d.size).length)
    (ha : (compactUpTo d d.size).getD (i + 1) 0 = -(compactUpTo d d.size).getD i 0) : formOf l = none := by
  have hm : ∀ y, y ∈ compactUpTo d d.size → y ∈ l := fun y hy => by
    obtain ⟨j, hj, e⟩ := (compact_mem d d.size y).1 hy
    rw [← hp.mem_iff, ← e]; simp [hj]
  cases e : formOf l with
  | none => rfl
  | some f =>
    exfalso
    have ok := (form_some.1 e).1
    have h1 : (compactUpTo d d.size).getD i 0 ∈ compactUpTo d d.size := by
      rw [List.getD_eq_getElem?_getD, List.getElem?_eq_getElem (by omega)]; exact List.getElem_mem _
    have h2 : (compactUpTo d d.size).getD (i + 1) 0 ∈ compactUpTo d d.size := by
      rw [List.getD_eq_getElem?_getD, List.getElem?_eq_getElem (by omega)]; exact List.getElem_mem _
    exact ok.2 _ (hm _ h1) (by rw [← ha]; exact hm _ h2)
theorem none_none {l : List Int} {x : Int} (hx : x ∈ l) (h : noneI x = true) : formOf l = none := by
  cases e : formOf l with
  | none => rfl
  | some f => have := (form_some.1 e).1.1 x hx; rw [h] at this; cases this
theorem form_perm {l m : List Int} (h : ∀ x, x ∈ l ↔ x ∈ m) : formOf l = formOf m := by
  cases e : formOf l with
  | none =>
    cases e2 : formOf m with
    | none => rfl
    | some g => exact absurd (ok_congr (fun x => (h x).symm) (form_some.1 e2).1) (form_none e)
  | some f =>
    obtain ⟨h1, h2, h3⟩ := form_some.1 e
    exact (form_some.2 ⟨ok_congr h h1, h2, fun y => by rw [h3, h]⟩).symm

/-! What holds. -/
def soB (m : List Bool) (n : Int) : Bool := !noneI n && ((decide (n.natAbs ≤ m.length) && m.getD (n.natAbs - 1) false) == decide (0 < n))
def holdsB (m : List Bool) (cs : List (List Int)) : Bool := cs.all fun c => c.any (soB m)
theorem any_congr {l m : List Int} (p : Int → Bool) (h : ∀ x, x ∈ l ↔ x ∈ m) : l.any p = m.any p := by
  rw [Bool.eq_iff_iff, List.any_eq_true, List.any_eq_true]
  constructor
  · rintro ⟨x, hx, hp⟩; exact ⟨x, (h x).1 hx, hp⟩
  · rintro ⟨x, hx, hp⟩; exact ⟨x, (h x).2 hx, hp⟩

end Go.Proofs.YtlgakejjakeomaaDoor.Cnf
