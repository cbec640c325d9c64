/- What a heap holds, as the document tells it: scores, and which atoms are in. -/
import Derived.Test.YtapconhgcoefeaaHeapMove
namespace Go.Proofs.Ytapconhgcoefeaa.Heap
set_option linter.unusedVariables false
open Go.RowKit

def cin (f : Nat → Bool) : Nat → Nat
  | 0 => 0
  | m + 1 => cin f m + if f (m + 1) then 1 else 0
theorem cin_le (f : Nat → Bool) (n : Nat) : cin f n ≤ n := by
  induction n with
  | zero => simp [cin]
  | succ n ih => unfold cin; split <;> omega
theorem cin_congr {f g : Nat → Bool} {n : Nat} (h : ∀ a, 1 ≤ a → a ≤ n → f a = g a) : cin f n = cin g n := by
  induction n with
  | zero => rfl
  | succ n ih =>
    unfold cin
    rw [ih (fun a h1 h2 => h a h1 (by omega)), h (n + 1) (by omega) (by omega)]
theorem cin_more {f g : Nat → Bool} {n a : Nat} (h1 : 1 ≤ a) (h2 : a ≤ n) (hf : f a = false) (hg : g a = true) (h : ∀ x, 1 ≤ x → x ≤ n → x ≠ a → f x = g x) : cin g n = cin f n + 1 := by
  induction n with
  | zero => omega
  | succ n ih =>
    unfold cin
    by_cases e : a = n + 1
    · subst e
      rw [hf, hg, cin_congr (f := f) (g := g) (fun x x1 x2 => h x x1 (by omega) (by omega))]
      simp
    · rw [ih (by omega) (fun x x1 x2 x3 => h x x1 (by omega) x3), h (n + 1) (by omega) (by omega) (fun x => e x.symm)]
      omega
theorem cin_lt {f : Nat → Bool} {n a : Nat} (h1 : 1 ≤ a) (h2 : a ≤ n) (hf : f a = false) : cin f n < n := by
  have := cin_more (f := f) (g := fun x => f x || decide (x = a)) h1 h2 hf (by simp) (fun x _ _ hx => by simp [hx])
  have := cin_le (fun x => f x || decide (x = a)) n
  omega
theorem cin_pos {f : Nat → Bool} {n a : Nat} (h1 : 1 ≤ a) (h2 : a ≤ n) (hf : f a = true) : 0 < cin f n := by
  have := cin_more (f := fun x => f x && decide (x ≠ a)) (g := f) h1 h2 (by simp) hf (fun x _ _ hx => by simp [hx])
  omega
theorem cin_all (n : Nat) : cin (fun _ => true) n = n := by
  induction n with
  | zero => rfl
  | succ n ih => unfold cin; rw [ih]; simp

def most : Nat := 4611686018427387904

structure IsAt (w : World) (I : Ids) (n : Nat) (sc : List Nat) (inn : Nat → Bool) (pl : List Int) (rw : List Nat) : Prop where
  mem : HM w I sc pl rw
  pla : Places n pl rw
  ord : HeapFrom sc rw 0
  isin : ∀ a, 1 ≤ a → a ≤ n → (inn a = true ↔ pl.getD a (-1) ≠ -1)
  cnt : rw.length = cin inn n
  top : ∀ a, sc.getD a 0 ≤ most

def Is (w : World) (I : Ids) (n : Nat) (sc : List Nat) (inn : Nat → Bool) : Prop := ∃ pl rw, IsAt w I n sc inn pl rw

theorem IsAt.lenS {w : World} {I : Ids} {n : Nat} {sc : List Nat} {inn : Nat → Bool} {pl : List Int} {rw : List Nat} (h : IsAt w I n sc inn pl rw) : sc.length = n + 1 := by
  rw [h.mem.len, h.pla.len]
theorem Is.len {w : World} {I : Ids} {n : Nat} {sc : List Nat} {inn : Nat → Bool} (h : Is w I n sc inn) : sc.length = n + 1 := by
  obtain ⟨_, _, h⟩ := h
  exact h.lenS
theorem Is.keep {w w' : World} {I : Ids} {n : Nat} {sc : List Nat} {inn : Nat → Bool} {S : Nat → Prop} (h : Is w I n sc inn) (k : Sm S w w') (hs : ∀ i, I.has i → ¬ S i) : Is w' I n sc inn := by
  obtain ⟨pl, rw, h⟩ := h
  exact ⟨pl, rw, h.mem.keep k hs, h.pla, h.ord, h.isin, h.cnt, h.top⟩
theorem Is.congr {w : World} {I : Ids} {n : Nat} {sc : List Nat} {inn inn' : Nat → Bool} (h : Is w I n sc inn) (e : ∀ a, 1 ≤ a → a ≤ n → inn a = inn' a) : Is w I n sc inn' := by
  obtain ⟨pl, rw, h⟩ := h
  refine ⟨pl, rw, h.mem, h.pla, h.ord, fun a h1 h2 => ?_, ?_, h.top⟩
  · rw [← e a h1 h2]; exact h.isin a h1 h2
  · rw [h.cnt, cin_congr e]
theorem Is.lt {w : World} {I : Ids} {n : Nat} {sc : List Nat} {inn : Nat → Bool} (h : Is w I n sc inn) (k : Nat) (hk : I.has k) : k < w.heap.size := by
  obtain ⟨_, _, h⟩ := h
  have l := h.mem.lt
  rcases hk with rfl | rfl | rfl | rfl
  · exact l.1
  · exact l.2.1
  · exact l.2.2.1
  · exact l.2.2.2

/-- the first one of those that are in. -/
structure Best (n : Nat) (sc : List Nat) (inn : Nat → Bool) (a : Nat) : Prop where
  lo : 1 ≤ a
  hi : a ≤ n
  mem : inn a = true
  all : ∀ b, 1 ≤ b → b ≤ n → inn b = true → ¬ bt sc b a
theorem Best.unique {n : Nat} {sc : List Nat} {inn : Nat → Bool} {a b : Nat} (h : Best n sc inn a) (k : Best n sc inn b) : a = b := by
  by_cases e : a = b
  · exact e
  · rcases bt_total (sc := sc) e with x | x
    · exact absurd x (k.all a h.lo h.hi h.mem)
    · exact absurd x (h.all b k.lo k.hi k.mem)

theorem IsAt.in_row {w : World} {I : Ids} {n : Nat} {sc : List Nat} {inn : Nat → Bool} {pl : List Int} {rw : List Nat} (h : IsAt w I n sc inn pl rw) {b : Nat} (h1 : 1 ≤ b) (h2 : b ≤ n) (h3 : inn b = true) :
    ∃ i, i < rw.length ∧ rw.getD i 0 = b := by
  have := (h.isin b h1 h2).1 h3
  rcases h.pla.place b h1 h2 with x | ⟨i, a, b, c⟩
  · exact absurd x this
  · exact ⟨i, a, c⟩
theorem IsAt.best {w : World} {I : Ids} {n : Nat} {sc : List Nat} {inn : Nat → Bool} {pl : List Int} {rw : List Nat} (h : IsAt w I n sc inn pl rw) (h0 : 0 < rw.length) : Best n sc inn (rw.getD 0 0) := by
  have r := h.pla.row 0 h0
  refine ⟨r.1, r.2.1, (h.isin _ r.1 r.2.1).2 (by rw [r.2.2]; simp), ?_⟩
  intro b h1 h2 h3
  obtain ⟨i, hi, rfl⟩ := h.in_row h1 h2 h3
  exact Heap.top h.ord i hi

/-- 'append' at the end of the row, the atom having been out. -/
theorem Places.push {n : Nat} {pl : List Int} {rw : List Nat} (h : Places n pl rw) {a : Nat} (h1 : 1 ≤ a) (h2 : a ≤ n) (ho : pl.getD a (-1) = -1) :
    Places n (pl.set a (rw.length : Int)) (rw ++ [a]) := by
  have hl := h.len
  have app : ∀ i, i < rw.length → (rw ++ [a]).getD i 0 = rw.getD i 0 := by
    intro i hi
    simp [List.getD_eq_getElem?_getD, List.getElem?_append, hi]
  have lst : (rw ++ [a]).getD rw.length 0 = a := by simp [List.getD_eq_getElem?_getD]
  constructor
  · simp [hl]
  · intro i hi
    simp at hi
    by_cases e : i = rw.length
    · subst e
      rw [lst, getD_set, if_pos ⟨rfl, by omega⟩]
      exact ⟨h1, h2, rfl⟩
    · rw [app i (by omega)]
      have r := h.row i (by omega)
      refine ⟨r.1, r.2.1, ?_⟩
      rw [getD_set]
      split
      · rename_i x
        rw [← x.1, ho] at r
        omega
      · exact r.2.2
  · intro b b1 b2
    rw [getD_set]
    by_cases e : a = b
    · subst e
      rw [if_pos ⟨rfl, by omega⟩]
      exact .inr ⟨rw.length, by simp, rfl, lst⟩
    · rw [if_neg (fun x => e x.1)]
      rcases h.place b b1 b2 with x | ⟨i, x, y, z⟩
      · exact .inl x
      · exact .inr ⟨i, by simp; omega, y, by rw [app i x]; exact z⟩
theorem Up.push {sc rw : List Nat} {a : Nat} (h : HeapFrom sc rw 0) : Up sc (rw ++ [a]) rw.length := by
  have app : ∀ i, i < rw.length → (rw ++ [a]).getD i 0 = rw.getD i 0 := by
    intro i hi
    simp [List.getD_eq_getElem?_getD, List.getElem?_append, hi]
  constructor
  · intro j h1 h2 h3
    simp at h2
    unfold ok
    rw [app j (by omega), app _ (by omega)]
    exact h j h1 (by omega) (by omega)
  · intro c h1 h2 h3 h4
    simp at h1
    omega

/-- the first one taken out, the last one put in its place. -/
def popRw (rw : List Nat) : List Nat := (rw.set 0 (rw.getD (rw.length - 1) 0)).take (rw.length - 1)
def popPl (pl : List Int) (rw : List Nat) : List Int := (pl.set (rw.getD (rw.length - 1) 0) 0).set (rw.getD 0 0) (-1)
theorem popRw_len (rw : List Nat) : (popRw rw).length = rw.length - 1 := by simp [popRw]
theorem popRw_at (rw : List Nat) (i : Nat) (hi : i < rw.length - 1) : (popRw rw).getD i 0 = if i = 0 then rw.getD (rw.length - 1) 0 else rw.getD i 0 := by
  have e : (popRw rw).getD i 0 = (rw.set 0 (rw.getD (rw.length - 1) 0)).getD i 0 := by
    unfold popRw
    have hj : i < rw.length := by omega
    simp [List.getD_eq_getElem?_getD, hi, hj]
  rw [e, getD_set]
  by_cases h : i = 0
  · subst h; rw [if_pos ⟨rfl, by omega⟩, if_pos rfl]
  · rw [if_neg (fun x => h x.1.symm), if_neg h]
theorem popPl_at {n : Nat} {pl : List Int} {rw : List Nat} (h : Places n pl rw) (h0 : 0 < rw.length) (a : Nat) :
    (popPl pl rw).getD a (-1) = if a = rw.getD 0 0 then -1 else if a = rw.getD (rw.length - 1) 0 then 0 else pl.getD a (-1) := by
  have r0 := h.row 0 h0
  have r1 := h.row (rw.length - 1) (by omega)
  have hl := h.len
  unfold popPl
  rw [getD_set, getD_set]
  simp only [List.length_set]
  generalize rw.getD 0 0 = x at *
  generalize rw.getD (rw.length - 1) 0 = y at *
  by_cases e : a = x
  · have l : a < pl.length := by omega
    subst e; simp [l]
  · have e' : ¬ x = a := fun z => e z.symm
    by_cases e2 : a = y
    · have l : a < pl.length := by omega
      subst e2; simp [e, e', l]
    · have e2' : ¬ y = a := fun z => e2 z.symm
      simp [e, e', e2, e2']
theorem Places.pop {n : Nat} {pl : List Int} {rw : List Nat} (h : Places n pl rw) (h0 : 0 < rw.length) : Places n (popPl pl rw) (popRw rw) := by
  have hl := h.len
  constructor
  · simp [popPl, hl]
  · intro i hi
    rw [popRw_len] at hi
    rw [popRw_at rw i hi]
    by_cases e : i = 0
    · subst e
      rw [if_pos rfl, popPl_at h h0, if_neg (fun x => by have := h.inj (i := rw.length - 1) (k := 0) (by omega) h0 x; omega), if_pos rfl]
      have r := h.row (rw.length - 1) (by omega)
      exact ⟨r.1, r.2.1, rfl⟩
    · rw [if_neg e, popPl_at h h0, if_neg (fun x => e (h.inj (by omega) h0 x)), if_neg (fun x => by have := h.inj (i := i) (k := rw.length - 1) (by omega) (by omega) x; omega)]
      exact h.row i (by omega)
  · intro a h1 h2
    rw [popPl_at h h0]
    by_cases e : a = rw.getD 0 0
    · rw [if_pos e]; exact .inl rfl
    · rw [if_neg e]
      by_cases e2 : a = rw.getD (rw.length - 1) 0
      · rw [if_pos e2]
        have hne : 0 < rw.length - 1 := by
          rcases Nat.eq_zero_or_pos (rw.length - 1) with x | x
          · rw [x] at e2; exact absurd e2 e
          · exact x
        refine .inr ⟨0, by rw [popRw_len]; exact hne, rfl, ?_⟩
        rw [popRw_at rw 0 hne, if_pos rfl]
        exact e2.symm
      · rw [if_neg e2]
        rcases h.place a h1 h2 with x | ⟨i, x, y, z⟩
        · exact .inl x
        · have i0 : i ≠ 0 := fun t => e (by rw [← z, t])
          have i1 : i ≠ rw.length - 1 := fun t => e2 (by rw [← z, t])
          refine .inr ⟨i, by rw [popRw_len]; omega, y, ?_⟩
          rw [popRw_at rw i (by omega), if_neg i0]
          exact z
theorem Dn.pop {sc rw : List Nat} (h : HeapFrom sc rw 0) : Dn sc (popRw rw) 0 0 := by
  refine ⟨Nat.le_refl _, ?_, fun x => by omega⟩
  intro j h1 h2 _ h4
  rw [popRw_len] at h2
  unfold ok
  rw [popRw_at rw j h2, popRw_at rw _ (by omega), if_neg (by omega), if_neg h4]
  exact h j h1 (by omega) (by omega)

def halved (sc : List Nat) : List Nat := sc.map (· / 2)
theorem halved_at (sc : List Nat) (a : Nat) : (halved sc).getD a 0 = sc.getD a 0 / 2 := by
  unfold halved
  simp only [List.getD_eq_getElem?_getD, List.getElem?_map]
  rcases sc[a]? with _ | x <;> simp

/-- how a score is made higher. -/
def bump : Nat → List Nat → Nat → Nat → List Nat
  | 0, sc, _, _ => sc
  | f + 1, sc, a, b => if most - sc.getD a 0 < b then bump f (halved sc) a (b / 2) else sc.set a (sc.getD a 0 + b)
theorem bump_top (f : Nat) : ∀ (sc : List Nat) (a b : Nat), (∀ x, sc.getD x 0 ≤ most) → ∀ x, (bump f sc a b).getD x 0 ≤ most := by
  induction f with
  | zero => intro sc a b h; exact h
  | succ f ih =>
    intro sc a b h x
    unfold bump
    split
    · exact ih _ _ _ (fun y => by rw [halved_at]; have := h y; omega) x
    · rename_i hb
      rw [getD_set]
      split
      · have := h a; omega
      · exact h x

end Go.Proofs.Ytapconhgcoefeaa.Heap
