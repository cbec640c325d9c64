/- Stable sorting, as lists: what stays in its order among those that are alike, and is sorted, is one list. -/
namespace Go.Proofs.Ytdilmiaaahpfcaa.Stab
set_option linter.unusedVariables false
set_option linter.unusedSimpArgs false

variable {α : Type}
/-- a strict weak order. -/
structure WO (lt : α → α → Bool) : Prop where
  irrefl : ∀ x, lt x x = false
  trans : ∀ x y z, lt x y = true → lt y z = true → lt x z = true
  ntrans : ∀ x y z, lt x y = false → lt y z = false → lt x z = false
variable {lt : α → α → Bool}
theorem WO.asymm (h : WO lt) {x y : α} (h1 : lt x y = true) : lt y x = false := by
  cases e : lt y x with
  | false => rfl
  | true => have := h.trans x y x h1 e; rw [h.irrefl] at this; cases this
/-- x < y and not z < y: x < z. -/
theorem WO.lt_le (h : WO lt) {x y z : α} (h1 : lt x y = true) (h2 : lt z y = false) : lt x z = true := by
  cases e : lt x z with
  | true => rfl
  | false => have := h.ntrans x z y e h2; rw [h1] at this; cases this
theorem WO.le_lt (h : WO lt) {x y z : α} (h1 : lt y x = false) (h2 : lt y z = true) : lt x z = true := by
  cases e : lt x z with
  | true => rfl
  | false => have := h.ntrans y x z h1 e; rw [h2] at this; cases this
def Srt (lt : α → α → Bool) (l : List α) : Prop := l.Pairwise fun x y => lt y x = false
/-- alike. -/
def eqv (lt : α → α → Bool) (x y : α) : Bool := !lt x y && !lt y x
theorem eqv_iff {x y : α} : eqv lt x y = true ↔ lt x y = false ∧ lt y x = false := by simp [eqv]
theorem WO.eqv_self (h : WO lt) (x : α) : eqv lt x x = true := by rw [eqv_iff]; exact ⟨h.irrefl x, h.irrefl x⟩
/-- the same of each kind, in their order. -/
def Alike (lt : α → α → Bool) (l m : List α) : Prop := ∀ x, l.filter (eqv lt x) = m.filter (eqv lt x)
theorem Alike.refl (l : List α) : Alike lt l l := fun _ => rfl
theorem Alike.trans {l m n : List α} (h1 : Alike lt l m) (h2 : Alike lt m n) : Alike lt l n := fun x => (h1 x).trans (h2 x)
theorem Alike.symm {l m : List α} (h1 : Alike lt l m) : Alike lt m l := fun x => (h1 x).symm
theorem Alike.app {a b c d : List α} (h1 : Alike lt a b) (h2 : Alike lt c d) : Alike lt (a ++ c) (b ++ d) := fun x => by rw [List.filter_append, List.filter_append, h1 x, h2 x]
theorem Alike.mem (hO : WO lt) {l m : List α} (h : Alike lt l m) {x : α} : x ∈ l ↔ x ∈ m := by
  have e := h x
  constructor
  · intro hx
    have : x ∈ l.filter (eqv lt x) := List.mem_filter.2 ⟨hx, hO.eqv_self x⟩
    rw [e] at this
    exact (List.mem_filter.1 this).1
  · intro hx
    have : x ∈ m.filter (eqv lt x) := List.mem_filter.2 ⟨hx, hO.eqv_self x⟩
    rw [← e] at this
    exact (List.mem_filter.1 this).1
/-- what is less may go ahead. -/
theorem Alike.swap (hO : WO lt) {u v : List α} (h : ∀ y ∈ u, ∀ z ∈ v, lt y z = true) : Alike lt (v ++ u) (u ++ v) := by
  intro x
  rw [List.filter_append, List.filter_append]
  by_cases hv : v.filter (eqv lt x) = []
  · rw [hv]; simp
  · have hu : u.filter (eqv lt x) = [] := by
      rw [List.filter_eq_nil_iff]
      intro y hy he
      obtain ⟨z, hz⟩ := List.exists_mem_of_ne_nil _ hv
      obtain ⟨hz1, hz2⟩ := List.mem_filter.1 hz
      rw [eqv_iff] at he hz2
      have h1 := h y hy z hz1
      have h2 := hO.ntrans y x z he.2 hz2.1
      rw [h1] at h2; cases h2
    rw [hu]; simp
theorem srt_uniq (hO : WO lt) : ∀ {l m : List α}, Srt lt l → Srt lt m → Alike lt l m → l = m
  | [], [], _, _, _ => rfl
  | [], y :: m, _, _, h => absurd (((h.mem hO).2 (by simp)) : y ∈ ([] : List α)) (by simp)
  | x :: l, [], _, _, h => absurd (((h.mem hO).1 (by simp)) : x ∈ ([] : List α)) (by simp)
  | x :: l, y :: m, h1, h2, h => by
    have p1 := List.pairwise_cons.1 h1
    have p2 := List.pairwise_cons.1 h2
    -- the heads are alike
    have hxm : x ∈ y :: m := (h.mem hO).1 (by simp)
    have hyl : y ∈ x :: l := (h.mem hO).2 (by simp)
    have e1 : lt x y = false := by
      rcases List.mem_cons.1 hxm with e | e
      · rw [e]; exact hO.irrefl y
      · exact p2.1 x e
    have e2 : lt y x = false := by
      rcases List.mem_cons.1 hyl with e | e
      · rw [e]; exact hO.irrefl x
      · exact p1.1 y e
    have hx := h x
    rw [List.filter_cons_of_pos (by rw [eqv_iff]; exact ⟨hO.irrefl x, hO.irrefl x⟩), List.filter_cons_of_pos (by rw [eqv_iff]; exact ⟨e1, e2⟩)] at hx
    injection hx with e3 _
    subst e3
    congr 1
    refine srt_uniq hO p1.2 p2.2 fun z => ?_
    have hz := h z
    by_cases hq : eqv lt z x = true
    · rw [List.filter_cons_of_pos hq, List.filter_cons_of_pos hq] at hz
      injection hz
    · rw [List.filter_cons_of_neg hq, List.filter_cons_of_neg hq] at hz
      exact hz
theorem srt_app (hO : WO lt) {a b : List α} (ha : Srt lt a) (hb : Srt lt b) (h : ∀ y ∈ a, ∀ z ∈ b, lt z y = false) : Srt lt (a ++ b) := List.pairwise_append.2 ⟨ha, hb, h⟩

/-- what a merge makes of two rows that are sorted. -/
structure Merged (lt : α → α → Bool) (l m : List α) : Prop where
  srt : Srt lt m
  alike : Alike lt l m
theorem Merged.len (hO : WO lt) {l m : List α} (h : Alike lt l m) : True := trivial

/-- a row cut in two: its parts ahead, and behind, are merged by themselves. -/
theorem merge_parts (hO : WO lt) {u1 v1 u2 v2 M1 M2 : List α} (hl : Srt lt (u1 ++ v1)) (hr : Srt lt (u2 ++ v2)) (h1 : ∀ y ∈ u2, ∀ z ∈ v1, lt y z = true) (h2 : ∀ y ∈ u1, ∀ z ∈ v2, lt z y = false)
    (m1 : Merged lt (u1 ++ u2) M1) (m2 : Merged lt (v1 ++ v2) M2) : Merged lt ((u1 ++ v1) ++ (u2 ++ v2)) (M1 ++ M2) := by
  have pl := List.pairwise_append.1 hl
  have pr := List.pairwise_append.1 hr
  refine ⟨srt_app hO m1.srt m2.srt fun y hy z hz => ?_, ?_⟩
  · have hy' := (m1.alike.mem hO).2 hy
    have hz' := (m2.alike.mem hO).2 hz
    rcases List.mem_append.1 hy' with a | a <;> rcases List.mem_append.1 hz' with b | b
    · exact pl.2.2 y a z b
    · exact h2 y a z b
    · exact hO.asymm (h1 y a z b)
    · exact pr.2.2 y a z b
  · have e1 : Alike lt ((u1 ++ v1) ++ (u2 ++ v2)) ((u1 ++ u2) ++ (v1 ++ v2)) := by
      have s := Alike.swap hO h1
      have := ((Alike.refl u1).app (lt := lt) s).app (Alike.refl v2)
      simpa using this
    exact e1.trans (m1.alike.app m2.alike)
theorem merged_left (hO : WO lt) {l : List α} (h : Srt lt l) : Merged lt l l := ⟨h, Alike.refl l⟩

/-- one put into a row: those ahead are less, those behind aren't. -/
theorem put_first (hO : WO lt) {x : α} {p q : List α} (h : Srt lt (p ++ q)) (hp : ∀ y ∈ p, lt y x = true) (hq : ∀ y ∈ q, lt y x = false) : Merged lt (x :: (p ++ q)) (p ++ x :: q) := by
  have pp := List.pairwise_append.1 h
  refine ⟨?_, ?_⟩
  · refine srt_app hO pp.1 (List.pairwise_cons.2 ⟨hq, pp.2.1⟩) fun y hy z hz => ?_
    rcases List.mem_cons.1 hz with e | e
    · rw [e]; exact hO.asymm (hp y hy)
    · exact pp.2.2 y hy z e
  · have s : Alike lt ([x] ++ p) (p ++ [x]) := Alike.swap hO (fun y hy z hz => by simp at hz; rw [hz]; exact hp y hy)
    have := s.app (Alike.refl q)
    simpa using this
theorem put_last (hO : WO lt) {x : α} {p q : List α} (h : Srt lt (p ++ q)) (hp : ∀ y ∈ p, lt x y = false) (hq : ∀ y ∈ q, lt x y = true) : Merged lt ((p ++ q) ++ [x]) (p ++ x :: q) := by
  have pp := List.pairwise_append.1 h
  refine ⟨?_, ?_⟩
  · refine srt_app hO pp.1 (List.pairwise_cons.2 ⟨fun y hy => hO.asymm (hq y hy), pp.2.1⟩) fun y hy z hz => ?_
    rcases List.mem_cons.1 hz with e | e
    · rw [e]; exact hp y hy
    · exact pp.2.2 y hy z e
  · have s : Alike lt (q ++ [x]) ([x] ++ q) := Alike.swap hO (fun y hy z hz => by simp at hy; rw [hy]; exact hq z hz)
    have := (Alike.refl p).app (lt := lt) s
    simpa using this

/-- the document's way: each one put behind those that it isn't less than, from behind. -/
def ins (lt : α → α → Bool) (l : List α) (x : α) : List α := (l.reverse.dropWhile fun y => lt x y).reverse ++ x :: (l.reverse.takeWhile fun y => lt x y).reverse
theorem ins_split (l : List α) (x : α) : l = (l.reverse.dropWhile fun y => lt x y).reverse ++ (l.reverse.takeWhile fun y => lt x y).reverse := by
  rw [← List.reverse_append, List.takeWhile_append_dropWhile, List.reverse_reverse]
theorem ins_merged (hO : WO lt) {l : List α} (h : Srt lt l) (x : α) : Merged lt (l ++ [x]) (ins lt l x) := by
  have e := ins_split (lt := lt) l x
  have h' := h
  rw [e] at h'
  have pp := List.pairwise_append.1 h'
  have hq : ∀ y ∈ (l.reverse.takeWhile fun y => lt x y).reverse, lt x y = true := fun y hy => by
    rw [List.mem_reverse] at hy
    have := List.all_takeWhile (p := fun y => lt x y) (l := l.reverse)
    rw [List.all_eq_true] at this
    exact this y hy
  have hp : ∀ y ∈ (l.reverse.dropWhile fun y => lt x y).reverse, lt x y = false := fun y hy => by
    cases hd : l.reverse.dropWhile (fun y => lt x y) with
    | nil => rw [hd] at hy; simp at hy
    | cons z r =>
      have hz : lt x z = false := by
        have := List.head?_dropWhile_not (fun y => lt x y) l.reverse
        rw [hd] at this
        simpa using this
      rw [hd] at hy pp
      rw [List.mem_reverse] at hy
      rcases List.mem_cons.1 hy with e1 | e1
      · rw [e1]; exact hz
      · have h1 := pp.1
        rw [List.reverse_cons] at h1
        have := (List.pairwise_append.1 h1).2.2 y (by simpa using e1) z (by simp)
        exact hO.ntrans x z y hz this
  have := put_last hO h' hp hq
  rw [← e] at this
  exact this
def stab (lt : α → α → Bool) (l : List α) : List α := l.foldl (ins lt) []
theorem stab_merged (hO : WO lt) (l : List α) : Merged lt l (stab lt l) := by
  have : ∀ (r l : List α) (a : List α), Merged lt l a → Merged lt (l ++ r) (r.foldl (ins lt) a) := by
    intro r
    induction r with
    | nil => intro l a h; simpa using h
    | cons x r ih =>
      intro l a h
      have h1 := ins_merged hO h.srt x
      have h2 : Merged lt (l ++ [x]) (ins lt a x) := ⟨h1.srt, (h.alike.app (Alike.refl [x])).trans h1.alike⟩
      have := ih (l ++ [x]) (ins lt a x) h2
      simpa using this
  have h := this l [] [] ⟨List.Pairwise.nil, Alike.refl _⟩
  unfold stab
  simpa using h
theorem merged_stab (hO : WO lt) {l m : List α} (h : Merged lt l m) : m = stab lt l := by
  have h2 := stab_merged hO l
  exact srt_uniq hO h.srt h2.srt (h.alike.symm.trans h2.alike)

end Go.Proofs.Ytdilmiaaahpfcaa.Stab
