/- Stable sorting of a row by places: exchanges of blocks, rotation, merging. -/
import Derived.Test.YtdilmiaaahpfcaaStabMath
namespace Go.Proofs.Ytdilmiaaahpfcaa.Stab
set_option linter.unusedVariables false
set_option linter.unusedSimpArgs false
variable {α : Type} {lt : α → α → Bool}

/-- what stands from a up to b. -/
def seg (f : Nat → α) (a b : Nat) : List α := (List.range (b - a)).map fun i => f (a + i)
theorem seg_len (f : Nat → α) (a b : Nat) : (seg f a b).length = b - a := by simp [seg]
theorem seg_at (f : Nat → α) (a b i : Nat) (h : i < b - a) : (seg f a b)[i]? = some (f (a + i)) := by simp [seg, h]
theorem seg_congr {f g : Nat → α} {a b : Nat} (h : ∀ t, a ≤ t → t < b → f t = g t) : seg f a b = seg g a b := by
  unfold seg
  refine List.map_congr_left fun i hi => ?_
  have := List.mem_range.1 hi
  exact h _ (by omega) (by omega)
theorem seg_shift {f g : Nat → α} {a b c d : Nat} (hl : b - a = d - c) (h : ∀ i, i < b - a → f (a + i) = g (c + i)) : seg f a b = seg g c d := by
  unfold seg
  rw [← hl]
  refine List.map_congr_left fun i hi => ?_
  exact h i (List.mem_range.1 hi)
theorem seg_app (f : Nat → α) {a m b : Nat} (h1 : a ≤ m) (h2 : m ≤ b) : seg f a b = seg f a m ++ seg f m b := by
  apply List.ext_getElem?
  intro i
  rcases Nat.lt_or_ge i (m - a) with h | h
  · rw [List.getElem?_append_left (by rw [seg_len]; exact h), seg_at _ _ _ _ h, seg_at _ _ _ _ (by omega)]
  · rw [List.getElem?_append_right (by rw [seg_len]; exact h), seg_len]
    rcases Nat.lt_or_ge i (b - a) with h3 | h3
    · rw [seg_at _ _ _ _ h3, seg_at _ _ _ _ (by omega)]
      congr 2; omega
    · rw [List.getElem?_eq_none (by rw [seg_len]; exact h3), List.getElem?_eq_none (by rw [seg_len]; omega)]
theorem seg_mem {f : Nat → α} {a b : Nat} {x : α} : x ∈ seg f a b ↔ ∃ t, a ≤ t ∧ t < b ∧ f t = x := by
  unfold seg
  rw [List.mem_map]
  constructor
  · rintro ⟨i, hi, e⟩
    have := List.mem_range.1 hi
    exact ⟨a + i, by omega, by omega, e⟩
  · rintro ⟨t, h1, h2, e⟩
    exact ⟨t - a, List.mem_range.2 (by omega), by rw [show a + (t - a) = t by omega]; exact e⟩
theorem seg_nil (f : Nat → α) {a b : Nat} (h : b ≤ a) : seg f a b = [] := by unfold seg; rw [show b - a = 0 by omega]; rfl
theorem seg_one (f : Nat → α) (a : Nat) : seg f a (a + 1) = [f a] := by unfold seg; simp
theorem srt_seg {f : Nat → α} {a b : Nat} : Srt lt (seg f a b) ↔ ∀ i j, a ≤ i → i < j → j < b → lt (f j) (f i) = false := by
  unfold Srt
  rw [List.pairwise_iff_getElem]
  constructor
  · intro h i j h1 h2 h3
    have := h (i - a) (j - a) (by rw [seg_len]; omega) (by rw [seg_len]; omega) (by omega)
    simp only [seg, List.getElem_map, List.getElem_range] at this
    rwa [show a + (i - a) = i by omega, show a + (j - a) = j by omega] at this
  · intro h i j h1 h2 h3
    rw [seg_len] at h1 h2
    simp only [seg, List.getElem_map, List.getElem_range]
    exact h _ _ (by omega) (by omega) (by omega)

/-- two places exchanged. -/
def swp (f : Nat → α) (p q : Nat) : Nat → α := fun t => if t = p then f q else if t = q then f p else f t
/-- two blocks of k exchanged. -/
def swpK (f : Nat → α) (a b k : Nat) : Nat → α := fun t => if a ≤ t ∧ t < a + k then f (b + (t - a)) else if b ≤ t ∧ t < b + k then f (a + (t - b)) else f t
theorem swpK_zero (f : Nat → α) (a b : Nat) : swpK f a b 0 = f := by
  funext t
  unfold swpK
  rw [if_neg (by omega), if_neg (by omega)]
theorem swpK_step (f : Nat → α) {a b k : Nat} (h : a + (k + 1) ≤ b) : swp (swpK f a b k) (a + k) (b + k) = swpK f a b (k + 1) := by
  funext t
  unfold swp swpK
  by_cases e1 : t = a + k
  · subst e1
    rw [if_pos rfl, if_neg (by omega), if_neg (by omega), if_pos (by omega)]
    congr 1; omega
  · rw [if_neg e1]
    by_cases e2 : t = b + k
    · subst e2
      rw [if_pos rfl, if_neg (by omega), if_neg (by omega), if_neg (by omega), if_pos (by omega)]
      congr 1; omega
    · rw [if_neg e2]
      by_cases h1 : a ≤ t ∧ t < a + k
      · rw [if_pos h1, if_pos (by omega)]
      · rw [if_neg h1, if_neg (by omega : ¬ (a ≤ t ∧ t < a + (k + 1)))]
        by_cases h2 : b ≤ t ∧ t < b + k
        · rw [if_pos h2, if_pos (by omega)]
        · rw [if_neg h2, if_neg (by omega)]
/-- [a, m) and [m, b) exchanged as they stand. -/
def rotF (f : Nat → α) (a m b : Nat) : Nat → α := fun t => if a ≤ t ∧ t < b then (if t < a + (b - m) then f (t + (m - a)) else f (t - (b - m))) else f t
theorem rot_same (f : Nat → α) {m i : Nat} (h : i ≤ m) : swpK f (m - i) m i = rotF f (m - i) m (m + i) := by
  funext t
  unfold swpK rotF
  by_cases h1 : m - i ≤ t ∧ t < m - i + i
  · rw [if_pos h1, if_pos (by omega), if_pos (by omega)]; congr 1; omega
  · rw [if_neg h1]
    by_cases h2 : m ≤ t ∧ t < m + i
    · rw [if_pos h2, if_pos (by omega), if_neg (by omega)]; congr 1; omega
    · rw [if_neg h2, if_neg (by omega)]
theorem rot_left (f : Nat → α) {m i j : Nat} (h : i ≤ m) (hj : j < i) : rotF (swpK f (m - i) m j) (m - (i - j)) m (m + j) = rotF f (m - i) m (m + j) := by
  funext t
  unfold rotF swpK
  by_cases h0 : m - i ≤ t ∧ t < m + j
  · rw [if_pos h0]
    by_cases h1 : t < m - i + (m + j - m)
    · rw [if_pos h1, if_neg (by omega), if_pos (by omega)]; congr 1; omega
    · rw [if_neg h1, if_pos (by omega)]
      by_cases h2 : t < m - (i - j) + (m + j - m)
      · rw [if_pos h2]
        by_cases h3 : m ≤ t + (m - (m - (i - j))) ∧ t + (m - (m - (i - j))) < m + j
        · rw [if_neg (by omega), if_pos h3]; congr 1; omega
        · omega
      · rw [if_neg h2, if_neg (by omega), if_neg (by omega)]
  · rw [if_neg h0, if_neg (by omega), if_neg (by omega), if_neg (by omega)]
theorem rot_right (f : Nat → α) {m i j : Nat} (h : i ≤ m) (hj : i < j) : rotF (swpK f (m - i) (m + j - i) i) (m - i) m (m + (j - i)) = rotF f (m - i) m (m + j) := by
  funext t
  unfold rotF swpK
  by_cases h0 : m - i ≤ t ∧ t < m + j
  · rw [if_pos h0]
    by_cases h1 : t < m - i + (m + j - m)
    · rw [if_pos h1]
      by_cases h2 : m - i ≤ t ∧ t < m + (j - i)
      · rw [if_pos h2]
        by_cases h3 : t < m - i + (m + (j - i) - m)
        · rw [if_pos h3, if_neg (by omega), if_neg (by omega)]
        · rw [if_neg h3, if_pos (by omega)]; congr 1; omega
      · omega
    · rw [if_neg h1, if_neg (by omega), if_neg (by omega), if_pos (by omega)]; congr 1; omega
  · rw [if_neg h0, if_neg (by omega), if_neg (by omega), if_neg (by omega)]
theorem rot_seg (f : Nat → α) {a m b : Nat} (h1 : a ≤ m) (h2 : m ≤ b) : seg (rotF f a m b) a (a + (b - m)) = seg f m b ∧ seg (rotF f a m b) (a + (b - m)) b = seg f a m := by
  constructor
  · refine seg_shift (by omega) fun i hi => ?_
    unfold rotF
    rw [if_pos (by omega), if_pos (by omega)]; congr 1; omega
  · refine seg_shift (by omega) fun i hi => ?_
    unfold rotF
    rw [if_pos (by omega), if_neg (by omega)]; congr 1; omega

/-- a row merged between a and b: there it is sorted, with all in their order; else it is as it was. -/
structure MergedIn (lt : α → α → Bool) (a b : Nat) (f g : Nat → α) : Prop where
  out : ∀ t, t < a ∨ b ≤ t → g t = f t
  mrg : Merged lt (seg f a b) (seg g a b)
theorem MergedIn.alike {a b : Nat} {f g : Nat → α} (h : MergedIn lt a b f g) {c d : Nat} (h1 : c ≤ a) (h2 : b ≤ d) (hab : a ≤ b) : Alike lt (seg f c d) (seg g c d) := by
  rw [seg_app f h1 (by omega : a ≤ d), seg_app f hab h2, seg_app g h1 (by omega : a ≤ d), seg_app g hab h2]
  have e1 : seg g c a = seg f c a := seg_congr fun t _ ht => h.out t (.inl ht)
  have e2 : seg g b d = seg f b d := seg_congr fun t ht _ => h.out t (.inr ht)
  rw [e1, e2]
  exact (Alike.refl _).app (h.mrg.alike.app (Alike.refl _))

/-- the search's end: what is ahead of 'start' stays ahead. -/
theorem merge_search (hO : WO lt) {f g1 g2 g3 : Nat → α} {a m b s : Nat} (ham : a < m) (hmb : m < b) (hl : Srt lt (seg f a m)) (hr : Srt lt (seg f m b))
    (mid n e : Nat) (hmid : mid = (a + b) / 2) (hn : n = mid + m) (he : e = n - s) (has : a ≤ s) (hsm : s ≤ m) (hme : m ≤ e) (heb : e ≤ b)
    (h1 : s < m → m < e → lt (f (e - 1)) (f s) = true) (h2 : a < s → e < b → lt (f e) (f (s - 1)) = false)
    (hg1 : g1 = rotF f s m e) (m2 : MergedIn lt a mid g1 g2) (m3 : MergedIn lt mid b g2 g3) : MergedIn lt a b f g3 := by
  have hms : mid = s + (e - m) := by omega
  have hs := srt_seg.1 hl
  have hq := srt_seg.1 hr
  have r := rot_seg f hsm hme
  rw [← hg1, ← hms] at r
  have ea : seg g1 a s = seg f a s := seg_congr fun t h3 h4 => by rw [hg1]; unfold rotF; rw [if_neg (by omega)]
  have eb : seg g1 e b = seg f e b := seg_congr fun t h3 h4 => by rw [hg1]; unfold rotF; rw [if_neg (by omega)]
  refine ⟨fun t ht => ?_, ?_⟩
  · rw [m3.out t (by omega), m2.out t (by omega), hg1]
    unfold rotF
    rw [if_neg (by omega)]
  · have e1 : seg g3 a b = seg g2 a mid ++ seg g3 mid b := by
      rw [seg_app g3 (by omega : a ≤ mid) (by omega : mid ≤ b)]
      congr 1
      exact seg_congr fun t _ ht => m3.out t (.inl ht)
    have e2 : seg g1 a mid = seg f a s ++ seg f m e := by rw [seg_app g1 has (by omega : s ≤ mid), ea, r.1]
    have e3 : seg g2 mid b = seg f s m ++ seg f e b := by
      have : seg g2 mid b = seg g1 mid b := seg_congr fun t ht _ => m2.out t (.inr ht)
      rw [this, seg_app g1 (by omega : mid ≤ e) heb, r.2, eb]
    have q2 := m2.mrg
    have q3 := m3.mrg
    rw [e2] at q2
    rw [e3] at q3
    rw [e1, seg_app f (by omega : a ≤ m) (by omega : m ≤ b), seg_app f has hsm, seg_app f hme heb]
    refine merge_parts hO (by rw [← seg_app f has hsm]; exact hl) (by rw [← seg_app f hme heb]; exact hr) (fun y hy z hz => ?_) (fun y hy z hz => ?_) q2 q3
    · obtain ⟨t, t1, t2, rfl⟩ := seg_mem.1 hy
      obtain ⟨u, u1, u2, rfl⟩ := seg_mem.1 hz
      have hx := h1 (by omega) (by omega)
      have k1 : lt (f (e - 1)) (f t) = false := by
        rcases Nat.lt_or_ge t (e - 1) with h | h
        · exact hq t (e - 1) (by omega) h (by omega)
        · rw [show t = e - 1 by omega]; exact hO.irrefl _
      have k2 : lt (f u) (f s) = false := by
        rcases Nat.lt_or_ge s u with h | h
        · exact hs s u (by omega) h (by omega)
        · rw [show u = s by omega]; exact hO.irrefl _
      exact hO.le_lt k1 (hO.lt_le hx k2)
    · obtain ⟨t, t1, t2, rfl⟩ := seg_mem.1 hy
      obtain ⟨u, u1, u2, rfl⟩ := seg_mem.1 hz
      have hx := h2 (by omega) (by omega)
      have k1 : lt (f (s - 1)) (f t) = false := by
        rcases Nat.lt_or_ge t (s - 1) with h | h
        · exact hs t (s - 1) (by omega) h (by omega)
        · rw [show t = s - 1 by omega]; exact hO.irrefl _
      have k2 : lt (f u) (f e) = false := by
        rcases Nat.lt_or_ge e u with h | h
        · exact hq e u (by omega) h (by omega)
        · rw [show u = e by omega]; exact hO.irrefl _
      exact hO.ntrans _ _ _ (hO.ntrans _ _ _ k2 hx) k1

end Go.Proofs.Ytdilmiaaahpfcaa.Stab
