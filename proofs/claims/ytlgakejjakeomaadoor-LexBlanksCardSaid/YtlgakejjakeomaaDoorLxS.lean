/- Lines of words: blanks ahead and behind, and what stands behind a sharp sign, change no word: the texts. -/
import Derived.Test.YtlgakejjakeomaaDoorLxC
namespace Go.Proofs.YtlgakejjakeomaaDoor.Lx
set_option linter.unusedVariables false
set_option linter.unusedSimpArgs false
open Go.RowKit
/-- a byte that may stand in a text's line. -/
def Pr (c : UInt8) : Prop := ¬ (c.toNat < 32 ∨ 126 < c.toNat)
def sh (a : Nat) (p : Wp) : Wp := (p.1 + a, p.2 + a)
theorem setLast_sh (a e : Nat) {out : List Wp} (h : out ≠ []) : setLast (out.map (sh a)) (e + a) = (setLast out e).map (sh a) := by
  obtain ⟨o, ⟨s, i⟩, rfl⟩ : ∃ o x, out = o ++ [x] := ⟨out.dropLast, out.getLast h, (List.dropLast_concat_getLast h).symm⟩
  rw [setLast_app, List.map_append]
  show setLast (o.map (sh a) ++ [(s + a, i + a)]) (e + a) = _
  rw [setLast_app]
  simp [sh]
theorem setLast_ne (out : List Wp) (e : Nat) : setLast out e ≠ [] := by simp [setLast]
theorem runW_shift (m a : Nat) : ∀ (r : Bs) (i : Nat) (out : List Wp) (iw lf : Bool), (iw = true → out ≠ []) →
    (runW m r (i + a) (out.map (sh a)) iw lf).1 = (runW m r i out iw lf).1.map (sh a) ∧ (runW m r (i + a) (out.map (sh a)) iw lf).2.2 = (runW m r i out iw lf).2.2
  | [], i, out, iw, lf, h => ⟨rfl, rfl⟩
  | c :: r, i, out, iw, lf, h => by
    by_cases h1 : c.toNat < 32 ∨ 126 < c.toNat
    · rw [runW_bad h1, runW_bad h1]; exact ⟨rfl, rfl⟩
    by_cases h2 : lf = true ∨ c.toNat = 35 ∨ c.toNat = 32
    · rw [runW_off h1 h2, runW_off h1 h2, Nat.add_right_comm]
      exact runW_shift m a r (i + 1) out false _ (fun h => by cases h)
    have hlf : lf = false := by cases lf <;> simp_all
    subst hlf
    have h3 : ¬ (c.toNat = 35 ∨ c.toNat = 32) := fun h => h2 (.inr h)
    cases iw with
    | true =>
      rw [runW_in h1 h3, runW_in h1 h3, Nat.add_right_comm, setLast_sh a (i + 1) (h rfl)]
      exact runW_shift m a r (i + 1) _ true false (fun _ => setLast_ne _ _)
    | false =>
      by_cases hf : out.length = m
      · rw [runW_full h1 h3 (by rw [List.length_map]; exact hf), runW_full h1 h3 hf]; exact ⟨rfl, rfl⟩
      · rw [runW_new h1 h3 (by rw [List.length_map]; exact hf), runW_new h1 h3 hf, Nat.add_right_comm]
        have := runW_shift m a r (i + 1) (out ++ [(i, i + 1)]) true false (fun _ => by simp)
        rw [List.map_append] at this
        exact this
theorem runW_lead (m : Nat) (r : Bs) : ∀ (a i : Nat), runW m (List.replicate a 32 ++ r) i [] false false = runW m r (i + a) [] false false
  | 0, i => rfl
  | a + 1, i => by
    rw [List.replicate_succ, List.cons_append, runW_off (by decide) (.inr (.inr (by decide)))]
    have := runW_lead m r a (i + 1)
    rw [show (false || (32 : UInt8).toNat == 35) = false by decide, this]
    congr 1
    omega
theorem quiet_note (m : Nat) : ∀ (t : Bs) (i : Nat) (out : List Wp), (∀ c ∈ t, Pr c) → runW m t i out false true = (out, 0, 0)
  | [], i, out, h => rfl
  | c :: t, i, out, h => by
    rw [runW_off (h c (by simp)) (.inl rfl)]
    exact quiet_note m t (i + 1) out (fun x hx => h x (by simp [hx]))
theorem quiet_tail (m : Nat) (t : Bs) (h : ∀ c ∈ t, Pr c) : ∀ (b i : Nat) (out : List Wp) (iw : Bool), runW m (List.replicate b 32 ++ 35 :: t) i out iw false = (out, 0, 0)
  | 0, i, out, iw => by
    show runW m (35 :: t) i out iw false = _
    rw [runW_off (by decide) (.inr (.inl (by decide)))]
    exact quiet_note m t (i + 1) out h
  | b + 1, i, out, iw => by
    rw [List.replicate_succ, List.cons_append, runW_off (by decide) (.inr (.inr (by decide)))]
    exact quiet_tail m t h b (i + 1) out false
theorem runW_tail (m : Nat) (t : Bs) (ht : ∀ i out iw, runW m t i out iw false = (out, 0, 0)) : ∀ (r : Bs) (i : Nat) (out : List Wp) (iw : Bool), (∀ c ∈ r, c.toNat ≠ 35) →
    runW m (r ++ t) i out iw false = runW m r i out iw false
  | [], i, out, iw, h => ht i out iw
  | c :: r, i, out, iw, h => by
    have h0 : c.toNat ≠ 35 := h c (by simp)
    have hr : ∀ x ∈ r, x.toNat ≠ 35 := fun x hx => h x (by simp [hx])
    rw [List.cons_append]
    by_cases h1 : c.toNat < 32 ∨ 126 < c.toNat
    · rw [runW_bad h1, runW_bad h1]
    by_cases h2 : c.toNat = 32
    · rw [runW_off h1 (.inr (.inr h2)), runW_off h1 (.inr (.inr h2))]
      have : (false || c.toNat == 35) = false := by simp [h0]
      rw [this]
      exact runW_tail m t ht r (i + 1) out false hr
    have h3 : ¬ (c.toNat = 35 ∨ c.toNat = 32) := by omega
    cases iw with
    | true =>
      rw [runW_in h1 h3, runW_in h1 h3]
      exact runW_tail m t ht r (i + 1) _ true hr
    | false =>
      by_cases hf : out.length = m
      · rw [runW_full h1 h3 hf, runW_full h1 h3 hf]
      · rw [runW_new h1 h3 hf, runW_new h1 h3 hf]
        exact runW_tail m t ht r (i + 1) _ true hr
theorem runW_le (m : Nat) : ∀ (r : Bs) (i : Nat) (out : List Wp) (iw lf : Bool), (∀ p ∈ out, p.2 ≤ i) → ∀ p ∈ (runW m r i out iw lf).1, p.2 ≤ i + r.length
  | [], i, out, iw, lf, h => h
  | c :: r, i, out, iw, lf, h => by
    have e : i + (c :: r).length = i + 1 + r.length := by simp; omega
    rw [e]
    by_cases h1 : c.toNat < 32 ∨ 126 < c.toNat
    · rw [runW_bad h1]; intro p hp; simp at hp
    by_cases h2 : lf = true ∨ c.toNat = 35 ∨ c.toNat = 32
    · rw [runW_off h1 h2]
      exact runW_le m r (i + 1) out false _ (fun p hp => Nat.le_succ_of_le (h p hp))
    have hlf : lf = false := by cases lf <;> simp_all
    subst hlf
    have h3 : ¬ (c.toNat = 35 ∨ c.toNat = 32) := fun h => h2 (.inr h)
    cases iw with
    | true =>
      rw [runW_in h1 h3]
      refine runW_le m r (i + 1) _ true false (fun p hp => ?_)
      unfold setLast at hp
      rcases List.mem_append.1 hp with hp | hp
      · exact Nat.le_succ_of_le (h p (List.dropLast_subset _ hp))
      · simp at hp; subst hp; exact Nat.le_refl _
    | false =>
      by_cases hf : out.length = m
      · rw [runW_full h1 h3 hf]; intro p hp; simp at hp
      · rw [runW_new h1 h3 hf]
        refine runW_le m r (i + 1) _ true false (fun p hp => ?_)
        rcases List.mem_append.1 hp with hp | hp
        · exact Nat.le_succ_of_le (h p hp)
        · simp at hp; subst hp; exact Nat.le_refl _
def decor (a b : Nat) (note r : Bs) : Bs := List.replicate a 32 ++ (r ++ (List.replicate b 32 ++ 35 :: note))
theorem words_blank (m a b : Nat) (note r : Bs) (hr : ∀ c ∈ r, c.toNat ≠ 35) (hn : ∀ c ∈ note, Pr c) :
    (wordsF m (decor a b note r)).1.map (·.2) = (wordsF m r).1.map (·.2) ∧ (wordsF m (decor a b note r)).2.2 = (wordsF m r).2.2 := by
  have e : runW m (decor a b note r) 0 [] false false = runW m r (0 + a) (([] : List Wp).map (sh a)) false false := by
    unfold decor
    rw [runW_lead, runW_tail m _ (quiet_tail m note hn b) r _ _ _ hr]
    rfl
  obtain ⟨h1, h2⟩ := runW_shift m a r 0 [] false false (fun h => by cases h)
  have hle := runW_le m r 0 [] false false (fun p hp => by simp at hp)
  unfold wordsF wordsT
  rw [e]
  refine ⟨?_, h2⟩
  show (List.map _ (List.map _ (runW m r (0 + a) _ false false).1)) = _
  rw [h1, List.map_map, List.map_map, List.map_map]
  refine List.map_congr_left fun p hp => ?_
  have hp2 := hle p hp
  rw [Nat.zero_add] at hp2
  show ((decor a b note r).drop (p.1 + a)).take (p.2 + a - (p.1 + a)) = (r.drop p.1).take (p.2 - p.1)
  rw [Nat.add_sub_add_right, Nat.add_comm p.1 a]
  unfold decor
  rw [← List.drop_drop, List.drop_left' (by simp), List.drop_append]
  rw [List.take_append_of_le_length (by rw [List.length_drop]; omega)]
/-- the words of lines, without where they stand. -/
def tx (ls : List LnT) : List (List Bs) := ls.map fun x => x.2.map (·.2)
theorem tx_len (ls : List LnT) : (tx ls).length = ls.length := by simp [tx]
theorem runL_sim (f : Bs → Bs) : ∀ (rows : List Bs) (n : Nat) (acc acc' : List LnT), tx acc' = tx acc → acc.length + rows.length < 2000 →
    (∀ r ∈ rows, (wordsF 40 (f r)).1.map (·.2) = (wordsF 40 r).1.map (·.2) ∧ (wordsF 40 (f r)).2.2 = (wordsF 40 r).2.2) →
    tx (runL (rows.map f ++ [[]]) n acc').1 = tx (runL (rows ++ [[]]) n acc).1 ∧ (runL (rows.map f ++ [[]]) n acc').2.2 = (runL (rows ++ [[]]) n acc).2.2
  | [], n, acc, acc', h, hl, hf => by
    have e2 : ∀ k, wordsF k [] = ([], 0, 0) := fun k => rfl
    have e : ∀ a, runL ([[]] : List Bs) n a = (a, (0, 0), 0) := fun a => by rw [runL, e2, if_pos rfl, if_pos rfl]; rfl
    show tx (runL [[]] n acc').1 = tx (runL [[]] n acc).1 ∧ (runL [[]] n acc').2.2 = (runL [[]] n acc).2.2
    rw [e, e]
    exact ⟨h, rfl⟩
  | r :: rows, n, acc, acc', h, hl, hf => by
    have hlen : acc'.length = acc.length := by rw [← tx_len, h, tx_len]
    obtain ⟨h1, h2⟩ := hf r (by simp)
    rw [List.map_cons, List.cons_append, List.cons_append, runL, runL]
    simp only [List.length_cons] at hl
    rw [if_neg (show ¬ acc.length = 2000 by omega), if_neg (show ¬ acc'.length = 2000 by omega), h2]
    by_cases h0 : (wordsF 40 r).2.2 = 0
    · rw [if_pos h0, if_pos h0]
      refine runL_sim f rows (n + 1) _ _ ?_ ?_ (fun x hx => hf x (by simp [hx]))
      · by_cases he : (wordsF 40 r).1 = []
        · have he' : (wordsF 40 (f r)).1 = [] := by rw [he] at h1; simpa using h1
          rw [if_pos he, if_pos he', h]
        · have he' : ¬ (wordsF 40 (f r)).1 = [] := fun h => he (by rw [h] at h1; simpa using h1.symm)
          rw [if_neg he, if_neg he']
          show tx (acc' ++ _) = tx (acc ++ _)
          simp only [tx, List.map_append] at h ⊢
          rw [h]
          simp [h1]
      · split
        · omega
        · simp; omega
    · rw [if_neg h0, if_neg h0]
      exact ⟨rfl, rfl⟩
/-- lines one behind another. -/
def cat (f : Bs → Bs) (rows : List Bs) : Bs := rows.flatMap fun r => f r ++ [10]
theorem cat_snoc (f : Bs → Bs) (rows : List Bs) (r : Bs) : cat f (rows ++ [r]) = cat f rows ++ (f r ++ [10]) := by simp [cat]
theorem cut_cat (f : Bs → Bs) : ∀ rows : List Bs, (∀ r ∈ rows, (10 : UInt8) ∉ f r) → cutAt 10 (cat f rows) = rows.map f ++ [[]]
  | [], h => rfl
  | r :: rows, h => by
    have e : cat f (r :: rows) = f r ++ 10 :: cat f rows := by simp [cat]
    rw [e, cut_at 10 _ _ (h r (by simp)), cut_cat f rows (fun x hx => h x (by simp [hx]))]
    rfl
theorem no10 {l : Bs} (h : ∀ c ∈ l, Pr c) : (10 : UInt8) ∉ l := fun hm => h 10 hm (.inl (by decide))
theorem decor_pr {a b : Nat} {note r : Bs} (hn : ∀ c ∈ note, Pr c) (hr : ∀ c ∈ r, Pr c) : ∀ c ∈ decor a b note r, Pr c := by
  intro c hc
  have h32 : Pr 32 := by unfold Pr; decide
  have h35 : Pr 35 := by unfold Pr; decide
  unfold decor at hc
  rcases List.mem_append.1 hc with hc | hc
  · rw [List.eq_of_mem_replicate hc]; exact h32
  rcases List.mem_append.1 hc with hc | hc
  · exact hr c hc
  rcases List.mem_append.1 hc with hc | hc
  · rw [List.eq_of_mem_replicate hc]; exact h32
  rcases List.mem_cons.1 hc with hc | hc
  · rw [hc]; exact h35
  · exact hn c hc
/-- what blanks change of lines: nothing but where words stand. -/
theorem lines_blank (a b : Nat) (note : Bs) (rows : List Bs) (hn : ∀ c ∈ note, Pr c) (hr : ∀ r ∈ rows, ∀ c ∈ r, Pr c ∧ c.toNat ≠ 35) (hk : rows.length ≤ 100)
    (h1 : (cat id rows).length ≤ 65536) (h2 : (cat (decor a b note) rows).length ≤ 65536) :
    tx (linesF (cat (decor a b note) rows)).1 = tx (linesF (cat id rows)).1 ∧ (linesF (cat (decor a b note) rows)).2.2 = (linesF (cat id rows)).2.2 := by
  unfold linesF
  rw [if_neg (by omega), if_neg (by omega), cut_cat _ _ (fun r h => no10 (decor_pr hn (fun c hc => (hr r h c hc).1))), cut_cat id _ (fun r h => no10 (fun c hc => (hr r h c hc).1)), List.map_id]
  exact runL_sim (decor a b note) rows 0 [] [] rfl (by simp; omega) (fun r h => words_blank 40 a b note r (fun c hc => (hr r h c hc).2) hn)

/-! ### the text of lines -/
def joinW (ws : List Bs) : Nat → Bs
  | 0 => []
  | k + 1 => joinW ws k ++ (if k = 0 then [] else [32]) ++ ws.getD k []
def lineT (ws : List Bs) : Bs := joinW ws ws.length ++ [10]
def textF (ls : List (List Bs)) : Bs := ls.flatMap lineT
theorem textF_take {ls : List (List Bs)} {i : Nat} (h : i < ls.length) : textF (ls.take (i + 1)) = textF (ls.take i) ++ lineT (ls.getD i []) := by
  have e : ls.take (i + 1) = ls.take i ++ [ls.getD i []] := by
    rw [List.take_add_one, List.getD_eq_getElem?_getD, List.getElem?_eq_getElem h]
    rfl
  rw [e]
  simp [textF]
/-- lines of few words, that are short. -/
def Small (K : Nat) (ls : List (List Bs)) : Prop := ∀ ws ∈ ls, ws.length ≤ K ∧ ∀ x ∈ ws, x.length ≤ K
theorem joinW_le {K : Nat} {ws : List Bs} (h : ∀ x ∈ ws, x.length ≤ K) : ∀ k, k ≤ ws.length → (joinW ws k).length ≤ k * (K + 1)
  | 0, _ => by simp [joinW]
  | k + 1, hk => by
    have ih := joinW_le h k (by omega)
    have hx : (ws.getD k []).length ≤ K := h _ (by rw [List.getD_eq_getElem?_getD, List.getElem?_eq_getElem (by omega)]; exact List.getElem_mem _)
    rw [joinW, List.length_append, List.length_append, Nat.succ_mul]
    split
    · rw [List.length_nil]; omega
    · rw [List.length_singleton]; omega
theorem textF_le {K : Nat} : ∀ ls : List (List Bs), Small K ls → (textF ls).length ≤ ls.length * (K * (K + 1) + 1)
  | [], _ => by simp [textF]
  | ws :: ls, h => by
    have ih := textF_le ls (fun x hx => h x (by simp [hx]))
    obtain ⟨h1, h2⟩ := h ws (by simp)
    have h3 := joinW_le h2 ws.length (Nat.le_refl _)
    have h4 : ws.length * (K + 1) ≤ K * (K + 1) := Nat.mul_le_mul_right _ h1
    have e : textF (ws :: ls) = lineT ws ++ textF ls := by simp [textF]
    rw [e, List.length_append, List.length_cons, Nat.succ_mul]
    unfold lineT
    rw [List.length_append, List.length_singleton]
    omega
theorem Small.take {K : Nat} {ls : List (List Bs)} (h : Small K ls) (i : Nat) : Small K (ls.take i) := fun x hx => h x (List.mem_of_mem_take hx)
theorem runL_small {K : Nat} : ∀ (rows : List Bs) (n : Nat) (acc : List LnT), (∀ r ∈ rows, r.length ≤ K) → Small K (tx acc) → Small K (tx (runL rows n acc).1) ∧ (runL rows n acc).1.length ≤ acc.length + rows.length
  | [], n, acc, hr, ha => ⟨ha, by simp [runL]⟩
  | r :: rows, n, acc, hr, ha => by
    rw [runL]
    generalize (if acc.length = 2000 then 0 else 40) = k
    by_cases h0 : (wordsF k r).2.2 = 0
    · rw [if_pos h0]
      have hs : Small K (tx (if (wordsF k r).1 = [] then acc else acc ++ [(n + 1, (wordsF k r).1)])) := by
        by_cases he : (wordsF k r).1 = []
        · rw [if_pos he]; exact ha
        · rw [if_neg he]
          intro ws hws
          simp only [tx, List.map_append, List.mem_append, List.map_cons, List.map_nil, List.mem_singleton] at hws
          rcases hws with hws | rfl
          · exact ha ws hws
          · refine ⟨by rw [List.length_map]; exact Nat.le_trans (wordsF_len _ _) (hr r (by simp)), fun x hx => ?_⟩
            obtain ⟨p, hp, rfl⟩ := List.mem_map.1 hx
            simp only [wordsF, wordsT, List.mem_map] at hp
            obtain ⟨q, _, rfl⟩ := hp
            have := hr r (by simp)
            simp
            omega
      obtain ⟨i1, i2⟩ := runL_small rows (n + 1) _ (fun x hx => hr x (by simp [hx])) hs
      refine ⟨i1, Nat.le_trans i2 ?_⟩
      by_cases he : (wordsF k r).1 = []
      · rw [if_pos he]; simp
      · rw [if_neg he]; simp; omega
    · rw [if_neg h0]
      exact ⟨fun x hx => by simp [tx] at hx, by simp⟩

end Go.Proofs.YtlgakejjakeomaaDoor.Lx
