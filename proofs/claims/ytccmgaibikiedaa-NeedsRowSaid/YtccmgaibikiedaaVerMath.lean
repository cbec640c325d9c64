/- Versions as lists of bytes: their parts, and how two of them stand to each other. -/
import Derived.Lib.Bytealg
namespace Go.Proofs.Ytccmgaibikiedaa.Ver
set_option linter.unusedVariables false

abbrev Bs := List UInt8
def low (c : UInt8) : Bool := decide (97 ≤ c.toNat) && decide (c.toNat ≤ 122)
def dig (c : UInt8) : Bool := decide (48 ≤ c.toNat) && decide (c.toNat ≤ 57)

/-! ### texts at a sign -/
def cutAt (d : UInt8) : Bs → List Bs
  | [] => [[]]
  | c :: s => if c = d then [] :: cutAt d s else match cutAt d s with
    | [] => [[c]]
    | p :: ps => (c :: p) :: ps
def joinAt (d : UInt8) : List Bs → Bs
  | [] => []
  | [p] => p
  | p :: q :: ps => p ++ d :: joinAt d (q :: ps)

theorem cut_cons (d c : UInt8) (s : Bs) : cutAt d (c :: s) = if c = d then [] :: cutAt d s else match cutAt d s with
    | [] => [[c]]
    | p :: ps => (c :: p) :: ps := rfl
theorem cutAt_ne (d : UInt8) (s : Bs) : ∃ p ps, cutAt d s = p :: ps := by
  cases s with
  | nil => exact ⟨_, _, rfl⟩
  | cons c s =>
    unfold cutAt
    by_cases h : c = d
    · rw [if_pos h]; exact ⟨_, _, rfl⟩
    · rw [if_neg h]
      split <;> exact ⟨_, _, rfl⟩
theorem join_cut (d : UInt8) (s : Bs) : joinAt d (cutAt d s) = s := by
  induction s with
  | nil => rfl
  | cons c s ih =>
    obtain ⟨p, ps, e⟩ := cutAt_ne d s
    unfold cutAt
    by_cases h : c = d
    · rw [if_pos h, e]
      subst h
      rw [e] at ih
      simp [joinAt, ih]
    · rw [if_neg h, e]
      rw [e] at ih
      cases ps with
      | nil => simp [joinAt] at ih ⊢; exact ih
      | cons q qs => simp [joinAt] at ih ⊢; exact ih
theorem cut_none (d : UInt8) (s : Bs) (h : d ∉ s) : cutAt d s = [s] := by
  induction s with
  | nil => rfl
  | cons c s ih =>
    have h1 : ¬ c = d := fun e => h (by simp [e])
    have h2 : d ∉ s := fun e => h (by simp [e])
    unfold cutAt
    rw [if_neg h1, ih h2]
theorem cut_at (d : UInt8) (p r : Bs) (h : d ∉ p) : cutAt d (p ++ d :: r) = p :: cutAt d r := by
  induction p with
  | nil => simp [cutAt]
  | cons c p ih =>
    have h1 : ¬ c = d := fun e => h (by simp [e])
    have h2 : d ∉ p := fun e => h (by simp [e])
    simp only [List.cons_append]
    rw [cut_cons, if_neg h1, ih h2]
theorem cut_app (d : UInt8) (a b : Bs) : cutAt d (a ++ d :: b) = cutAt d a ++ cutAt d b := by
  induction a with
  | nil => simp [cutAt]
  | cons c a ih =>
    obtain ⟨p, ps, e⟩ := cutAt_ne d a
    simp only [List.cons_append]
    rw [cut_cons, cut_cons]
    by_cases h : c = d
    · rw [if_pos h, if_pos h, ih]; rfl
    · rw [if_neg h, if_neg h, ih, e]; rfl
theorem cut_parts (d : UInt8) (s : Bs) : ∀ p ∈ cutAt d s, d ∉ p := by
  induction s with
  | nil => simp [cutAt]
  | cons c s ih =>
    obtain ⟨p, ps, e⟩ := cutAt_ne d s
    unfold cutAt
    by_cases h : c = d
    · rw [if_pos h]
      intro q hq
      rcases List.mem_cons.1 hq with rfl | hq
      · simp
      · exact ih q hq
    · rw [if_neg h, e]
      rw [e] at ih
      intro q hq
      rcases List.mem_cons.1 hq with rfl | hq
      · have := ih p (by simp)
        simp only [List.mem_cons, not_or]
        exact ⟨fun e => h e.symm, this⟩
      · exact ih q (by simp [hq])
theorem cut_length (d : UInt8) (s : Bs) : (cutAt d s).length ≤ s.length + 1 := by
  induction s with
  | nil => simp [cutAt]
  | cons c s ih =>
    obtain ⟨p, ps, e⟩ := cutAt_ne d s
    unfold cutAt
    by_cases h : c = d
    · rw [if_pos h]; simpa using ih
    · rw [if_neg h, e]
      rw [e] at ih
      simp at ih ⊢; omega

/-! ### parts -/
def lettersP (p : Bs) : Bool := p.all low && !p.isEmpty
def digitsP (p : Bs) : Bool := p.all dig && !p.isEmpty
def numP (p : Bs) : Bool := digitsP p && decide (p.length ≤ 9) && (p == [48] || !(p.headD 0 == 48))
def partP (p : Bs) : Bool := lettersP p || numP p
def mayV (s : Bs) : Bool := decide (0 < s.length) && decide (s.length ≤ 40) && (cutAt 46 s).all partP && decide ((cutAt 46 s).length ≤ 8)

theorem dig_not_low (c : UInt8) (h : dig c = true) : low c = false := by
  simp [dig] at h
  simp [low]; omega
theorem letters_not_digits {p : Bs} (h : lettersP p = true) : digitsP p = false := by
  cases p with
  | nil => simp [lettersP] at h
  | cons c p =>
    simp [lettersP] at h
    have : dig c = false := by
      cases hd : dig c with
      | false => rfl
      | true => rw [dig_not_low c hd] at h; simp at h
    simp [digitsP, this]
theorem num_digits {p : Bs} (h : numP p = true) : digitsP p = true := by
  simp [numP] at h; exact h.1.1
theorem part_ne {p : Bs} (h : partP p = true) : p ≠ [] := by
  rintro rfl
  simp [partP, lettersP, numP, digitsP] at h

/-! ### numbers -/
def valOf (l : Bs) : Nat := l.foldl (fun n c => n * 10 + (c.toNat - 48)) 0
theorem val_snoc (l : Bs) (c : UInt8) : valOf (l ++ [c]) = valOf l * 10 + (c.toNat - 48) := by
  simp [valOf, List.foldl_append]
theorem fold_low (l : Bs) : ∀ n : Nat, n * 10 ^ l.length ≤ l.foldl (fun n c => n * 10 + (c.toNat - 48)) n := by
  induction l with
  | nil => intro n; simp
  | cons c l ih =>
    intro n
    simp only [List.length_cons, List.foldl_cons]
    refine Nat.le_trans ?_ (ih _)
    rw [Nat.pow_succ, Nat.mul_comm (10 ^ l.length) 10, ← Nat.mul_assoc]
    exact Nat.mul_le_mul_right _ (by omega)
theorem fold_high (l : Bs) (h : l.all dig = true) : ∀ n : Nat, l.foldl (fun n c => n * 10 + (c.toNat - 48)) n < (n + 1) * 10 ^ l.length := by
  induction l with
  | nil => intro n; simp
  | cons c l ih =>
    intro n
    simp only [List.all_cons, Bool.and_eq_true] at h
    simp only [List.length_cons, List.foldl_cons]
    refine Nat.lt_of_lt_of_le (ih h.2 _) ?_
    rw [Nat.pow_succ, Nat.mul_comm (10 ^ l.length) 10, ← Nat.mul_assoc]
    have := h.1
    simp [dig] at this
    exact Nat.mul_le_mul_right _ (by omega)
theorem val_high (l : Bs) (h : l.all dig = true) : valOf l < 10 ^ l.length := by
  have := fold_high l h 0
  simpa [valOf] using this
theorem val_low (c : UInt8) (l : Bs) (hc : dig c = true) (h0 : c ≠ 48) : 10 ^ l.length ≤ valOf (c :: l) := by
  have := fold_low l (0 * 10 + (c.toNat - 48))
  refine Nat.le_trans ?_ this
  have h1 : c.toNat ≠ 48 := fun e => h0 (by rw [← UInt8.toNat_inj]; simpa using e)
  simp [dig] at hc
  exact Nat.le_mul_of_pos_left _ (by omega)
theorem val_mono (a b : Bs) : valOf a ≤ valOf (a ++ b) := by
  have := fold_low b (valOf a)
  simp only [valOf, List.foldl_append] at this ⊢
  refine Nat.le_trans ?_ this
  exact Nat.le_mul_of_pos_right _ (Nat.pow_pos (by omega))

/-- what a text is that the program takes for a number. -/
def progNum (p : Bs) : Bool := !p.isEmpty && !(decide (1 < p.length) && p.headD 0 == 48) && p.all dig && decide (valOf p ≤ 999999999)
theorem progNum_eq (p : Bs) : progNum p = numP p := by
  cases p with
  | nil => rfl
  | cons c p =>
    cases hd : (c :: p).all dig with
    | false => simp only [progNum, numP, digitsP, hd]; simp
    | true =>
      have hd1 : dig c = true := by simp at hd; exact hd.1
      by_cases h48 : c = 48
      · subst h48
        cases p with
        | nil => simp [progNum, numP, digitsP, hd1, valOf]
        | cons d p => simp [progNum, numP]
      · have hlow := val_low c p hd1 h48
        have hhigh := val_high (c :: p) hd
        simp only [progNum, numP, digitsP, hd]
        by_cases hl : (c :: p).length ≤ 9
        · have : valOf (c :: p) ≤ 999999999 := by
            have : (10 : Nat) ^ (c :: p).length ≤ 10 ^ 9 := Nat.pow_le_pow_right (by omega) hl
            omega
          have hb : (c == 48) = false := by simp [h48]
          have hl8 : p.length ≤ 8 := by simp at hl; omega
          simp [hb, this, hl8]
        · have : ¬ valOf (c :: p) ≤ 999999999 := by
            have h9 : 9 ≤ p.length := by simp at hl; omega
            have : (10 : Nat) ^ 9 ≤ 10 ^ p.length := Nat.pow_le_pow_right (by omega) h9
            omega
          have h8 : ¬ p.length ≤ 8 := by simp at hl; omega
          simp [this, h8]

/-! ### how things stand to each other -/
def cmpN (a b : Nat) : Int := if a < b then -1 else if b < a then 1 else 0
def rankV (p : Bs) : Nat := if p = [] then 1 else if lettersP p then 0 else 2
def lenV (p : Bs) : Nat := if rankV p = 2 then p.length else 0
def orI (x y : Int) : Int := if x ≠ 0 then x else y
def cmpPart (a b : Bs) : Int := orI (cmpN (rankV a) (rankV b)) (orI (cmpN (lenV a) (lenV b)) (Lib.compareBytes a b))

structure Ord {α : Type} (f : α → α → Int) : Prop where
  rng : ∀ a b, f a b = -1 ∨ f a b = 0 ∨ f a b = 1
  anti : ∀ a b, f b a = - f a b
  refl : ∀ a, f a a = 0
  tr : ∀ a b c, f a b ≤ 0 → f b c ≤ 0 → f a c ≤ 0
theorem Ord.lt_le {α : Type} {f : α → α → Int} (h : Ord f) {a b c : α} (h1 : f a b < 0) (h2 : f b c ≤ 0) : f a c < 0 := by
  have h3 := h.tr a b c (by omega) h2
  rcases h.rng a c with e | e | e
  · omega
  · have h4 : f c a ≤ 0 := by rw [h.anti a c]; omega
    have h5 := h.tr b c a h2 h4
    have h6 := h.anti a b
    omega
  · omega
theorem Ord.le_lt {α : Type} {f : α → α → Int} (h : Ord f) {a b c : α} (h1 : f a b ≤ 0) (h2 : f b c < 0) : f a c < 0 := by
  have h3 := h.tr a b c h1 (by omega)
  rcases h.rng a c with e | e | e
  · omega
  · have h4 : f c a ≤ 0 := by rw [h.anti a c]; omega
    have h5 := h.tr c a b h4 h1
    have h6 := h.anti b c
    omega
  · omega
theorem ord_or {α : Type} {f g : α → α → Int} (hf : Ord f) (hg : Ord g) : Ord (fun a b => orI (f a b) (g a b)) where
  rng a b := by
    show orI (f a b) (g a b) = -1 ∨ orI (f a b) (g a b) = 0 ∨ orI (f a b) (g a b) = 1
    unfold orI
    split
    · exact hf.rng a b
    · exact hg.rng a b
  anti a b := by
    show orI (f b a) (g b a) = - orI (f a b) (g a b)
    unfold orI
    have h1 := hf.anti a b
    have h2 := hg.anti a b
    split <;> split <;> omega
  refl a := by
    show orI (f a a) (g a a) = 0
    unfold orI
    rw [hf.refl a, hg.refl a]; simp
  tr a b c := by
    show orI (f a b) (g a b) ≤ 0 → orI (f b c) (g b c) ≤ 0 → orI (f a c) (g a c) ≤ 0
    intro h1 h2
    have ha : f a b ≤ 0 := by unfold orI at h1; split at h1 <;> omega
    have hb : f b c ≤ 0 := by unfold orI at h2; split at h2 <;> omega
    by_cases e1 : f a b < 0
    · have := hf.lt_le e1 hb
      unfold orI; rw [if_pos (by omega)]; omega
    · by_cases e2 : f b c < 0
      · have := hf.le_lt ha e2
        unfold orI; rw [if_pos (by omega)]; omega
      · have e3 : f a b = 0 := by omega
        have e4 : f b c = 0 := by omega
        have g1 : g a b ≤ 0 := by unfold orI at h1; rw [if_neg (by omega)] at h1; exact h1
        have g2 : g b c ≤ 0 := by unfold orI at h2; rw [if_neg (by omega)] at h2; exact h2
        have := hg.tr a b c g1 g2
        have := hf.tr a b c ha hb
        unfold orI
        split <;> omega
theorem ord_n {α : Type} (k : α → Nat) : Ord (fun a b => cmpN (k a) (k b)) where
  rng a b := by show cmpN _ _ = _ ∨ cmpN _ _ = _ ∨ cmpN _ _ = _; unfold cmpN; split <;> (try split) <;> simp
  anti a b := by show cmpN (k b) (k a) = - cmpN (k a) (k b); unfold cmpN; split <;> split <;> (try split) <;> omega
  refl a := by show cmpN (k a) (k a) = 0; unfold cmpN; simp
  tr a b c := by
    show cmpN (k a) (k b) ≤ 0 → cmpN (k b) (k c) ≤ 0 → cmpN (k a) (k c) ≤ 0
    unfold cmpN
    intro h1 h2
    split at h1 <;> split at h2 <;> (try split at h1) <;> (try split at h2) <;> split <;> (try split) <;> omega
theorem cb_cons (x y : UInt8) (a b : Bs) : Lib.compareBytes (x :: a) (y :: b) = if x.toNat < y.toNat then -1 else if y.toNat < x.toNat then 1 else Lib.compareBytes a b := by
  conv => lhs; unfold Lib.compareBytes
  simp only [UInt8.lt_iff_toNat_lt]
theorem ord_bytes : Ord Lib.compareBytes where
  rng a := by
    induction a with
    | nil => intro b; cases b <;> simp [Lib.compareBytes]
    | cons x a ih =>
      intro b
      cases b with
      | nil => simp [Lib.compareBytes]
      | cons y b =>
        unfold Lib.compareBytes
        split
        · simp
        · split
          · simp
          · exact ih b
  anti a := by
    induction a with
    | nil => intro b; cases b <;> simp [Lib.compareBytes]
    | cons x a ih =>
      intro b
      cases b with
      | nil => simp [Lib.compareBytes]
      | cons y b =>
        unfold Lib.compareBytes
        have := ih b
        by_cases h1 : x < y
        · have h2 : ¬ y < x := by simp only [UInt8.lt_iff_toNat_lt] at *; omega
          simp [h1, h2]
        · by_cases h2 : y < x <;> simp [h1, h2, this]
  refl a := by
    induction a with
    | nil => rfl
    | cons x a ih => unfold Lib.compareBytes; simp [ih]
  tr a := by
    induction a with
    | nil =>
      intro b c
      cases c with
      | nil => simp [Lib.compareBytes]
      | cons z c => simp [Lib.compareBytes]
    | cons x a ih =>
      intro b c h1 h2
      cases b with
      | nil => simp [Lib.compareBytes] at h1
      | cons y b =>
        cases c with
        | nil => simp [Lib.compareBytes] at h2
        | cons z c =>
          rw [cb_cons] at h1 h2 ⊢
          have := ih b c
          split at h1
          · rename_i l1
            split at h2
            · rename_i l2; rw [if_pos (by omega)]; omega
            · split at h2
              · omega
              · rw [if_pos (by omega)]; omega
          · split at h1
            · omega
            · split at h2
              · rw [if_pos (by omega)]; omega
              · split at h2
                · omega
                · rw [if_neg (by omega), if_neg (by omega)]
                  exact this h1 h2
theorem bytes_eq : ∀ a b : Bs, Lib.compareBytes a b = 0 → a = b := by
  intro a
  induction a with
  | nil => intro b h; cases b with
    | nil => rfl
    | cons y b => simp [Lib.compareBytes] at h
  | cons x a ih =>
    intro b h
    cases b with
    | nil => simp [Lib.compareBytes] at h
    | cons y b =>
      unfold Lib.compareBytes at h
      simp only [UInt8.lt_iff_toNat_lt] at h
      split at h
      · omega
      · split at h
        · omega
        · rw [ih b h]
          have : x = y := by rw [← UInt8.toNat_inj]; omega
          rw [this]
theorem ord_part : Ord cmpPart := ord_or (ord_n rankV) (ord_or (ord_n lenV) ord_bytes)
theorem part_eq {a b : Bs} (h : cmpPart a b = 0) : a = b := by
  apply bytes_eq
  unfold cmpPart orI at h
  split at h
  · omega
  · split at h
    · omega
    · exact h

/-! ### rows of parts, nothing behind the end -/
def cmpFrom (a b : List Bs) : Nat → Nat → Int
  | i, 0 => 0
  | i, n + 1 => orI (cmpPart (a.getD i []) (b.getD i [])) (cmpFrom a b (i + 1) n)
def cmpParts (a b : List Bs) : Int := cmpFrom a b 0 (max a.length b.length)

theorem ord_from (n : Nat) : ∀ i, Ord (fun a b => cmpFrom a b i n) := by
  induction n with
  | zero => intro i; exact ⟨fun _ _ => .inr (.inl rfl), fun _ _ => rfl, fun _ => rfl, fun _ _ _ _ _ => by simp [cmpFrom]⟩
  | succ n ih =>
    intro i
    have h1 : Ord (fun a b : List Bs => cmpPart (a.getD i []) (b.getD i [])) :=
      ⟨fun a b => ord_part.rng _ _, fun a b => ord_part.anti _ _, fun a => ord_part.refl _, fun a b c => ord_part.tr _ _ _⟩
    exact ord_or h1 (ih (i + 1))
theorem from_past (a b : List Bs) : ∀ n i, a.length ≤ i → b.length ≤ i → cmpFrom a b i n = 0 := by
  intro n
  induction n with
  | zero => intro i _ _; rfl
  | succ n ih =>
    intro i ha hb
    unfold cmpFrom
    rw [ih (i + 1) (by omega) (by omega)]
    have e1 : a.getD i [] = [] := by simp [List.getD_eq_getElem?_getD, List.getElem?_eq_none ha]
    have e2 : b.getD i [] = [] := by simp [List.getD_eq_getElem?_getD, List.getElem?_eq_none hb]
    rw [e1, e2]; rfl
theorem from_more (a b : List Bs) : ∀ n m i, max a.length b.length ≤ i + n → n ≤ m → cmpFrom a b i m = cmpFrom a b i n := by
  intro n
  induction n with
  | zero => intro m i h _; rw [from_past a b m i (by omega) (by omega)]; rfl
  | succ n ih =>
    intro m i h hm
    obtain ⟨m', rfl⟩ : ∃ m', m = m' + 1 := ⟨m - 1, by omega⟩
    unfold cmpFrom
    rw [ih m' (i + 1) (by omega) (by omega)]
theorem parts_from (a b : List Bs) (n : Nat) (h : max a.length b.length ≤ n) : cmpParts a b = cmpFrom a b 0 n := by
  unfold cmpParts
  exact (from_more a b _ n 0 (by omega) h).symm
theorem ord_parts : Ord cmpParts where
  rng a b := (ord_from _ 0).rng a b
  anti a b := by
    unfold cmpParts
    rw [Nat.max_comm]
    exact (ord_from _ 0).anti a b
  refl a := (ord_from _ 0).refl a
  tr a b c := by
    have h1 := parts_from a b (max a.length (max b.length c.length)) (by omega)
    have h2 := parts_from b c (max a.length (max b.length c.length)) (by omega)
    have h3 := parts_from a c (max a.length (max b.length c.length)) (by omega)
    rw [h1, h2, h3]
    exact (ord_from _ 0).tr a b c
theorem from_zero (a b : List Bs) : ∀ n i, cmpFrom a b i n = 0 → ∀ j, i ≤ j → j < i + n → a.getD j [] = b.getD j [] := by
  intro n
  induction n with
  | zero => intro i _ j h1 h2; omega
  | succ n ih =>
    intro i h j h1 h2
    unfold cmpFrom orI at h
    split at h
    · omega
    · rename_i h0
      rcases Nat.lt_or_ge i j with hlt | hge
      · exact ih (i + 1) h j (by omega) (by omega)
      · have : j = i := by omega
        subst this
        exact part_eq (by omega)
theorem parts_eq {a b : List Bs} (ha : ∀ p ∈ a, p ≠ []) (hb : ∀ p ∈ b, p ≠ []) (h : cmpParts a b = 0) : a = b := by
  have hz := from_zero a b _ 0 h
  have hl : ∀ x y : List Bs, (∀ p ∈ x, p ≠ []) → (∀ j, j < max x.length y.length → x.getD j [] = y.getD j []) → x.length ≤ y.length := by
    intro x y hx hxy
    rcases Nat.lt_or_ge y.length x.length with hlt | hge
    · have := hxy y.length (by omega)
      have e1 : y.getD y.length [] = [] := by simp
      have e2 : x.getD y.length [] = x[y.length] := by simp [List.getD_eq_getElem?_getD, List.getElem?_eq_getElem hlt]
      rw [e1, e2] at this
      exact absurd this (hx _ (List.getElem_mem hlt))
    · exact hge
  have l1 := hl a b ha (fun j hj => hz j (Nat.zero_le _) (by omega))
  have l2 := hl b a hb (fun j hj => (hz j (Nat.zero_le _) (by omega)).symm)
  apply List.ext_getElem (by omega)
  intro i h1 h2
  have := hz i (Nat.zero_le _) (by omega)
  simpa [List.getD_eq_getElem?_getD, List.getElem?_eq_getElem h1, List.getElem?_eq_getElem h2] using this

/-! ### versions -/
def cmpV (a b : Bs) : Int := if mayV a then (if mayV b then cmpParts (cutAt 46 a) (cutAt 46 b) else 1) else if mayV b then -1 else 0
theorem ord_v : Ord cmpV where
  rng a b := by
    unfold cmpV
    split <;> split
    · exact ord_parts.rng _ _
    · simp
    · simp
    · simp
  anti a b := by
    unfold cmpV
    split <;> split
    · exact ord_parts.anti _ _
    · rfl
    · rfl
    · rfl
  refl a := by
    unfold cmpV
    split
    · exact ord_parts.refl _
    · rfl
  tr a b c := by
    unfold cmpV
    intro h1 h2
    by_cases ha : mayV a = true <;> by_cases hb : mayV b = true <;> by_cases hc : mayV c = true <;> simp only [ha, hb, hc, if_true] at h1 h2 ⊢
    · exact ord_parts.tr _ _ _ h1 h2
    all_goals simp_all
theorem may_all {s : Bs} (h : mayV s = true) : ∀ p ∈ cutAt 46 s, partP p = true := by
  simp only [mayV, Bool.and_eq_true, List.all_eq_true] at h
  exact h.1.2
theorem v_eq {a b : Bs} (ha : mayV a = true) (hb : mayV b = true) (h : cmpV a b = 0) : a = b := by
  unfold cmpV at h
  rw [if_pos ha, if_pos hb] at h
  have := parts_eq (fun p hp => part_ne (may_all ha p hp)) (fun p hp => part_ne (may_all hb p hp)) h
  rw [← join_cut 46 a, ← join_cut 46 b, this]
theorem v_zero {a b : Bs} (h : cmpV a b = 0) (h1 : mayV a = true ∨ mayV b = true) : a = b := by
  have h0 := h
  unfold cmpV at h
  by_cases ha : mayV a = true <;> by_cases hb : mayV b = true <;> simp [ha, hb] at h h1
  exact v_eq ha hb h0

/-! ### the document's words -/
def beforeP (a b : Bs) : Bool :=
  if a = b then false else if a = [] then digitsP b else if b = [] then lettersP a
  else if lettersP a != lettersP b then lettersP a
  else if digitsP a && a.length != b.length then decide (a.length < b.length) else decide (Lib.compareBytes a b < 0)
def okP (p : Bs) : Prop := p = [] ∨ partP p = true
theorem rank_word {p : Bs} (h : lettersP p = true) : rankV p = 0 ∧ lenV p = 0 := by
  have : p ≠ [] := by rintro rfl; simp [lettersP] at h
  have e : rankV p = 0 := by simp [rankV, this, h]
  exact ⟨e, by simp [lenV, e]⟩
theorem rank_num {p : Bs} (h : digitsP p = true) : rankV p = 2 ∧ lenV p = p.length := by
  have h0 : p ≠ [] := by rintro rfl; simp [digitsP] at h
  have h1 : lettersP p = false := by
    cases hl : lettersP p with
    | false => rfl
    | true => rw [letters_not_digits hl] at h; cases h
  have e : rankV p = 2 := by simp [rankV, h0, h1]
  exact ⟨e, by simp [lenV, e]⟩
theorem rank_nil : rankV [] = 1 := rfl
theorem before_eq {a b : Bs} (ha : okP a) (hb : okP b) : beforeP a b = decide (cmpPart a b < 0) := by
  have word_or : ∀ {p : Bs}, partP p = true → lettersP p = true ∨ (lettersP p = false ∧ digitsP p = true) := by
    intro p h
    simp only [partP, Bool.or_eq_true] at h
    rcases h with h | h
    · exact .inl h
    · right
      have hd := num_digits h
      refine ⟨?_, hd⟩
      cases hl : lettersP p with
      | false => rfl
      | true => rw [letters_not_digits hl] at hd; cases hd
  unfold beforeP
  by_cases hab : a = b
  · subst hab
    simp [ord_part.refl a]
  · rw [if_neg hab]
    rcases ha with rfl | ha
    · rcases hb with rfl | hb
      · exact absurd rfl hab
      · rw [if_pos rfl]
        rcases word_or hb with h | ⟨_, h⟩
        · simp [letters_not_digits h, cmpPart, orI, cmpN, rank_word h, rank_nil]
        · simp [h, cmpPart, orI, cmpN, rank_num h, rank_nil]
    · have ha0 := part_ne ha
      rw [if_neg ha0]
      rcases hb with rfl | hb
      · rw [if_pos rfl]
        rcases word_or ha with h | ⟨h', h⟩
        · simp [h, cmpPart, orI, cmpN, rank_word h, rank_nil]
        · have e : rankV [] = 1 := rfl
          simp [h', cmpPart, orI, cmpN, rank_num h, e]
      · have hb0 := part_ne hb
        rw [if_neg hb0]
        rcases word_or ha with h | ⟨h', h⟩ <;> rcases word_or hb with g | ⟨g', g⟩
        · have d := letters_not_digits h
          simp [h, g, d, cmpPart, orI, cmpN, rank_word h, rank_word g]
        · simp [h, g', cmpPart, orI, cmpN, rank_word h, rank_num g]
        · simp [h', g, cmpPart, orI, cmpN, rank_num h, rank_word g]
        · by_cases hl : a.length = b.length
          · simp [h', g', h, hl, cmpPart, orI, cmpN, rank_num h, rank_num g]
          · have : (a.length != b.length) = true := by simp [hl]
            simp only [h', g', h, this, cmpPart, orI, cmpN, rank_num h, rank_num g]
            by_cases hlt : a.length < b.length
            · simp [hlt]
            · have : b.length < a.length := by omega
              simp [hlt, this]

theorem may_tail {x a : Bs} (h : mayV (x ++ 46 :: a) = true) : mayV a = true := by
  have hx := may_all h
  rw [cut_app] at hx
  simp only [mayV, Bool.and_eq_true, decide_eq_true_eq] at h
  rw [cut_app] at h
  simp only [List.length_append, List.length_cons] at h
  have h0 : a ≠ [] := by
    rintro rfl
    have := hx [] (by simp [cutAt])
    exact part_ne this rfl
  have h1 : 0 < a.length := List.length_pos_iff.2 h0
  simp only [mayV, Bool.and_eq_true, decide_eq_true_eq, List.all_eq_true]
  exact ⟨⟨⟨h1, by omega⟩, fun p hp => hx p (by simp [hp])⟩, by omega⟩
theorem from_shift (x a b : List Bs) : ∀ n i, cmpFrom (x ++ a) (x ++ b) (x.length + i) n = cmpFrom a b i n := by
  intro n
  induction n with
  | zero => intro i; rfl
  | succ n ih =>
    intro i
    unfold cmpFrom
    rw [show x.length + i + 1 = x.length + (i + 1) by omega, ih (i + 1)]
    simp [List.getD_eq_getElem?_getD, List.getElem?_append_right]
theorem from_same (x a b : List Bs) : ∀ k i n, i + k = x.length → cmpFrom (x ++ a) (x ++ b) i (k + n) = cmpFrom (x ++ a) (x ++ b) x.length n := by
  intro k
  induction k with
  | zero => intro i n h; simp at h; subst h; simp
  | succ k ih =>
    intro i n h
    rw [show k + 1 + n = (k + n) + 1 by omega]
    conv => lhs; unfold cmpFrom
    rw [ih (i + 1) n (by omega)]
    have e : (x ++ a).getD i [] = (x ++ b).getD i [] := by
      simp [List.getD_eq_getElem?_getD, List.getElem?_append_left (show i < x.length by omega)]
    rw [e, ord_part.refl]
    simp [orI]
theorem tails_eq {x a b : Bs} (ha : mayV (x ++ 46 :: a) = true) (hb : mayV (x ++ 46 :: b) = true) : cmpV (x ++ 46 :: a) (x ++ 46 :: b) = cmpV a b := by
  unfold cmpV
  rw [if_pos ha, if_pos hb, if_pos (may_tail ha), if_pos (may_tail hb), cut_app, cut_app]
  rw [parts_from _ _ ((cutAt 46 x).length + max (cutAt 46 a).length (cutAt 46 b).length) (by simp only [List.length_append]; omega)]
  rw [from_same _ _ _ _ 0 _ (by simp)]
  have := from_shift (cutAt 46 x) (cutAt 46 a) (cutAt 46 b) (max (cutAt 46 a).length (cutAt 46 b).length) 0
  rw [Nat.add_zero] at this
  rw [this]; rfl
theorem behind {a b : Bs} (ha : mayV a = true) (hb : mayV (a ++ 46 :: b) = true) :
    cmpV (a ++ 46 :: b) a = cmpPart ((cutAt 46 b).headD []) [] := by
  unfold cmpV
  rw [if_pos ha, if_pos hb, cut_app]
  obtain ⟨p, ps, e⟩ := cutAt_ne 46 b
  have hp : partP p = true := may_all (may_tail hb) p (by simp [e])
  rw [parts_from _ _ ((cutAt 46 a).length + (ps.length + 1)) (by rw [e]; simp)]
  have h := from_same (cutAt 46 a) (cutAt 46 b) [] (cutAt 46 a).length 0 (ps.length + 1) (by simp)
  rw [List.append_nil] at h
  rw [h, e]
  conv => lhs; unfold cmpFrom
  have e1 : (cutAt 46 a ++ p :: ps).getD (cutAt 46 a).length [] = p := by simp [List.getD_eq_getElem?_getD]
  have e2 : (cutAt 46 a).getD (cutAt 46 a).length [] = [] := by simp
  rw [e1, e2]
  have hne : cmpPart p [] ≠ 0 := fun h => part_ne hp (part_eq h)
  simp [orI, hne]

end Go.Proofs.Ytccmgaibikiedaa.Ver
