/- Counting: the state of a count's memory, and what a call may change. -/
import Derived.Test.YtcjcnhnpjcgcmaaTotF
import Derived.Test.YtcjcnhnpjcgcmaaTotD
namespace Go.Proofs.Ytcjcnhnpjcgcmaa.Tot
set_option linter.unusedVariables false
set_option linter.unusedSimpArgs false
open Go.RowKit Go.Maps
open Go.Proofs.Ytcjcnhnpjcgcmaa.Order (IRow ERow add_at GI)
open Go.Proofs.Ytcjcnhnpjcgcmaa.Cnf (Bd Rg RgL formOf rowV own_irow hasNone)
open Go.Proofs.Ytcjcnhnpjcgcmaa.Tbl (Fr TS blkOf blkOf_eq hs HelpEnd)

/-- block i has cells of the type T. -/
def IsT (w : World) (i : Nat) (T : TypeId) : Prop := ∃ cs fl, w.heap[i]? = some (.cells cs T fl)
theorem IsT.ne {w : World} {i : Nat} {T T' : TypeId} (h : IsT w i T) (h' : IsT w i T') : T = T' := by
  obtain ⟨_, _, h⟩ := h
  obtain ⟨_, _, h'⟩ := h'
  rw [h] at h'
  injection h' with h'
  injection h'
theorem own_isT {e : TypeId} {base n m c k : Nat} {A : Option Addr} {xs : List Value} {w : World} (h : w.ownsRow base e k (.slice A m c) n xs) {i : Nat} (hi : bo A = some i) : IsT w i e ∧ base ≤ i ∧ i < w.heap.size := by
  rcases h.2 with ⟨hv, _⟩ | ⟨g, cap, cur, hv, hb, hh, _⟩
  · injection hv with hA _ _; subst hA; cases hi
  · injection hv with hA _ _
    subst hA
    injection hi with hi
    subst hi
    exact ⟨⟨_, _, hh⟩, hb, lt_of_block hh⟩
/-- a row that may grow. -/
def Rish (w : World) (i : Nat) : Prop := IsT w i 70 ∨ IsT w i 22
theorem isT_same {w w' : World} {i : Nat} {T : TypeId} (h : w'.heap[i]? = w.heap[i]?) : IsT w' i T ↔ IsT w i T := by unfold IsT; rw [h]
theorem rish_same {w w' : World} {i : Nat} (h : w'.heap[i]? = w.heap[i]?) : Rish w' i ↔ Rish w i := by unfold Rish; rw [isT_same h, isT_same h]

/-- what a step may change. -/
structure Stp (Z tb g : Nat) (w w' : World) : Prop where
  bel : Below Z w w'
  keep : ∀ i, i < w.heap.size → i ≠ tb → i ≠ tb + 1 → i ≠ g → ¬ Rish w i → w'.heap[i]? = w.heap[i]?
variable {Z tb g cb lim k n : Nat} {cap : Int} {f : Bool} {w w' w1 w2 : World}
theorem Stp.refl : Stp Z tb g w w := ⟨Below.refl _ _, fun _ _ _ _ _ _ => rfl⟩
theorem Stp.trans (h : Stp Z tb g w w1) (h' : Stp Z tb g w1 w2) : Stp Z tb g w w2 :=
  ⟨h.bel.trans h'.bel, fun i hi a b c hr => by
    have e := h.keep i hi a b c hr
    exact (h'.keep i (Nat.lt_of_lt_of_le hi h.bel.size) a b c (fun x => hr ((rish_same e).1 x))).trans e⟩
theorem Stp.of_below (h : Below w.heap.size w w') (hz : Z ≤ w.heap.size) : Stp Z tb g w w' := ⟨h.mono hz, fun i hi _ _ _ _ => h.block i hi⟩

/-- a table, a builder, a counter. -/
structure CS (Z tb g cb lim : Nat) (cap : Int) (k : Nat) (f : Bool) (n : Nat) (w : World) : Prop where
  zt : Z ≤ tb
  kl : k ≤ lim
  tab : ∃ (hp : Nat) (A : Option Addr) (cp : Nat), hp ≤ k ∧ TS Z tb lim (hp : Nat) f A cp (hs k) w
  bld : ∃ (A : Option Addr) (c : Nat), BS Z g n A c w
  ctr : w.heap[cb]? = some (.cells #[.pointer (some ⟨tb + 1, 0, none⟩), .pointer (some ⟨g, 0, none⟩), .int .i64 cap] 62 (0, 0))
theorem BS.isT {A : Option Addr} {c B : Nat} (h : BS B g n A c w) : IsT w g 64 ∧ B ≤ g ∧ ∀ i, bo A = some i → IsT w i 22 ∧ B ≤ i ∧ i < w.heap.size := by
  obtain ⟨cs, VS, h⟩ := h
  exact ⟨⟨_, _, h.blk⟩, h.gB, fun i hi => own_isT h.own hi⟩
theorem TSisT {B hp cp : Nat} {A : Option Addr} (h : TS B tb lim (hp : Nat) f A cp (hs k) w) : IsT w (tb + 1) 58 ∧ (∀ T, ¬ IsT w tb T) ∧ tb < w.heap.size ∧ ∀ i, bo A = some i → IsT w i 70 ∧ B ≤ i ∧ i < w.heap.size := by
  refine ⟨⟨_, _, h.tab⟩, fun T => ?_, by have := lt_of_block h.tab; omega, fun i hi => own_isT h.own hi⟩
  obtain ⟨D, ⟨es, clock, hb, _⟩, _⟩ := h.om
  rintro ⟨_, _, e⟩
  rw [hb] at e
  cases e
theorem CS.zw (h : CS Z tb g cb lim cap k f n w) : Z ≤ w.heap.size := by
  obtain ⟨_, _, _, _, h1⟩ := h.tab
  have := (TSisT h1).2.2.1
  have := h.zt
  omega
theorem BS.fr {A : Option Addr} {c B : Nat} {S : Nat → Prop} (h : BS B g n A c w) (hf : Fr S w w') (hS : ∀ i, S i → ¬ IsT w i 64 ∧ ¬ IsT w i 22 ∧ ¬ IsT w i 3) : BS B g n A c w' := by
  have hh := h.isT
  obtain ⟨cs, VS, h⟩ := h
  have own_fr : ∀ {e : TypeId} {m : Nat} {V : Value} {xs : List Value}, w.ownsRow B e 1 V m xs → (∀ i, S i → ¬ IsT w i e) → w'.ownsRow B e 1 V m xs := by
    intro e m V xs ho hn
    refine ⟨ho.1, ?_⟩
    rcases ho.2 with hv | ⟨q, cp, cur, hv, hb, hh, hr⟩
    · exact .inl hv
    · exact .inr ⟨q, cp, cur, hv, hb, (hf.block q (lt_of_block hh) (fun hs => hn q hs ⟨_, _, hh⟩)).trans hh, hr⟩
  refine ⟨cs, VS, ⟨(hf.block g (lt_of_block h.blk) (fun hs => (hS g hs).1 hh.1)).trans h.blk, h.gB, own_fr h.own (fun i hi => (hS i hi).2.1), h.len, h.gown, h.small, fun i hi => ?_⟩⟩
  obtain ⟨V, h1, h2, h3⟩ := h.each i hi
  exact ⟨V, h1, own_fr h2 (fun i hi => (hS i hi).2.2), h3⟩
theorem CS.below (h : CS Z tb g cb lim cap k f n w) (hb : Below w.heap.size w w') : CS Z tb g cb lim cap k f n w' := by
  obtain ⟨hp, A, cp, h1, h2⟩ := h.tab
  obtain ⟨A', c', h3⟩ := h.bld
  exact ⟨h.zt, h.kl, ⟨hp, A, cp, h1, h2.below hb⟩, ⟨A', c', h3.below hb⟩, (hb.block cb (lt_of_block h.ctr)).trans h.ctr⟩
theorem CS.stb (h : CS Z tb g cb lim cap k f n w) (hb : Below w.heap.size w w') : CS Z tb g cb lim cap k f n w' ∧ Stp Z tb g w w' := ⟨h.below hb, Stp.of_below hb h.zw⟩

/-- a clause more. -/
theorem CS.add {A : Option Addr} {c : Nat} {e : Ending} (h : CS Z tb g cb lim cap k f n w) (hb : BS Z g n A c w) (ha : AddEnd Z g n A w e w') : e = .returned (.tuple #[]) ∧ ∃ n', n ≤ n' ∧ n' ≤ n + 1 ∧ CS Z tb g cb lim cap k f n' w' ∧ Stp Z tb g w w' := by
  obtain ⟨he, n', A', c', h1, h2, h3, h4, h5⟩ := ha
  obtain ⟨hp, At, cp, t1, t2⟩ := h.tab
  have tT := TSisT t2
  have bT := hb.isT
  have nS : ∀ i T, (i = g ∨ bo A = some i) → IsT w i T → T = 64 ∨ T = 22 := fun i T hi hT => by
    rcases hi with rfl | hi
    · exact .inl (hT.ne bT.1)
    · exact .inr (hT.ne (bT.2.2 i hi).1)
  refine ⟨he, n', h1, h2, ⟨h.zt, h.kl, ⟨hp, At, cp, t1, t2.keep h4 (fun hi => ?_) (fun hi => ?_) (fun i hi hs => ?_)⟩, ⟨A', c', h3⟩, (h4.block cb (lt_of_block h.ctr) (fun hi => ?_)).trans h.ctr⟩, ⟨h4.below h.zw (fun i hi => ?_), fun i hi _ _ hg hr => h4.block i hi (fun hs => ?_)⟩⟩
  · rcases hi with rfl | hi
    · exact tT.2.1 _ bT.1
    · exact tT.2.1 _ (bT.2.2 _ hi).1
  · have := nS _ _ hi tT.1
    revert this; decide
  · rw [blkOf_eq At _ cp 0 0] at hi
    have := nS _ _ hs (tT.2.2.2 i hi).1
    revert this; decide
  · have := nS _ _ hi ⟨_, _, h.ctr⟩
    revert this; decide
  · rcases hi with rfl | hi
    · exact bT.2.1
    · exact (bT.2.2 i hi).2.1
  · rcases hs with rfl | hs
    · exact hg rfl
    · exact hr (.inr (bT.2.2 i hs).1)
/-- a help atom more, or the table full. -/
theorem CS.help {A : Option Addr} {cp hp : Nat} {e : Ending} (h : CS Z tb g cb lim cap k f n w) (ht : TS Z tb lim (hp : Nat) f A cp (hs k) w) (ha : HelpEnd Z tb lim cp k f A w e w') :
    e = .returned (.int .i64 ((if k < lim then k + 1 else 0 : Nat))) ∧ CS Z tb g cb lim cap (if k < lim then k + 1 else k) (if k < lim then f else true) n w' ∧ Stp Z tb g w w' := by
  obtain ⟨he, f', A', cp', h1, h2, h3, h4⟩ := ha
  obtain ⟨Ab, c, hb⟩ := h.bld
  have tT := TSisT ht
  have bT := hb.isT
  have nS : ∀ i T, (i = tb ∨ i = tb + 1 ∨ blkOf A k cp = some i) → IsT w i T → T = 58 ∨ T = 70 := fun i T hi hT => by
    rcases hi with rfl | rfl | hi
    · exact (tT.2.1 _ hT).elim
    · exact .inl (hT.ne tT.1)
    · exact .inr (hT.ne (tT.2.2.2 i (by rw [blkOf_eq A _ cp 0 0] at hi; exact hi)).1)
  refine ⟨he, ⟨h.zt, by have := h.kl; split <;> omega, ⟨k, A', cp', by split <;> omega, by rw [← h4]; exact h1⟩, ⟨Ab, c, hb.fr h2 (fun i hi => ⟨fun e => ?_, fun e => ?_, fun e => ?_⟩)⟩, (h2.block cb (lt_of_block h.ctr) (fun hi => ?_)).trans h.ctr⟩, ⟨h2.below h.zw (fun i hi => ?_), fun i hi a b _ hr => h2.block i hi (fun hs => ?_)⟩⟩
  · have := nS _ _ hi e
    revert this; decide
  · have := nS _ _ hi e
    revert this; decide
  · have := nS _ _ hi e
    revert this; decide
  · have := nS _ _ hi ⟨_, _, h.ctr⟩
    revert this; decide
  · have := h.zt
    rcases hi with rfl | rfl | hi
    · exact this
    · omega
    · exact (tT.2.2.2 i (by rw [blkOf_eq A _ cp 0 0] at hi; exact hi)).2.1
  · rcases hs with rfl | rfl | hs
    · exact a rfl
    · exact b rfl
    · exact hr (.inl (tT.2.2.2 i (by rw [blkOf_eq A _ cp 0 0] at hs; exact hs)).1)

/-- a row of numbers that stays. -/
def Ir (Z tb g : Nat) (w : World) (A : Option Addr) (l : List Int) : Prop :=
  l = [] ∨ ∃ b o, A = some ⟨b, o, none⟩ ∧ b < w.heap.size ∧ (b < Z ∨ (b ≠ tb ∧ b ≠ tb + 1 ∧ b ≠ g ∧ ¬ Rish w b)) ∧ ∀ j, j < l.length → w.cell? ⟨b, o + j, none⟩ = some (.int .i64 (l.getD j 0))
theorem cell_of {a : Addr} (h : w'.heap[a.block]? = w.heap[a.block]?) : w'.cell? a = w.cell? a := by
  unfold World.cell?
  rw [h]
theorem Ir.stp {A : Option Addr} {l : List Int} (h : Ir Z tb g w A l) (hs : Stp Z tb g w w') : Ir Z tb g w' A l := by
  rcases h with h | ⟨b, o, h1, h2, h3, h4⟩
  · exact .inl h
  · have e : w'.heap[b]? = w.heap[b]? := by
      rcases h3 with h3 | ⟨a, b', c, d⟩
      · exact hs.bel.block b h3
      · exact hs.keep b h2 a b' c d
    refine .inr ⟨b, o, h1, Nat.lt_of_lt_of_le h2 hs.bel.size, ?_, fun j hj => (cell_of (a := ⟨b, o + j, none⟩) e).trans (h4 j hj)⟩
    rcases h3 with h3 | ⟨a, b', c, d⟩
    · exact .inl h3
    · exact .inr ⟨a, b', c, fun x => d ((rish_same e).1 x)⟩
theorem Ir.irow {A : Option Addr} {l : List Int} (h : Ir Z tb g w A l) : IRow w w.heap.size A l := by
  rcases h with h | ⟨b, o, h1, h2, _, h4⟩
  · exact .inl h
  · exact .inr ⟨b, o, h1, h2, h4⟩
theorem GI.isT {q : Nat} {l : List Int} (h : GI w q l) : IsT w q 3 := ⟨_, _, h⟩
theorem CS.far {q : Nat} {l : List Int} (h : CS Z tb g cb lim cap k f n w) (hq : GI w q l) : q ≠ tb ∧ q ≠ tb + 1 ∧ q ≠ g ∧ ¬ Rish w q := by
  obtain ⟨_, _, _, _, h1⟩ := h.tab
  obtain ⟨_, _, h2⟩ := h.bld
  have hT := GI.isT hq
  refine ⟨fun e => (TSisT h1).2.1 _ (e ▸ hT), fun e => ?_, fun e => ?_, fun e => ?_⟩
  · have := (e ▸ hT : IsT w (tb + 1) 3).ne (TSisT h1).1
    revert this; decide
  · have := (e ▸ hT : IsT w g 3).ne h2.isT.1
    revert this; decide
  · rcases e with e | e
    · have := hT.ne e
      revert this; decide
    · have := hT.ne e
      revert this; decide
theorem CS.gi {q : Nat} {l : List Int} (h : CS Z tb g cb lim cap k f n w) (hq : GI w q l) (hs : Stp Z tb g w w') : GI w' q l := by
  obtain ⟨a, b, c, d⟩ := h.far hq
  exact (hs.keep q (lt_of_block hq) a b c d).trans hq
theorem CS.ir {q : Nat} {l : List Int} (h : CS Z tb g cb lim cap k f n w) (hq : GI w q l) : Ir Z tb g w (some ⟨q, 0, none⟩) l :=
  .inr ⟨q, 0, rfl, lt_of_block hq, .inr (h.far hq), fun j hj => by simpa using hq.cell j hj⟩

end Go.Proofs.Ytcjcnhnpjcgcmaa.Tot
