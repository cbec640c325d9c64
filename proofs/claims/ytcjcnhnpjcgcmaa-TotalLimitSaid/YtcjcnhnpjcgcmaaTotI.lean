/- Counting: how many help atoms a count needs, what its row is, and what taking help atoms changes. -/
import Derived.Test.YtcjcnhnpjcgcmaaTotH
namespace Go.Proofs.Ytcjcnhnpjcgcmaa.Tot
set_option linter.unusedVariables false
set_option linter.unusedSimpArgs false
open Go.RowKit Go.Maps
open Go.Proofs.Ytcjcnhnpjcgcmaa.Order (IRow ERow add_at GI)
open Go.Proofs.Ytcjcnhnpjcgcmaa.Cnf (Bd Rg RgL formOf rowV own_irow hasNone)
open Go.Proofs.Ytcjcnhnpjcgcmaa.Tbl (Fr TS blkOf blkOf_eq hs HelpEnd)

/-- how many help atoms a count of so many places takes. -/
def need (c n : Nat) : Nat := if n ≤ 1 then 0 else need c (n / 2) + need c (n - n / 2) + min n c
termination_by n
decreasing_by all_goals omega
theorem need_one (c : Nat) {n : Nat} (h : n ≤ 1) : need c n = 0 := by rw [need, if_pos h]
theorem need_two (c : Nat) {n : Nat} (h : 2 ≤ n) : need c n = need c (n / 2) + need c (n - n / 2) + min n c := by rw [need, if_neg (by omega)]
theorem need_le (c : Nat) : ∀ n, need c n ≤ n * n := by
  intro n
  induction n using Nat.strongRecOn with
  | _ n ih =>
    rcases Nat.lt_or_ge n 2 with h | h
    · rw [need_one c (by omega)]; exact Nat.zero_le _
    · rw [need_two c h]
      have h1 := ih (n / 2) (by omega)
      have h2 := ih (n - n / 2) (by omega)
      generalize hp : n / 2 = p at h1 h2 ⊢
      have m1 : min n c ≤ n := Nat.min_le_left _ _
      generalize min n c = m at m1 ⊢
      generalize need c p = x at h1 ⊢
      generalize hq : n - p = q at h2 ⊢
      generalize need c q = y at h2 ⊢
      have e : n = p + q := by omega
      have p1 : 1 ≤ p := by omega
      have q1 : 1 ≤ q := by omega
      have k1 : 1 * q ≤ p * q := Nat.mul_le_mul_right q p1
      have k2 : p * 1 ≤ p * q := Nat.mul_le_mul_left p q1
      have e2 : n * n = p * p + q * q + 2 * (p * q) := by rw [e, Nat.add_mul, Nat.mul_add, Nat.mul_add, Nat.mul_comm q p]; omega
      omega
/-- help atoms in a row. -/
def hrow (s m : Nat) : List Int := (List.range m).map fun j => ((s + j + 1 : Nat) : Int)
theorem hrow_len (s m : Nat) : (hrow s m).length = m := by simp [hrow]
theorem hrow_ok (s m : Nat) (h : s + m ≤ 1000000) : ∀ x ∈ hrow s m, -9223372036854775807 ≤ x ∧ x ≤ 9223372036854775807 := by
  intro x hx
  unfold hrow at hx
  rw [List.mem_map] at hx
  obtain ⟨j, hj, rfl⟩ := hx
  have := List.mem_range.1 hj
  omega
/-- the row of a count, out of a table of k atoms. -/
def res (c k : Nat) (l : List Int) : List Int := if l.length ≤ 1 then l else hrow (k + need c (l.length / 2) + need c (l.length - l.length / 2)) (min l.length c)
theorem res_len_le (c k : Nat) (l : List Int) : (res c k l).length ≤ l.length := by
  unfold res
  split
  · exact Nat.le_refl _
  · rw [hrow_len]; exact Nat.min_le_left _ _
theorem res_ok (c k : Nat) (l : List Int) (h : ∀ x ∈ l, Okx x) (hk : k + need c l.length ≤ 1000) : ∀ x ∈ res c k l, Okx x := by
  unfold res
  split
  · exact h
  · rename_i h2
    rw [need_two c (by omega)] at hk
    exact hrow_ok _ _ (by omega)
/-- the first so many are taken. -/
def hpart (s m i : Nat) : List Int := hrow s i ++ List.replicate (m - i) 0
theorem hpart_len (s m i : Nat) (h : i ≤ m) : (hpart s m i).length = m := by simp [hpart, hrow_len]; omega
theorem hpart_all (s m : Nat) : hpart s m m = hrow s m := by simp [hpart]
theorem hpart_zero (s m : Nat) : hpart s m 0 = List.replicate m 0 := by simp [hpart, hrow]
theorem hpart_set (s m i : Nat) (h : i < m) : (hpart s m i).set i ((s + i + 1 : Nat) : Int) = hpart s m (i + 1) := by
  unfold hpart
  rw [List.set_append_right _ _ (by rw [hrow_len]; exact Nat.le_refl _), hrow_len, Nat.sub_self]
  obtain ⟨d, hd⟩ : ∃ d, m - i = d + 1 := ⟨m - i - 1, by omega⟩
  rw [hd, List.replicate_succ, List.set_cons_zero, show m - (i + 1) = d by omega]
  unfold hrow
  rw [List.range_succ, List.map_append]
  simp
theorem hpart_at (s m i : Nat) (h : i < m) : (hpart s m (i + 1)).getD i 0 = ((s + i + 1 : Nat) : Int) := by
  rw [← hpart_set s m i h, List.getD_eq_getElem?_getD, List.getElem?_set_self (by rw [hpart_len s m i (by omega)]; exact h)]
  rfl

variable {Z tb g cb lim k k' n : Nat} {cap : Int} {f f' : Bool} {w w' w0 w1 w2 wr : World}
theorem Ir.take {A : Option Addr} {l : List Int} (h : Ir Z tb g w A l) (p : Nat) : Ir Z tb g w A (l.take p) := by
  rcases h with h | ⟨b, o, h1, h2, h3, h4⟩
  · exact .inl (by rw [h]; simp)
  · refine .inr ⟨b, o, h1, h2, h3, fun j hj => ?_⟩
    rw [List.length_take] at hj
    have e : (l.take p).getD j 0 = l.getD j 0 := by
      rw [List.getD_eq_getElem?_getD, List.getD_eq_getElem?_getD, List.getElem?_take, if_pos (by omega)]
    rw [e]
    exact h4 j (by omega)
theorem Ir.drop {b o : Nat} {l : List Int} (h : Ir Z tb g w (some ⟨b, o, none⟩) l) (p : Nat) : Ir Z tb g w (some ⟨b, o + p, none⟩) (l.drop p) := by
  rcases h with h | ⟨b', o', h1, h2, h3, h4⟩
  · exact .inl (by rw [h]; simp)
  · injection h1 with h1
    injection h1 with e1 e2
    subst e1 e2
    refine .inr ⟨b, o + p, rfl, h2, h3, fun j hj => ?_⟩
    rw [List.length_drop] at hj
    have e : (l.drop p).getD j 0 = l.getD (p + j) 0 := by
      rw [List.getD_eq_getElem?_getD, List.getD_eq_getElem?_getD, List.getElem?_drop]
    rw [e, Nat.add_assoc]
    exact h4 (p + j) (by omega)

/-! ### help atoms into a row of one's own -/
abbrev St (Z tb : Nat) (w0 : World) (i : Nat) : Prop := i = tb ∨ i = tb + 1 ∨ (IsT w0 i 70 ∧ Z ≤ i)
theorem ft_stp (h : CS Z tb g cb lim cap k f n w0) (hf : Fr (St Z tb w0) w0 w) : Stp Z tb g w0 w :=
  ⟨hf.below h.zw (fun i hi => by
    have := h.zt
    rcases hi with rfl | rfl | hi
    · exact this
    · omega
    · exact hi.2), fun i hi a b _ hr => hf.block i hi (fun hs => by
    rcases hs with hs | hs | hs
    · exact a hs
    · exact b hs
    · exact hr (.inl hs.1))⟩
theorem ft_cs (h : CS Z tb g cb lim cap k f n w0) (hf : Fr (St Z tb w0) w0 w) (hk : k' ≤ lim) (ht : ∃ (hp : Nat) (A : Option Addr) (cp : Nat), hp ≤ k' ∧ TS Z tb lim (hp : Nat) f' A cp (hs k') w) : CS Z tb g cb lim cap k' f' n w := by
  obtain ⟨_, _, _, _, h1⟩ := h.tab
  obtain ⟨Ab, c, hb⟩ := h.bld
  have tT := TSisT h1
  have nS : ∀ i T, St Z tb w0 i → IsT w0 i T → T = 58 ∨ T = 70 := fun i T hi hT => by
    rcases hi with rfl | rfl | hi
    · exact (tT.2.1 _ hT).elim
    · exact .inl (hT.ne tT.1)
    · exact .inr (hT.ne hi.1)
  refine ⟨h.zt, hk, ht, ⟨Ab, c, hb.fr hf (fun i hi => ⟨fun e => ?_, fun e => ?_, fun e => ?_⟩)⟩, (hf.block cb (lt_of_block h.ctr) (fun hi => ?_)).trans h.ctr⟩
  · have := nS _ _ hi e
    revert this; decide
  · have := nS _ _ hi e
    revert this; decide
  · have := nS _ _ hi e
    revert this; decide
  · have := nS _ _ hi ⟨_, _, h.ctr⟩
    revert this; decide
theorem ft_help {A : Option Addr} {cp hp : Nat} (hf : Fr (St Z tb w0) w0 w) (ht : TS Z tb lim (hp : Nat) f A cp (hs k) w) (hh : Fr (fun i => i = tb ∨ i = tb + 1 ∨ blkOf A k cp = some i) w w') : Fr (St Z tb w0) w0 w' :=
  hf.trans hh (fun _ h => h) (fun i hi hs => by
    rcases hs with hs | hs | hs
    · exact .inl hs
    · exact .inr (.inl hs)
    · rw [blkOf_eq A _ cp 0 0] at hs
      have hT := (TSisT ht).2.2.2 i hs
      by_cases hst : St Z tb w0 i
      · exact hst
      · exact .inr (.inr ⟨(isT_same (hf.block i hi hst)).1 hT.1, hT.2.1⟩))
theorem fr_set (w : World) (q i : Nat) (v : Value) : Fr (fun j => j = q) w (w.setCell ⟨q, i, none⟩ v) := by
  have g := grown_set w ⟨q, i, none⟩ v
  exact ⟨g.os, g.tape, g.output, g.size, fun j hj hne => g.block j hj (fun e => hne (by injection e))⟩
theorem ft_set {q i : Nat} {v : Value} (hf : Fr (St Z tb w0) w0 w) (hq : w0.heap.size ≤ q) : Fr (St Z tb w0) w0 (w.setCell ⟨q, i, none⟩ v) :=
  hf.trans (fr_set w q i v) (fun _ h => h) (fun j hj e => by subst e; omega)
theorem ts_set {A : Option Addr} {cp hp q i : Nat} {v : Value} {l : List Int} (ht : TS Z tb lim (hp : Nat) f A cp (hs k) w) (hq : GI w q l) : TS Z tb lim (hp : Nat) f A cp (hs k) (w.setCell ⟨q, i, none⟩ v) := by
  have tT := TSisT ht
  have hT := GI.isT hq
  refine ht.keep (fr_set w q i v) (fun e => ?_) (fun e => ?_) (fun j hj e => ?_)
  · exact tT.2.1 _ (e ▸ hT)
  · have := (e ▸ tT.1 : IsT w q _).ne hT
    revert this; decide
  · rw [blkOf_eq A _ cp 0 0] at hj
    have := (e ▸ (tT.2.2.2 j hj).1 : IsT w q _).ne hT
    revert this; decide
theorem gi_help {A : Option Addr} {cp hp q : Nat} {l : List Int} (ht : TS Z tb lim (hp : Nat) f A cp (hs k) w) (hq : GI w q l) (hh : Fr (fun i => i = tb ∨ i = tb + 1 ∨ blkOf A k cp = some i) w w') : GI w' q l := by
  have tT := TSisT ht
  have hT := GI.isT hq
  refine (hh.block q (lt_of_block hq) (fun e => ?_)).trans hq
  rcases e with e | e | e
  · exact tT.2.1 _ (e ▸ hT)
  · have := (e ▸ hT : IsT w (tb + 1) _).ne tT.1
    revert this; decide
  · rw [blkOf_eq A _ cp 0 0] at e
    have := hT.ne (tT.2.2.2 q e).1
    revert this; decide

/-- the count of one. -/
theorem count_one' (c : Value) (b o d : Nat) (x : Int) (hx : w.cell? ⟨b, o, none⟩ = some (.int .i64 x)) :
    Calls Try.prog 41 #[c, .slice (some ⟨b, o, none⟩) 1 d] w fun e w' => e = .returned (.tuple #[.slice (some ⟨w.heap.size, 0, none⟩) 1 1, .bool true]) ∧ w' = w.alloc (.cells #[.int .i64 x] 3) := by
  go_enter Try.func41, Try.ntmps41
  go_wp2_with fail
  go_ret2
  exact ⟨rfl, rfl⟩

/-- what a count leaves. -/
def CntEnd (Z tb g cb lim : Nat) (cap : Int) (c k : Nat) (f : Bool) (n : Nat) (l : List Int) (w : World) (e : Ending) (w' : World) : Prop :=
  ∃ n', n' + 1000 ≤ n + 1000 * l.length ∧ Stp Z tb g w w' ∧
    ((k + need c l.length ≤ lim ∧ ∃ q r d, r = (res c k l).length ∧ e = .returned (.tuple #[.slice (some ⟨q, 0, none⟩) r d, .bool true]) ∧ GI w' q (res c k l) ∧ CS Z tb g cb lim cap (k + need c l.length) f n' w') ∨
     (lim < k + need c l.length ∧ e = .returned (.tuple #[.slice none 0 0, .bool false]) ∧ CS Z tb g cb lim cap lim true n' w'))

end Go.Proofs.Ytcjcnhnpjcgcmaa.Tot
