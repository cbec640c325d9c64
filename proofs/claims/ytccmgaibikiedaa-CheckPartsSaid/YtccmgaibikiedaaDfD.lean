/- Rows that are copied: what an append copies, and what is read of the copy. -/
import Derived.Test.YtccmgaibikiedaaDfC
import Derived.Maps.AppendAt
import Derived.Deep.AppendLies
import Derived.Laws.OwnMore
namespace Go.Proofs.Ytccmgaibikiedaa.Dc
open Go.RowKit
set_option linter.unusedVariables false
set_option linter.unusedSimpArgs false
theorem flat_len {α : Type} {k : Nat} : ∀ (L : List (List α)), (∀ v ∈ L, v.length = k) → L.flatten.length = L.length * k
  | [], _ => by simp
  | v :: L, h => by
    rw [List.flatten_cons, List.length_append, flat_len L (fun u hu => h u (List.mem_cons_of_mem _ hu)), h v (List.mem_cons_self ..), List.length_cons, Nat.add_mul]
    omega
theorem flat_at {α : Type} {k i : Nat} (hi : i < k) : ∀ (L : List (List α)) (j : Nat), (∀ v ∈ L, v.length = k) → L.flatten[j * k + i]? = (L[j]?).bind (fun v => v[i]?)
  | [], j, _ => by simp
  | v :: L, 0, h => by
    rw [List.flatten_cons, Nat.zero_mul, Nat.zero_add, List.getElem?_append_left (by rw [h v (List.mem_cons_self ..)]; exact hi)]
    rfl
  | v :: L, j + 1, h => by
    have hv := h v (List.mem_cons_self ..)
    rw [List.flatten_cons, List.getElem?_append_right (by rw [hv, Nat.add_mul]; omega), hv, show (j + 1) * k + i - k = j * k + i by rw [Nat.add_mul]; omega,
      flat_at hi L j (fun u hu => h u (List.mem_cons_of_mem _ hu))]
    rfl
theorem split_at {k j : Nat} (hk : 0 < k) : j = j / k * k + j % k ∧ j % k < k := ⟨by have := Nat.div_add_mod j k; rw [Nat.mul_comm] at this; omega, Nat.mod_lt _ hk⟩
/-- the cells of a row, element by element. -/
structure News {α : Type} (k : Nat) (D : Dec α) (w : World) (B b o : Nat) (l : List α) (L : List (List Value)) : Prop where
  len : L.length = l.length
  each : ∀ v ∈ L, v.length = k
  dec : ∀ (j : Nat) (y : α), l[j]? = some y → ∃ vs, L[j]? = some vs ∧ D w B vs y
  cell : ∀ (j : Nat) (u : Value), L.flatten[j]? = some u → w.cell? ⟨b, o + j, none⟩ = some u
  one : ∀ u ∈ L.flatten, u.oneCell' = true
theorem row_news {α : Type} {k : Nat} {D : Dec α} {w : World} {B b o n c : Nat} {l : List α} (hk : 0 < k) (hone : ∀ vs y, D w B vs y → ∀ u ∈ vs, u.oneCell' = true) (h : Sl α k D w B (some ⟨b, o, none⟩) n c l) (hl : l ≠ []) : ∃ L, News k D w B b o l L := by
  rcases h.row with h' | ⟨b', o', e, hb, hc⟩
  · exact absurd h' hl
  injection e with e
  injection e with e1 e2
  subst e1 e2
  have hx : ∀ j, j < l.length → ∃ vs : List Value, vs.length = k ∧ (∀ i, i < k → w.cell? ⟨b, o + j * k + i, none⟩ = vs[i]?) ∧ ∀ y, l[j]? = some y → D w B vs y := fun j hj => by
    obtain ⟨vs, h1, h2, h3⟩ := hc j _ (List.getElem?_eq_getElem hj)
    exact ⟨vs, h1, h2, fun y hy => by rw [List.getElem?_eq_getElem hj] at hy; rw [← Option.some.inj hy]; exact h3⟩
  obtain ⟨f, hf⟩ := Go.Deep.choose_lt hx
  have hat : ∀ j, ((List.range l.length).map f)[j]? = if j < l.length then some (f j) else none := fun j => by
    rw [List.getElem?_map]
    by_cases hj : j < l.length
    · rw [List.getElem?_range hj, if_pos hj]; rfl
    · rw [if_neg hj, List.getElem?_eq_none (by simpa using hj)]; rfl
  have heach : ∀ v ∈ (List.range l.length).map f, v.length = k := fun v hv => by
    obtain ⟨j, hj, rfl⟩ := List.mem_map.1 hv
    exact (hf j (by simpa using hj)).1
  have hcell : ∀ (j : Nat) (u : Value), ((List.range l.length).map f).flatten[j]? = some u → ∃ q, q < l.length ∧ u ∈ f q ∧ w.cell? ⟨b, o + j, none⟩ = some u := fun j u hu => by
    obtain ⟨e, hm⟩ := split_at (j := j) hk
    rw [e, flat_at hm _ _ heach, hat] at hu
    by_cases hq : j / k < l.length
    · rw [if_pos hq] at hu
      simp only [Option.bind_some] at hu
      refine ⟨j / k, hq, List.mem_of_getElem? hu, ?_⟩
      have h3 := (hf _ hq).2.1 _ hm
      rw [hu, Nat.add_assoc, ← e] at h3
      exact h3
    · rw [if_neg hq] at hu; cases hu
  refine ⟨(List.range l.length).map f, by simp, heach, fun j y hj => ?_, fun j u hu => ?_, fun u hu => ?_⟩
  · have hjl := pos_of hj
    exact ⟨f j, by rw [hat, if_pos hjl], (hf j hjl).2.2 y hj⟩
  · obtain ⟨q, -, -, h3⟩ := hcell j u hu
    exact h3
  · obtain ⟨j, hj, rfl⟩ := List.getElem_of_mem hu
    obtain ⟨q, hq, h2, -⟩ := hcell j _ (List.getElem?_eq_getElem hj)
    exact hone _ _ ((hf q hq).2.2 _ (List.getElem?_eq_getElem hq)) _ h2
theorem pk_one {w : World} {B : Nat} (vs : List Value) (y : Pk) (h : pkD w B vs y) : ∀ u ∈ vs, u.oneCell' = true := by
  obtain ⟨Ar, nr, cr, Av, nv, cv, Ap, np, cp, Ad, nd, cd, Ac, nc, cc, Af, nf, cf, rfl, -⟩ := pk_cells h
  intro u hu
  simp only [List.mem_cons, List.not_mem_nil, or_false] at hu
  rcases hu with rfl | rfl | rfl | rfl | rfl | rfl | rfl | rfl <;> rfl
theorem rt_one {w : World} {B : Nat} (vs : List Value) (y : Rt) (h : rtD w B vs y) : ∀ u ∈ vs, u.oneCell' = true := by
  obtain ⟨A1, n1, c1, A2, n2, c2, rfl, -⟩ := rt_cells h
  intro u hu
  simp only [List.mem_cons, List.not_mem_nil, or_false] at hu
  rcases hu with rfl | rfl | rfl | rfl <;> rfl
/-- an append of any row onto one that the call owns, at a step of a region that draws its order. -/
theorem step_append_at {P : Program} (w : World) {ops : Array Oper} {o : Oper} {a : Act} {K : Act → World → Prop} {Q : Exit → Act → World → Prop} {E : Prop} (hgd : o.guard = none) (s x : Operand) (t : TypeId)
    (ho : o.op = .call { callee := .builtin .append, args := #[s, x], argTypes := #[t, t] })
    (base : Nat) (e : TypeId) (i : TypeInfo) (z : Value) (size bytes : Nat) (ht : P.underlying t = some (.slice e)) (hi : P.info? e = some i) (hz : i.zero = some z)
    (hsize : i.size = size) (hby : i.bytes = bytes) (hzs : z.cells.size = size) (hsz : 0 < size)
    (v : Value) (n : Nat) (xs : List Value) (hs : a.eval s = v) (hown : w.ownsRow base e size v n xs)
    (ad : Addr) (m c : Nat) (news : List Value) (hx : a.eval x = .slice (some ad) m c) (hl : news.length = m * size) (hnews : ∀ j u, news[j]? = some u → w.cell? (ad.add j) = some u) (h1 : ∀ u ∈ news, u.oneCell' = true)
    (h63 : n + m ≤ maxLen) (hbytes : (n + m) * bytes ≤ 140737488355328) (hbase : base ≤ w.heap.size)
    (h : ∀ v' w', w'.ownsRow base e size v' (n + m) (xs ++ news) → w.grownBy w' v.ownBlock → (v' = .slice none 0 0 ↔ v = .slice none 0 0 ∧ m = 0) → K (a.put o.dst v') w') :
    if Region.wanted o (yielded ops a.tmps) = true then Oper.wp P o a w K Q else E := by
  have hw : Region.wanted o (yielded ops a.tmps) = true := by simp [Region.wanted, hgd]
  rw [if_pos hw]
  obtain ⟨v', w', hr, h2, h3, h4, h5⟩ := run_append_own_at (P := P) w base t o.type e i z size bytes ht hi hz hsize hby hzs hsz v n xs hown ad m c news hl hnews h1 h63 hbytes hbase
  unfold Oper.wp execOp
  simp only [ho, resolve, invoke, builtin, Sem.run_bind, Sem.run_pure, Result.andThen_ok, List.map_toArray, List.map_cons, List.map_nil, hs, hx, hr]
  exact h v' w' h2 h3 h4
/-! ### packages, one of them stripped -/
def nilV : Value := .slice none 0 0
theorem strip_dec {w : World} {B : Nat} {vs : List Value} {p : Pk} (h : pkD w B vs p) : pkD w B ((vs.set 6 nilV).set 7 nilV) (strip p) := by
  obtain ⟨Ar, nr, cr, Av, nv, cv, Ap, np, cp, Ad, nd, cd, Ac, nc, cc, Af, nf, cf, rfl, -⟩ := pk_cells h
  obtain ⟨h0, h1, h2, h3, h4, h5, h6, h7, h8⟩ := h
  exact ⟨rfl, h1, h2, h3, h4, h5, h6, nil_slice, nil_slice⟩
theorem own_strip {w W0 : World} {base g n cap k B b o : Nat} {e : TypeId} {l : List Pk} {L : List (List Value)} (hL : News 8 pkD W0 B b o l L) (hb : Below B W0 w) (hB : B ≤ w.heap.size) (hn : n = l.length) (hk : k < n)
    (h : w.ownsRow base e 8 (.slice (some ⟨g, 0, none⟩) n cap) n ((L.flatten.set (k * 8 + 6) nilV).set (k * 8 + 7) nilV)) : Sl Pk 8 pkD w w.heap.size (some ⟨g, 0, none⟩) n cap (l.modify k strip) := by
  refine own_sl h (by rw [List.length_modify]; exact hn) fun j y hj => ?_
  rw [List.getElem?_modify] at hj
  have hlen : L.flatten.length = n * 8 := by rw [flat_len L hL.each, hL.len, hn]
  cases e0 : l[j]? with
  | none => rw [e0] at hj; cases hj
  | some p =>
    obtain ⟨vs, e1, e2⟩ := hL.dec j p e0
    have e3 := pk_stays _ _ _ _ _ _ e2 hB hb
    have hvs : vs.length = 8 := hL.each vs (List.mem_of_getElem? e1)
    have hjn : j < n := by rw [hn]; exact pos_of e0
    rw [e0] at hj
    have hfl : ∀ i, i < 8 → L.flatten[j * 8 + i]? = vs[i]? := fun i hi => by rw [flat_at hi L j hL.each, e1]; rfl
    by_cases hkj : k = j
    · subst hkj
      simp only [if_true, Option.map_eq_map, Option.map_some, Option.some.injEq] at hj
      subst hj
      refine ⟨(vs.set 6 nilV).set 7 nilV, by simp [hvs], fun i hi => ?_, strip_dec e3⟩
      rcases Nat.lt_trichotomy i 7 with h7 | h7 | h7
      · rw [List.getElem?_set_ne (by omega), List.getElem?_set_ne (show 7 ≠ i by omega)]
        rcases Nat.lt_or_ge i 6 with h6 | h6
        · rw [List.getElem?_set_ne (by omega), List.getElem?_set_ne (by omega)]
          exact hfl i hi
        · obtain rfl : i = 6 := by omega
          rw [List.getElem?_set_self (by omega), List.getElem?_set_self (by omega)]
      · subst h7
        rw [List.getElem?_set_self (by rw [List.length_set]; omega), List.getElem?_set_self (by rw [List.length_set]; omega)]
      · omega
    · simp only [if_neg hkj, Option.map_eq_map, Option.map_some, id, Option.some.injEq] at hj
      subst hj
      refine ⟨vs, hvs, fun i hi => ?_, e3⟩
      rw [List.getElem?_set_ne (by omega), List.getElem?_set_ne (by omega)]
      exact hfl i hi
theorem strips_of {x : List Pk} {k : Nat} (i : Nat) (p' : Pk) (h : (x.modify k strip)[i]? = some p') : ∃ p, x[i]? = some p ∧ (p' = p ∨ p' = strip p) := by
  rw [List.getElem?_modify] at h
  cases e : x[i]? with
  | none => rw [e] at h; cases h
  | some p =>
    rw [e] at h
    refine ⟨p, rfl, ?_⟩
    by_cases hk : k = i
    · simp only [if_pos hk, Option.map_eq_map, Option.map_some, Option.some.injEq] at h
      exact .inr h.symm
    · simp only [if_neg hk, Option.map_eq_map, Option.map_some, id, Option.some.injEq] at h
      exact .inl h.symm
/-! ### roots, one of them left out -/
theorem own_less {w W0 : World} {base n m cap B b o : Nat} {A : Option Addr} {e : TypeId} {l : List Rt} {L : List (List Value)} (hL : News 4 rtD W0 B b o l L) (hb : Below B W0 w) (hB : B ≤ w.heap.size) (hn : n < l.length) (hm : m = l.length - 1)
    (h : w.ownsRow base e 4 (.slice A m cap) m ((L.take n).flatten ++ (L.drop (n + 1)).flatten)) : Sl Rt 4 rtD w w.heap.size A m cap (l.take n ++ l.drop (n + 1)) := by
  rw [← List.flatten_append] at h
  have heach : ∀ v ∈ L.take n ++ L.drop (n + 1), v.length = 4 := fun v hv => by
    rw [List.mem_append] at hv
    rcases hv with hv | hv
    · exact hL.each v (List.mem_of_mem_take hv)
    · exact hL.each v (List.mem_of_mem_drop hv)
  have hll := hL.len
  refine own_sl h (by rw [List.length_append, List.length_take, List.length_drop]; omega) fun j y hj => ?_
  have hd : ∃ vs, (L.take n ++ L.drop (n + 1))[j]? = some vs ∧ rtD W0 B vs y := by
    rcases Nat.lt_or_ge j n with hjn | hjn
    · rw [List.getElem?_append_left (by rw [List.length_take]; omega), List.getElem?_take, if_pos hjn] at hj ⊢
      exact hL.dec j y hj
    · rw [List.getElem?_append_right (by rw [List.length_take]; omega), List.length_take, List.getElem?_drop] at hj ⊢
      rw [Nat.min_eq_left (by omega)] at hj ⊢
      exact hL.dec _ y hj
  obtain ⟨vs, e1, e2⟩ := hd
  exact ⟨vs, heach vs (List.mem_of_getElem? e1), fun i hi => by rw [flat_at hi _ j heach, e1]; rfl, rt_stays _ _ _ _ _ _ e2 hB hb⟩
theorem news_take {α : Type} {k n b o : Nat} {D : Dec α} {w : World} {B : Nat} {l : List α} {L : List (List Value)} (hL : News k D w B b o l L) (hn : n ≤ l.length) :
    (L.take n).flatten.length = n * k ∧ (∀ (j : Nat) (u : Value), (L.take n).flatten[j]? = some u → w.cell? ((⟨b, o, none⟩ : Addr).add j) = some u) ∧ ∀ u ∈ (L.take n).flatten, u.oneCell' = true := by
  have hl : (L.take n).flatten.length = n * k := by
    rw [flat_len (k := k) _ (fun v hv => hL.each v (List.mem_of_mem_take hv)), List.length_take, hL.len, Nat.min_eq_left hn]
  have hsp : L.flatten = (L.take n).flatten ++ (L.drop n).flatten := by rw [← List.flatten_append, List.take_append_drop]
  refine ⟨hl, fun j u hu => ?_, fun u hu => hL.one u (by rw [hsp]; exact List.mem_append_left _ hu)⟩
  rw [add_at]
  refine hL.cell j u ?_
  rw [hsp, List.getElem?_append_left]
  · exact hu
  · rcases Nat.lt_or_ge j (L.take n).flatten.length with h | h
    · exact h
    · rw [List.getElem?_eq_none h] at hu; cases hu
theorem news_drop {α : Type} {k n b o : Nat} {D : Dec α} {w : World} {B : Nat} {l : List α} {L : List (List Value)} (hL : News k D w B b o l L) (hn : n ≤ l.length) :
    (L.drop n).flatten.length = (l.length - n) * k ∧ (∀ (j : Nat) (u : Value), (L.drop n).flatten[j]? = some u → w.cell? ((⟨b, o + n * k, none⟩ : Addr).add j) = some u) ∧ ∀ u ∈ (L.drop n).flatten, u.oneCell' = true := by
  have hl : (L.drop n).flatten.length = (l.length - n) * k := by
    rw [flat_len (k := k) _ (fun v hv => hL.each v (List.mem_of_mem_drop hv)), List.length_drop, hL.len]
  have hsp : L.flatten = (L.take n).flatten ++ (L.drop n).flatten := by rw [← List.flatten_append, List.take_append_drop]
  refine ⟨hl, fun j u hu => ?_, fun u hu => hL.one u (by rw [hsp]; exact List.mem_append_right _ hu)⟩
  rw [add_at, Nat.add_assoc]
  refine hL.cell (n * k + j) u ?_
  rw [hsp, List.getElem?_append_right (by rw [(news_take hL hn).1]; omega), (news_take hL hn).1, Nat.add_sub_cancel_left]
  exact hu

end Go.Proofs.Ytccmgaibikiedaa.Dc
