/- The loops' steps. -/
import Derived.Test.YtbffcehaednefaaOrderMoreB
import Derived.Test.YtbffcehaednefaaOrderOpen
namespace Go.Proofs.Ytbffcehaednefaa.Order
set_option linter.unusedVariables false
set_option linter.unusedSimpArgs false
open Go.RowKit

variable {E : Es} {n gm gb gu m k j : Nat} {V : Nat → Nat → Value} {L : Nat → Nat → List Int} {w wr w3 w4 : World} {v : Value} {base : Nat} {G : Nat → Prop}
theorem own_mono {w : World} {b0 b1 k : Nat} {v : Value} {xs : List Value} (h : w.ownsRow b1 3 1 v k xs) (hb : b0 ≤ b1) : w.ownsRow b0 3 1 v k xs :=
  ⟨h.1, h.2.imp id fun ⟨g, cap, cur, e, h1, r⟩ => ⟨g, cap, cur, e, Nat.le_trans hb h1, r⟩⟩
theorem own_slice {w : World} {b1 k : Nat} {v : Value} {xs : List Value} (h : w.ownsRow b1 3 1 v k xs) : ∃ A3 n3 c3, v = .slice A3 n3 c3 := by
  rcases h.2 with ⟨e, _⟩ | ⟨g, cap, cur, e, _⟩
  · exact ⟨none, 0, 0, e⟩
  · exact ⟨some ⟨g, 0, none⟩, k, cap, e⟩
theorem row_get {l : List Int} {i : Nat} {u : Value} (h : (rowV l)[i]? = some u) : i < l.length ∧ u = .int .i64 (l.getD i 0) := by
  have hlt : i < l.length := by have := (List.getElem?_eq_some_iff.1 h).1; simpa using this
  refine ⟨hlt, ?_⟩
  rw [List.getElem?_map, List.getElem?_eq_getElem hlt] at h
  simp only [Option.map_some, Option.some.injEq] at h
  rw [← h, List.getD_eq_getElem?_getD, List.getElem?_eq_getElem hlt]; rfl
theorem row_one (l : List Int) : ∀ u ∈ rowV l, u.oneCell' = true := by
  intro u hu
  rw [List.mem_map] at hu
  obtain ⟨x, _, rfl⟩ := hu
  rfl
theorem row_app (l : List Int) (x : Int) : rowV (l ++ [x]) = rowV l ++ [.int .i64 x] := by simp
theorem one_news (wr : World) (x : Int) : ∀ j u, [Value.int .i64 x][j]? = some u → (wr.alloc (.cells #[.int .i64 x] 3)).cell? ((⟨wr.heap.size, 0, none⟩ : Addr).add j) = some u :=
  World.news_of_block (B := wr.heap.size) (cs := #[.int .i64 x]) (heap_alloc_new wr _)
theorem one_news_at (wr : World) (x : Int) (h : Nat) (e : wr.heap.size = h) : ∀ j u, [Value.int .i64 x][j]? = some u → (wr.alloc (.cells #[.int .i64 x] 3)).cell? ((⟨h, 0, none⟩ : Addr).add j) = some u := by
  subst e; exact one_news wr x
/-- the source of the copy. -/
theorem src_news {A : Option Addr} {l : List Int} {w0 w1 : World} (h : IRow w0 w0.heap.size A l) (hb : Below w0.heap.size w0 w1) : rowV l = [] ∨ ∃ ad, A = some ad ∧ ∀ j u, (rowV l)[j]? = some u → w1.cell? (ad.add j) = some u := by
  rcases h with h | ⟨b, o, e, hlt, hc⟩
  · exact .inl (by rw [h]; rfl)
  · refine .inr ⟨⟨b, o, none⟩, e, fun j u hj => ?_⟩
    obtain ⟨h1, h2⟩ := row_get hj
    rw [add_at, h2]
    exact (hb.cell (p := ⟨b, o + j, none⟩) hlt).trans (hc j h1)
theorem MW.copy_step {n' : Nat} {l : List Int} (h : MW E n gm gb gu k k 0 V L w wr) (hk : k < n) (hl : l = E.getD k []) (hn : n' = l.length)
    (hown : w3.ownsRow wr.heap.size 3 1 v n' (rowV l)) (hgr : (wr.alloc (.cells #[] 3)).grownBy w3 (some wr.heap.size)) :
    MW E n gm gb gu (k + 1) k 0 (upd2 V gm k v) (upd2 L gm k (E.getD k [])) w (w3.setCell ⟨gm, k, none⟩ v) ∧ w3.cell? ⟨gm, k, none⟩ = some (V gm k) ∧ w3.frozen? ⟨gm, k, none⟩ = false := by
  have hg : wr.grownBy w3 (V gm k).ownBlock := grown_of_alloc hgr (.inr rfl)
  refine ⟨h.copied hk hg ?_ (fun x hx => .inr (hown.lt x hx).1), h.rs.far3 h.gm' hk h.gm' hk hg⟩
  rw [← hl, ← hn]
  exact own_mono hown (h.rs.size h.gm').2
theorem MW.back_step {u g cap : Nat} (h : MW E n gm gb gu m k j V L w wr) (hk : k < n) (hj : j < (E.getD k []).length) (hu : u < n) (hx : (E.getD k []).getD j 0 = (u : Int))
    (hown : w3.ownsRow w.heap.size 3 1 (.slice (some ⟨g, 0, none⟩) ((L gb u).length + 1) cap) ((L gb u).length + 1) (rowV (L gb u) ++ [.int .i64 (k : Nat)]))
    (hgr : (wr.alloc (.cells #[.int .i64 (k : Nat)] 3)).grownBy w3 (V gb u).ownBlock) (hat : (V gb u).ownBlock = some g ∨ g = (wr.alloc (.cells #[.int .i64 (k : Nat)] 3)).heap.size) :
    MW E n gm gb gu m k (j + 1) (upd2 V gb u (.slice (some ⟨g, 0, none⟩) ((L gb u).length + 1) cap)) (upd2 L gb u (L gb u ++ [(k : Int)])) w (w3.setCell ⟨gb, u, none⟩ (.slice (some ⟨g, 0, none⟩) ((L gb u).length + 1) cap)) ∧
      (L gu k).length ≤ cnt E k + j ∧ (w3.cell? ⟨gb, u, none⟩ = some (V gb u) ∧ w3.frozen? ⟨gb, u, none⟩ = false) ∧ (w3.cell? ⟨gu, k, none⟩ = some (V gu k) ∧ w3.frozen? ⟨gu, k, none⟩ = false) := by
  have hg : wr.grownBy w3 (V gb u).ownBlock := grown_of_alloc hgr (.inl rfl)
  have hb := h.backed (w3 := w3) (v := .slice (some ⟨g, 0, none⟩) ((L gb u).length + 1) cap) hj hu hx hg (by rw [row_app, List.length_append]; exact hown) (fun x hx => lies_one hat hx)
  refine ⟨hb.1, ?_, h.rs.far3 h.gb' hu h.gb' hu hg, h.rs.far3 h.gu' hk h.gb' hu hg⟩
  exact h.turned.lu k
theorem MW.rise_step {g cap : Nat} {x : Int} {vv : Value} {ll : List Int} (h : MW E n gm gb gu m k (j + 1) V L w wr) (hv : V gu k = vv) (hll : L gu k = ll) (hlen : ll.length ≤ cnt E k + j) (hk : k < n) (hx : (k : Int) < x)
    (hown : w3.ownsRow w.heap.size 3 1 (.slice (some ⟨g, 0, none⟩) (ll.length + 1) cap) (ll.length + 1) (rowV ll ++ [.int .i64 x]))
    (hgr : (wr.alloc (.cells #[.int .i64 x] 3)).grownBy w3 vv.ownBlock) (hat : vv.ownBlock = some g ∨ g = (wr.alloc (.cells #[.int .i64 x] 3)).heap.size) :
    (∃ V' L', MW E n gm gb gu m k (j + 1) V' L' w (w3.setCell ⟨gu, k, none⟩ (.slice (some ⟨g, 0, none⟩) (ll.length + 1) cap))) ∧ w3.cell? ⟨gu, k, none⟩ = some vv ∧ w3.frozen? ⟨gu, k, none⟩ = false := by
  subst hv hll
  have hg : wr.grownBy w3 (V gu k).ownBlock := grown_of_alloc hgr (.inl rfl)
  exact ⟨⟨_, _, h.risen (w3 := w3) (v := .slice (some ⟨g, 0, none⟩) ((L gu k).length + 1) cap) hlen hk hx hg (by rw [row_app, List.length_append]; exact hown) (fun x hx => lies_one hat hx)⟩, h.rs.far3 h.gu' hk h.gu' hk hg⟩
theorem MW.up_own {vv : Value} {ll : List Int} (h : MW E n gm gb gu m k j V L w wr) (hv : V gu k = vv) (hll : L gu k = ll) (hk : k < n) (o : Obj) : (wr.alloc o).ownsRow w.heap.size 3 1 vv ll.length (rowV ll) := by
  subst hv hll
  exact (h.rs.own gu k h.gu' hk).alloc o
theorem MW.back_own {u : Nat} (h : MW E n gm gb gu m k j V L w wr) (hu : u < n) (o : Obj) : (wr.alloc o).ownsRow w.heap.size 3 1 (V gb u) (L gb u).length (rowV (L gb u)) := (h.rs.own gb u h.gb' hu).alloc o
theorem MW.base_le (h : MW E n gm gb gu m k j V L w wr) (o : Obj) : w.heap.size ≤ (wr.alloc o).heap.size := by have := (h.rs.size h.gm').2; simp; omega

/-- behind the last append. -/
structure Fin (E : Es) (n gm gb gu : Nat) (w wr : World) (V : Nat → Nat → Value) (L : Nat → Nat → List Int) : Prop where
  rs : RS w.heap.size n (G3 gm gb gu) V L w wr
  more : Cyclic E → Cyclic (rowsOf n (L gm))
  back : Cyclic E ↔ Cyclic (rowsOf n (L gb))
  up : ¬ Cyclic (rowsOf n (L gu))
theorem MW.more_step {g cap q : Nat} {x : Int} (h : MW E n gm gb gu n n 0 V L w wr) (hn : n = E.length) (hq : q < n)
    (hown : w3.ownsRow w.heap.size 3 1 (.slice (some ⟨g, 0, none⟩) ((L gm q).length + 1) cap) ((L gm q).length + 1) (rowV (L gm q) ++ [.int .i64 x]))
    (hgr : (wr.alloc (.cells #[.int .i64 x] 3)).grownBy w3 (V gm q).ownBlock) (hat : (V gm q).ownBlock = some g ∨ g = (wr.alloc (.cells #[.int .i64 x] 3)).heap.size) :
    (∃ V' L', Fin E n gm gb gu w (w3.setCell ⟨gm, q, none⟩ (.slice (some ⟨g, 0, none⟩) ((L gm q).length + 1) cap)) V' L') ∧ w3.cell? ⟨gm, q, none⟩ = some (V gm q) ∧ w3.frozen? ⟨gm, q, none⟩ = false := by
  have hg : wr.grownBy w3 (V gm q).ownBlock := grown_of_alloc hgr (.inl rfl)
  refine ⟨⟨_, _, h.rs.put h.gm' hq hg (l := L gm q ++ [x]) (by rw [row_app, List.length_append]; exact hown) (fun x hx => lies_one hat hx), ?_, ?_, ?_⟩, h.rs.far3 h.gm' hq h.gm' hq hg⟩
  · refine more_cyc hn fun p hp y hy => ?_
    rw [upd2_row]
    by_cases e : p = q
    · rw [e, upd_at, List.mem_append, h.more q hq, ← e]; exact .inl hy
    · rw [upd_ne _ _ e, h.more p hp]; exact hy
  · rw [upd2_other _ _ _ (Ne.symm h.mb)]; exact (h.turned.cyc hn).1
  · rw [upd2_other _ _ _ (Ne.symm h.mu)]; exact (h.turned.cyc hn).2
theorem Fin.below {w' : World} (h : Fin E n gm gb gu w wr V L) (hb : Below wr.heap.size wr w') : Fin E n gm gb gu w w' V L := ⟨h.rs.below hb (h.rs.size (g := gm) (.inl rfl)).2, h.more, h.back, h.up⟩
theorem Fin.size (h : Fin E n gm gb gu w wr V L) : w.heap.size ≤ wr.heap.size := (h.rs.size (g := gm) (.inl rfl)).2
theorem MW.drew (h : MW E n gm gb gu m k j V L w wr) : MW E n gm gb gu m k j V L w wr.drew := ⟨⟨h.rs.bel.drew, h.rs.lo, h.rs.blk, h.rs.own, h.rs.apart, h.rs.far⟩, h.more, h.turned, h.mb, h.mu, h.bu⟩
theorem circle_no {E : Es} {Q : List Nat} {X Y : Prop} (hc : ¬ Cyclic E) (h : (Q = [] ∧ X) ∨ (IsCycle E Q ∧ Way E (Q.getD 0 0) (Q.getD 0 0) ∧ Y)) : Q.length = 0 := by
  rcases h with ⟨h, _⟩ | ⟨_, h, _⟩
  · rw [h]; rfl
  · exact absurd ⟨_, h⟩ hc
theorem circle_yes {E : Es} {Q : List Nat} {Y : Prop} (hc : Cyclic E) (h : (Q = [] ∧ ¬ Cyclic E) ∨ (IsCycle E Q ∧ Y)) : 0 < Q.length := by
  rcases h with ⟨_, h⟩ | ⟨h, _⟩
  · exact absurd hc h
  · exact List.length_pos_iff.2 h.ne

end Go.Proofs.Ytbffcehaednefaa.Order
