/- Newest: the law's own order, by putting in, walked. -/
import Derived.Test.YtdilmiaaahpfcaaNewA
namespace Go.Proofs.Ytdilmiaaahpfcaa.Newest
set_option linter.unusedVariables false
set_option linter.unusedSimpArgs false
open Go.RowKit Go.Shelf
open Go.Proofs.Ytdilmiaaahpfcaa.Ver (cmpV ord_v Ord Bs Row str bstep compare_any less_any fixed_any same_any great_any greatB small_of)
open Go.Proofs.Ytdilmiaaahpfcaa.Stab

/-- 'append(row, xs...)', row the call's own and no nil: nor is what comes of it. -/
theorem wpList_append_no {P : Program} (w : World) {ops : Array Oper} {rest : List Oper} {o : Oper} {a : Act} {Q : Exit → Act → World → Prop} (hgd : o.guard = none) (s x : Operand) (t : TypeId)
    (ho : o.op = .call { callee := .builtin .append, args := #[s, x], argTypes := #[t, t] })
    (base : Nat) (e : TypeId) (i : TypeInfo) (z : Value) (bytes : Nat) (ht : P.underlying t = some (.slice e)) (hi : P.info? e = some i) (hz : i.zero = some z)
    (hsize : i.size = 1) (hby : i.bytes = bytes) (hzs : z.cells.size = 1)
    (g n cap : Nat) (xs : List Value) (hs : a.eval s = .slice (some ⟨g, 0, none⟩) n cap) (hown : w.ownsRow base e 1 (.slice (some ⟨g, 0, none⟩) n cap) n xs)
    (A : Option Addr) (m c : Nat) (news : List Value) (hx : a.eval x = .slice A m c) (hl : news.length = m)
    (hnews : news = [] ∨ ∃ ad, A = some ad ∧ ∀ j u, news[j]? = some u → w.cell? (ad.add j) = some u) (h1 : ∀ u ∈ news, u.oneCell' = true)
    (N : Nat) (hN : n + m = N) (h63 : N ≤ maxLen) (hbytes : N * bytes ≤ 140737488355328) (hbase : base ≤ w.heap.size)
    (h : ∀ g' cap' w', w'.ownsRow base e 1 (.slice (some ⟨g', 0, none⟩) N cap') N (xs ++ news) → w.grownBy w' (some g) → wpList P ops Q rest (a.put o.dst (.slice (some ⟨g', 0, none⟩) N cap')) w') : wpList P ops Q (o :: rest) a w := by
  subst hN
  cases A with
  | some ad =>
    refine wpList_append_own _ hgd s x t ho base e i z 1 bytes ht hi hz hsize hby hzs (by decide) _ n xs hs hown ad m c news hx (by omega) ?_ h1 h63 hbytes hbase ?_
    · intro j u hj
      rcases hnews with e1 | ⟨ad', e1, hc⟩
      · rw [e1] at hj; simp at hj
      · injection e1 with e1; rw [e1]; exact hc j u hj
    · intro v' w' hown' hgrow hnil
      rcases hown'.2 with ⟨e1, _⟩ | ⟨g', cap', cur, e1, _⟩
      · have := (hnil.1 e1).1; cases this
      · subst e1
        exact h g' cap' w' hown' hgrow
  | none =>
    have hnil : news = [] := by
      rcases hnews with e1 | ⟨ad', e1, _⟩
      · exact e1
      · cases e1
    subst hnil
    have hm : m = 0 := by simpa using hl.symm
    subst hm
    have hnc : n ≤ cap := by
      rcases hown.2 with ⟨e1, _⟩ | ⟨g', cap', cur, e1, _, _, hc, _⟩
      · cases e1
      · injection e1 with _ _ e3; omega
    refine wpList_plain hgd fun _ hK => ?_
    have hr : (Builtin.append_ #[t, t] o.type #[.slice (some ⟨g, 0, none⟩) n cap, .slice none 0 c]).run P w = .ok (.slice (some ⟨g, 0, none⟩) n cap) w := by
      simp [Builtin.append_, run_underlying ht, sizeOf, typeInfo, hi, Builtin.lenOf, Builtin.firstCells, storeCells, hnc]
    unfold Oper.wp execOp
    simp only [ho, resolve, invoke, builtin, Sem.run_bind, Sem.run_pure, Result.andThen_ok, List.map_toArray, List.map_cons, List.map_nil, hs, hx, hr]
    exact hK _ _ (h g cap w (by rw [Nat.add_zero, List.append_nil]; exact hown) ⟨rfl, rfl, rfl, Nat.le_refl _, fun k _ _ => rfl⟩)

theorem str_info : ∃ i, Try.prog.info? 9 = some i ∧ i.zero = some (.string ⟨#[]⟩) ∧ i.size = 1 ∧ i.bytes = 16 := by
  obtain ⟨i, hi, hz⟩ := Option.map_eq_some_iff.1 (show (Try.prog.info? 9).map (fun i => (i.zero, i.size, i.bytes)) = some (some (.string ⟨#[]⟩), 1, 16) by kernel_rfl)
  simp only [Prod.mk.injEq] at hz
  exact ⟨i, hi, hz⟩
theorem own_made {w : World} : (w.alloc (.cells #[] 9)).ownsRow w.heap.size 9 1 (.slice (some ⟨w.heap.size, 0, none⟩) 0 0) 0 [] :=
  ⟨rfl, .inr ⟨w.heap.size, 0, #[], rfl, Nat.le_refl _, heap_alloc_new w _, Nat.le_refl _, Nat.zero_le _, rfl, rfl⟩⟩
theorem own_lower {w : World} {base base' n : Nat} {v : Value} {xs : List Value} (h : w.ownsRow base 9 1 v n xs) (hb : base' ≤ base) : w.ownsRow base' 9 1 v n xs := by
  refine ⟨h.1, ?_⟩
  rcases h.2 with h1 | ⟨g, cap, cur, h1, h2, h3⟩
  · exact .inl h1
  · exact .inr ⟨g, cap, cur, h1, by omega, h3⟩
theorem SRow.news {w : World} {B : Nat} {A : Option Addr} {l : List ByteArray} (h : SRow w B A l) : rowS l = [] ∨ ∃ ad, A = some ad ∧ ∀ j u, (rowS l)[j]? = some u → w.cell? (ad.add j) = some u := by
  rcases h with h | ⟨b, o, e, hb, hc⟩
  · exact .inl (by rw [h]; rfl)
  · refine .inr ⟨_, e, fun j u hu => ?_⟩
    have hj : j < l.length := by
      have := (List.getElem?_eq_some_iff.1 hu).1
      simpa using this
    rw [add_at, hc j hj, ← hu, List.getElem?_map, List.getElem?_eq_getElem hj, List.getD_eq_getElem?_getD, List.getElem?_eq_getElem hj]
    rfl
theorem news_cut {w : World} {g a : Nat} {l : List ByteArray} (h : ∀ j, j < l.length → w.cell? ⟨g, j, none⟩ = some (.string (l.getD j ByteArray.empty))) :
    ∀ j u, (rowS (l.drop a))[j]? = some u → w.cell? ((⟨g, a, none⟩ : Addr).add j) = some u := by
  intro j u hu
  rw [add_at]
  have hj : a + j < l.length := by
    have := (List.getElem?_eq_some_iff.1 hu).1
    simp at this; omega
  rw [h (a + j) hj, ← hu, List.getElem?_map, List.getElem?_drop, List.getElem?_eq_getElem hj, List.getD_eq_getElem?_getD, List.getElem?_eq_getElem hj]
  rfl
theorem news_ahead {w : World} {g a : Nat} {l : List ByteArray} (h : ∀ j, j < l.length → w.cell? ⟨g, j, none⟩ = some (.string (l.getD j ByteArray.empty))) :
    ∀ j u, (rowS (l.take a))[j]? = some u → w.cell? ((⟨g, 0, none⟩ : Addr).add j) = some u := by
  intro j u hu
  rw [add_at, Nat.zero_add]
  have hj : j < a ∧ j < l.length := by
    have := (List.getElem?_eq_some_iff.1 hu).1
    simp at this; omega
  rw [h j hj.2, ← hu, List.getElem?_map, List.getElem?_take, if_pos hj.1, List.getElem?_eq_getElem hj.2, List.getD_eq_getElem?_getD, List.getElem?_eq_getElem hj.2]
  rfl
theorem ins_at {l : List ByteArray} {x : ByteArray} {a : Nat} (ha : a ≤ l.length) (h1 : ∀ t, a ≤ t → t < l.length → ltN x (l.getD t ByteArray.empty) = true) (h2 : a = 0 ∨ ltN x (l.getD (a - 1) ByteArray.empty) = false) :
    ins ltN l x = l.take a ++ [x] ++ l.drop a := by
  have e : l.reverse = (l.drop a).reverse ++ (l.take a).reverse := by rw [← List.reverse_append, List.take_append_drop]
  have p1 : ∀ y ∈ (l.drop a).reverse, (fun y => ltN x y) y = true := by
    intro y hy
    rw [List.mem_reverse] at hy
    obtain ⟨i, hi, rfl⟩ := List.getElem_of_mem hy
    have hl : a + i < l.length := by simp at hi; omega
    have := h1 (a + i) (by omega) hl
    rw [List.getD_eq_getElem?_getD, List.getElem?_eq_getElem hl] at this
    rw [List.getElem_drop]
    exact this
  have p2 : (l.take a).reverse.takeWhile (fun y => ltN x y) = [] ∧ (l.take a).reverse.dropWhile (fun y => ltN x y) = (l.take a).reverse := by
    cases hr : (l.take a).reverse with
    | nil => simp
    | cons y r =>
      have hy : (l.take a).reverse[0]? = some y := by rw [hr]; rfl
      have hpos : 0 < (l.take a).length := by
        have := congrArg List.length hr
        simp at this ⊢; omega
      rw [List.getElem?_reverse hpos] at hy
      have ht : (l.take a).length = a := by simp; omega
      rw [ht, List.getElem?_take, if_pos (by omega)] at hy
      have hf : ltN x y = false := by
        rcases h2 with h2 | h2
        · omega
        · rw [List.getD_eq_getElem?_getD, show a - 1 = a - 1 - 0 by omega, hy] at h2
          exact h2
      rw [List.takeWhile_cons, List.dropWhile_cons, hf]
      simp
  unfold ins
  rw [e, List.takeWhile_append_of_pos p1, List.dropWhile_append_of_pos p1, p2.1, p2.2]
  simp
theorem ins_len (l : List ByteArray) (x : ByteArray) : (ins ltN l x).length = l.length + 1 := by
  have := congrArg List.length (ins_split (lt := ltN) l x)
  unfold ins
  simp at this ⊢
  omega
theorem stab_snoc (l : List ByteArray) (x : ByteArray) : stab ltN (l ++ [x]) = ins ltN (stab ltN l) x := by unfold stab; rw [List.foldl_append]; rfl
theorem stab_take {l : List ByteArray} {k : Nat} (h : k < l.length) : stab ltN (l.take (k + 1)) = ins ltN (stab ltN (l.take k)) (l.getD k ByteArray.empty) := by
  rw [List.take_succ_eq_append_getElem h, stab_snoc, List.getD_eq_getElem?_getD, List.getElem?_eq_getElem h]; rfl
theorem stab_len (l : List ByteArray) : (stab ltN l).length = l.length := by
  have : ∀ (r a : List ByteArray), (r.foldl (ins ltN) a).length = a.length + r.length := by
    intro r
    induction r with
    | nil => intro a; rfl
    | cons x r ih => intro a; rw [List.foldl_cons, ih, ins_len]; simp; omega
  have h := this l []
  simpa [stab] using h
theorem stab_sz {l : List ByteArray} (h : ∀ s ∈ l, s.size ≤ maxLen) (k i : Nat) : ((stab ltN (l.take k)).getD i ByteArray.empty).size ≤ maxLen := by
  rcases Nat.lt_or_ge i (stab ltN (l.take k)).length with hi | hi
  · rw [List.getD_eq_getElem?_getD, List.getElem?_eq_getElem hi]
    refine h _ (List.mem_of_mem_take (i := k) ?_)
    exact ((stab_merged woN (l.take k)).alike.mem woN).2 (List.getElem_mem hi)
  · rw [List.getD_eq_getElem?_getD, List.getElem?_eq_none hi]; simp

/-- the state ahead of a round. -/
structure WS (B k : Nat) (l want : List ByteArray) (g cap : Nat) (w wr : World) : Prop where
  bel : Below B w wr
  own : wr.ownsRow B 9 1 (.slice (some ⟨g, 0, none⟩) k cap) k (rowS want)
  eq : want = stab ltN (l.take k)
theorem WS.cell {B k : Nat} {l want : List ByteArray} {g cap : Nat} {w wr : World} (h : WS B k l want g cap w wr) {j : Nat} (hj : j < k) : wr.cell? ⟨g, j, none⟩ = some (.string (want.getD j ByteArray.empty)) := by
  obtain ⟨A, c, e, hl, _, _, hi, _⟩ := own_srow h.own
  injection e with e1 e2 e3
  subst e1
  rcases hi with hi | ⟨b, o, e, hb, hc⟩
  · rw [hi] at hl; simp at hl; omega
  · injection e with e
    injection e with e1 e2
    subst e1 e2
    have := hc j (by omega)
    rwa [Nat.zero_add] at this
theorem WS.len {B k : Nat} {l want : List ByteArray} {g cap : Nat} {w wr : World} (h : WS B k l want g cap w wr) : want.length = k := by
  obtain ⟨A, c, e, hl, _⟩ := own_srow h.own
  exact hl.symm
theorem WS.capl {B k : Nat} {l want : List ByteArray} {g cap : Nat} {w wr : World} (h : WS B k l want g cap w wr) : k ≤ cap := by
  obtain ⟨A, c, e, hl, hc, _⟩ := own_srow h.own
  injection e with e1 e2 e3
  omega
theorem WS.first (l : List ByteArray) (w : World) : WS w.heap.size 0 l [] w.heap.size 0 w (w.alloc (.cells #[] 9)) :=
  ⟨(Below.refl _ _).alloc (Nat.le_refl _) _, own_made, by simp [stab]⟩
theorem own_below {w w' : World} {base n : Nat} {e : TypeId} {v : Value} {xs : List Value} (h : w.ownsRow base e 1 v n xs) (hb : Below w.heap.size w w') : w'.ownsRow base e 1 v n xs := by
  refine ⟨h.1, ?_⟩
  rcases h.2 with h1 | ⟨g, cap, cur, e1, e2, hh, rest⟩
  · exact .inl h1
  · exact .inr ⟨g, cap, cur, e1, e2, (hb.block g (lt_of_block hh)).trans hh, rest⟩
theorem WS.mem {B k : Nat} {l want : List ByteArray} {g cap : Nat} {w wr w' : World} (h : WS B k l want g cap w wr) (hB : B ≤ w.heap.size) (hb : Below wr.heap.size wr w') : WS B k l want g cap w w' :=
  ⟨h.bel.trans (hb.mono (by have := h.bel.size; omega)), own_below h.own hb, h.eq⟩


end Go.Proofs.Ytdilmiaaahpfcaa.Newest
