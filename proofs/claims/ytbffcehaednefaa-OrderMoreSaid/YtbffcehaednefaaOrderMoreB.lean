/- The state of the law's loops; an append from a row that came in. -/
import Derived.Test.YtbffcehaednefaaOrderMoreA
namespace Go.Proofs.Ytbffcehaednefaa.Order
set_option linter.unusedVariables false
set_option linter.unusedSimpArgs false
open Go.RowKit

/-- 'append(row, xs...)', row empty and the call's own, xs nil, empty or not. -/
theorem wpList_append_src {P : Program} (w : World) {ops : Array Oper} {rest : List Oper} {o : Oper} {a : Act} {Q : Exit → Act → World → Prop} (hgd : o.guard = none) (s x : Operand) (t : TypeId)
    (ho : o.op = .call { callee := .builtin .append, args := #[s, x], argTypes := #[t, t] })
    (base : Nat) (e : TypeId) (i : TypeInfo) (z : Value) (bytes : Nat) (ht : P.underlying t = some (.slice e)) (hi : P.info? e = some i) (hz : i.zero = some z)
    (hsize : i.size = 1) (hby : i.bytes = bytes) (hzs : z.cells.size = 1)
    (g cap : Nat) (hs : a.eval s = .slice (some ⟨g, 0, none⟩) 0 cap) (hown : w.ownsRow base e 1 (.slice (some ⟨g, 0, none⟩) 0 cap) 0 [])
    (A : Option Addr) (m c : Nat) (news : List Value) (hx : a.eval x = .slice A m c) (hl : news.length = m)
    (hnews : news = [] ∨ ∃ ad, A = some ad ∧ ∀ j u, news[j]? = some u → w.cell? (ad.add j) = some u) (h1 : ∀ u ∈ news, u.oneCell' = true)
    (h63 : m ≤ maxLen) (hbytes : m * bytes ≤ 140737488355328) (hbase : base ≤ w.heap.size)
    (h : ∀ v' w', w'.ownsRow base e 1 v' m news → w.grownBy w' (some g) → wpList P ops Q rest (a.put o.dst v') w') : wpList P ops Q (o :: rest) a w := by
  cases A with
  | some ad =>
    refine wpList_append_own _ hgd s x t ho base e i z 1 bytes ht hi hz hsize hby hzs (by decide) _ 0 [] hs hown ad m c news hx (by omega) ?_ h1 (by omega) (by rw [Nat.zero_add]; exact hbytes) hbase ?_
    · intro j u hj
      rcases hnews with e1 | ⟨ad', e1, hc⟩
      · rw [e1] at hj; simp at hj
      · injection e1 with e1; rw [e1]; exact hc j u hj
    · intro v' w' hown' hgrow _
      rw [Nat.zero_add, List.nil_append] at hown'
      exact h v' w' hown' hgrow
  | none =>
    have hnil : news = [] := by
      rcases hnews with e1 | ⟨ad', e1, _⟩
      · exact e1
      · cases e1
    subst hnil
    have hm : m = 0 := by simpa using hl.symm
    subst hm
    refine wpList_plain hgd fun _ hK => ?_
    have hr : (Builtin.append_ #[t, t] o.type #[.slice (some ⟨g, 0, none⟩) 0 cap, .slice none 0 c]).run P w = .ok (.slice (some ⟨g, 0, none⟩) 0 cap) w := by
      simp [Builtin.append_, run_underlying ht, sizeOf, typeInfo, hi, Builtin.lenOf, Builtin.firstCells, storeCells]
    unfold Oper.wp execOp
    simp only [ho, resolve, invoke, builtin, Sem.run_bind, Sem.run_pure, Result.andThen_ok, List.map_toArray, List.map_cons, List.map_nil, hs, hx, hr]
    exact hK _ _ (h _ w hown ⟨rfl, rfl, rfl, Nat.le_refl _, fun k _ _ => rfl⟩)

theorem info_ints : (Try.prog.info? 52).map (fun i => (i.zero, i.size, i.bytes)) = some (some (.slice none 0 0), 1, 24) := by kernel_rfl
theorem make_rows (n : Nat) (hn : n ≤ 100000) (w : World) : (Instr.makeSlice 51 (.int .i64 n) (.int .i64 n)).run Try.prog w =
    .ok (.slice (some ⟨w.heap.size, 0, none⟩) n n) (w.alloc (.cells (madeCells #[.slice none 0 0] n) 52)) := by
  obtain ⟨i, hi, hz⟩ := Option.map_eq_some_iff.1 info_ints
  simp only [Prod.mk.injEq] at hz
  obtain ⟨h1, h2, h3⟩ := hz
  have h := run_make w 51 52 i _ Try.underlying51 hi h1 .i64 .i64 (n : Int) (n : Int) (by omega) (by omega) (by rw [h3]; omega) (by omega)
  rw [h2] at h
  simp only [Int.toNat_natCast, Nat.mul_one] at h
  exact h

abbrev G3 (gm gb gu : Nat) : Nat → Prop := fun g => g = gm ∨ g = gb ∨ g = gu
structure MW (E : Es) (n gm gb gu m k j : Nat) (V : Nat → Nat → Value) (L : Nat → Nat → List Int) (w wr : World) : Prop where
  rs : RS w.heap.size n (G3 gm gb gu) V L w wr
  more : ∀ p, p < m → L gm p = E.getD p []
  turned : Turned E n k j (L gb) (L gu)
  mb : gm ≠ gb
  mu : gm ≠ gu
  bu : gb ≠ gu
variable {E : Es} {n gm gb gu m k j : Nat} {V : Nat → Nat → Value} {L : Nat → Nat → List Int} {w wr w3 : World} {v : Value}
theorem MW.gm' (_ : MW E n gm gb gu m k j V L w wr) : G3 gm gb gu gm := .inl rfl
theorem MW.gb' (_ : MW E n gm gb gu m k j V L w wr) : G3 gm gb gu gb := .inr (.inl rfl)
theorem MW.gu' (_ : MW E n gm gb gu m k j V L w wr) : G3 gm gb gu gu := .inr (.inr rfl)
theorem MW.copied (h : MW E n gm gb gu k k 0 V L w wr) (hk : k < n) (hgr : wr.grownBy w3 (V gm k).ownBlock) (hown : w3.ownsRow w.heap.size 3 1 v (E.getD k []).length (rowV (E.getD k [])))
    (hl : ∀ x, v.ownBlock = some x → (V gm k).ownBlock = some x ∨ wr.heap.size ≤ x) : MW E n gm gb gu (k + 1) k 0 (upd2 V gm k v) (upd2 L gm k (E.getD k [])) w (w3.setCell ⟨gm, k, none⟩ v) := by
  refine ⟨h.rs.put h.gm' hk hgr hown hl, fun p hp => ?_, ?_, h.mb, h.mu, h.bu⟩
  · by_cases e : p = k
    · subst e; rw [upd2_at]
    · rw [upd2_ne _ _ (fun x => e x.2)]; exact h.more p (by omega)
  · rw [upd2_other _ _ _ (Ne.symm h.mb), upd2_other _ _ _ (Ne.symm h.mu)]; exact h.turned
theorem MW.backed {u : Nat} (h : MW E n gm gb gu m k j V L w wr) (hj : j < (E.getD k []).length) (hu : u < n) (hx : (E.getD k []).getD j 0 = (u : Int)) (hgr : wr.grownBy w3 (V gb u).ownBlock)
    (hown : w3.ownsRow w.heap.size 3 1 v (L gb u ++ [(k : Int)]).length (rowV (L gb u ++ [(k : Int)])))
    (hl : ∀ x, v.ownBlock = some x → (V gb u).ownBlock = some x ∨ wr.heap.size ≤ x) :
    MW E n gm gb gu m k (j + 1) (upd2 V gb u v) (upd2 L gb u (L gb u ++ [(k : Int)])) w (w3.setCell ⟨gb, u, none⟩ v) ∧ (upd2 L gb u (L gb u ++ [(k : Int)]) gu k).length ≤ cnt E k + j := by
  refine ⟨⟨h.rs.put h.gb' hu hgr hown hl, fun p hp => ?_, ?_, h.mb, h.mu, h.bu⟩, ?_⟩
  · rw [upd2_ne _ _ (fun x => h.mb x.1)]; exact h.more p hp
  · rw [upd2_row, upd2_other _ _ _ (Ne.symm h.bu)]
    exact h.turned.put hj hu hx
  · rw [upd2_other _ _ _ (Ne.symm h.bu)]; exact h.turned.lu k
theorem MW.out (h : MW E n gm gb gu m k j V L w wr) (hj : j < (E.getD k []).length) (ho : ∀ t : Nat, t < n → (E.getD k []).getD j 0 ≠ (t : Int)) :
    MW E n gm gb gu m k (j + 1) V L w wr ∧ (L gu k).length ≤ cnt E k + j := ⟨⟨h.rs, h.more, h.turned.out hj ho, h.mb, h.mu, h.bu⟩, h.turned.lu k⟩
theorem MW.risen {x : Int} (h : MW E n gm gb gu m k (j + 1) V L w wr) (hlen : (L gu k).length ≤ cnt E k + j) (hk : k < n) (hx : (k : Int) < x) (hgr : wr.grownBy w3 (V gu k).ownBlock)
    (hown : w3.ownsRow w.heap.size 3 1 v (L gu k ++ [x]).length (rowV (L gu k ++ [x])))
    (hl : ∀ x, v.ownBlock = some x → (V gu k).ownBlock = some x ∨ wr.heap.size ≤ x) :
    MW E n gm gb gu m k (j + 1) (upd2 V gu k v) (upd2 L gu k (L gu k ++ [x])) w (w3.setCell ⟨gu, k, none⟩ v) := by
  refine ⟨h.rs.put h.gu' hk hgr hown hl, fun p hp => ?_, ?_, h.mb, h.mu, h.bu⟩
  · rw [upd2_ne _ _ (fun x => h.mu x.1)]; exact h.more p hp
  · rw [upd2_row, upd2_other _ _ _ h.bu]
    exact h.turned.rise hlen hx
theorem MW.next (h : MW E n gm gb gu (k + 1) k (E.getD k []).length V L w wr) : MW E n gm gb gu (k + 1) (k + 1) 0 V L w wr := ⟨h.rs, h.more, h.turned.next, h.mb, h.mu, h.bu⟩
/-- where a row lies behind an append of one. -/
theorem lies_one {x g cap nn : Nat} {vv : Value} {o : Obj} (hat : vv.ownBlock = some g ∨ g = (wr.alloc o).heap.size) (hx : (Value.slice (some ⟨g, 0, none⟩) nn cap).ownBlock = some x) : vv.ownBlock = some x ∨ wr.heap.size ≤ x := by
  have e : g = x := by simpa [Value.ownBlock] using hx
  subst e
  rcases hat with h | h
  · exact .inl h
  · right; simp at h; omega
theorem RS.far3 {base n g p : Nat} {G : Nat → Prop} (h : RS base n G V L w wr) (hG : G g) (hp : p < n) {gg q : Nat} (hGG : G gg) (hq : q < n) (hgr : wr.grownBy w3 (V gg q).ownBlock) : w3.cell? ⟨g, p, none⟩ = some (V g p) ∧ w3.frozen? ⟨g, p, none⟩ = false := by
  have e := hgr.block g (h.size hG).1 (fun e => h.far gg q g hGG hq e.symm hG)
  exact ⟨(World.cell?_of_block (a := ⟨g, p, none⟩) e).trans (h.cell hG hp).1, (World.frozen?_of_block (a := ⟨g, p, none⟩) e).trans (h.cell hG hp).2⟩
theorem made_nil (n p : Nat) (h : p < n) : (madeCells #[Value.slice none 0 0] n)[p]? = some (.slice none 0 0) := by
  have : (madeCells #[Value.slice none 0 0] n).toList[p]? = some (.slice none 0 0) := by
    rw [toList_madeCells_one, List.getElem?_replicate, if_pos h]
  simpa using this
theorem MW.first (E : Es) (n : Nat) (w w1 : World) (hb : Below w.heap.size w w1) :
    MW E n w1.heap.size (w1.heap.size + 1) (w1.heap.size + 1 + 1) 0 0 0 (fun _ _ => .slice none 0 0) (fun _ _ => []) w
      (((w1.alloc (.cells (madeCells #[.slice none 0 0] n) 52)).alloc (.cells (madeCells #[.slice none 0 0] n) 52)).alloc (.cells (madeCells #[.slice none 0 0] n) 52)) := by
  have hz := hb.size
  have s1 : (w1.alloc (.cells (madeCells #[.slice none 0 0] n) 52)).heap.size = w1.heap.size + 1 := by simp
  have s2 : ((w1.alloc (.cells (madeCells #[.slice none 0 0] n) 52)).alloc (.cells (madeCells #[.slice none 0 0] n) 52)).heap.size = w1.heap.size + 1 + 1 := by simp
  refine ⟨⟨((hb.alloc hz _).alloc (by omega) _).alloc (by omega) _, ?_, ?_, ?_, ?_, ?_⟩, fun p h => absurd h (Nat.not_lt_zero _), Turned.first E n, by omega, by omega, by omega⟩
  · rintro g (rfl | rfl | rfl) <;> omega
  · rintro g (rfl | rfl | rfl)
    · exact ⟨_, by rw [Below.heap_alloc _ _ _ (by omega), Below.heap_alloc _ _ _ (by omega)]; exact heap_alloc_new w1 _, fun p hp => made_nil n p hp⟩
    · refine ⟨_, ?_, fun p hp => made_nil n p hp⟩
      rw [Below.heap_alloc _ _ _ (by omega), ← s1]; exact heap_alloc_new (w1.alloc _) _
    · refine ⟨_, ?_, fun p hp => made_nil n p hp⟩
      rw [← s2]; exact heap_alloc_new ((w1.alloc _).alloc _) _
  · exact fun g p _ _ => ⟨rfl, .inl ⟨rfl, rfl⟩⟩
  · intro g p g' p' k _ _ _ _ e
    simp [Value.ownBlock] at e
  · intro g p k _ _ e
    simp [Value.ownBlock] at e

end Go.Proofs.Ytbffcehaednefaa.Order
