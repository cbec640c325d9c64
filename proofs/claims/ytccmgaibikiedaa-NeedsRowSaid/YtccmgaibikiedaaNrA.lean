/- Rows of versions: ranks of distinct ones; the package that grows. -/
import Derived.Test.YtccmgaibikiedaaNdH
import Derived.Laws.MakeOwn
import Derived.Deep.AppendLies
namespace Go.Proofs.Ytccmgaibikiedaa.Dc
open Go.RowKit
set_option linter.unusedVariables false
set_option linter.unusedSimpArgs false
/-! ### mathematics -/
def relOf (v : ByteArray) : Rel := (v, false)
def pkgOf (vs : List ByteArray) : Pk := ⟨⟨#[]⟩, 0, vs.map relOf, [], [], [], [], []⟩
def newV (v u : ByteArray) : Bool := decide (0 < Ver.cmpV u.data.toList v.data.toList)
def rkN (vs : List ByteArray) (v : ByteArray) : Nat := vs.countP (newV v)
/-- versions, each once. -/
def Vs (vs : List ByteArray) : Prop := vs.Nodup ∧ ∀ v ∈ vs, Ver.mayV v.data.toList = true
theorem count_lt {α : Type} {p q : α → Bool} : ∀ (l : List α), (∀ u ∈ l, p u = true → q u = true) → (∃ a ∈ l, q a = true ∧ p a = false) → l.countP p < l.countP q
  | [], _, ⟨a, h, _⟩ => by cases h
  | x :: l, h, ⟨a, ha, h1, h2⟩ => by
    have hmono : l.countP p ≤ l.countP q := List.countP_mono_left fun u hu => h u (List.mem_cons_of_mem _ hu)
    rw [List.countP_cons, List.countP_cons]
    rcases List.mem_cons.1 ha with rfl | ha
    · rw [if_pos h1, h2]; simp; omega
    · have hl := count_lt l (fun u hu => h u (List.mem_cons_of_mem _ hu)) ⟨a, ha, h1, h2⟩
      have hx := h x (List.mem_cons_self ..)
      cases hp : p x
      · cases hq : q x <;> simp <;> omega
      · rw [hx hp]; simp; omega
theorem new_self (v : ByteArray) : newV v v = false := by
  unfold newV; rw [Ver.ord_v.refl]; rfl
theorem rk_lt {vs : List ByteArray} {v : ByteArray} (h : v ∈ vs) : rkN vs v < vs.length := by
  have h1 := count_lt (p := newV v) (q := fun _ => true) vs (fun _ _ _ => rfl) ⟨v, h, rfl, new_self v⟩
  rw [show vs.countP (fun _ => true) = vs.length by simp] at h1
  exact h1
theorem rk_less {vs : List ByteArray} {v w : ByteArray} (hw : w ∈ vs) (h : Ver.cmpV v.data.toList w.data.toList < 0) : rkN vs w < rkN vs v := by
  refine count_lt vs (fun u _ hu => ?_) ⟨w, hw, ?_, new_self w⟩
  · have h1 := of_decide_eq_true hu
    have a1 := Ver.ord_v.anti u.data.toList w.data.toList
    have h2 : Ver.cmpV w.data.toList u.data.toList ≤ 0 := by omega
    have h3 := Ver.ord_v.lt_le h h2
    have a2 := Ver.ord_v.anti u.data.toList v.data.toList
    exact decide_eq_true (by omega)
  · have a := Ver.ord_v.anti v.data.toList w.data.toList
    exact decide_eq_true (by omega)
theorem bytes_ext {a b : ByteArray} (h : a.data.toList = b.data.toList) : a = b := by
  cases a; cases b
  congr 1
  exact Array.toList_inj.1 h
theorem rk_ne {vs : List ByteArray} (hv : Vs vs) {v w : ByteArray} (h1 : v ∈ vs) (h2 : w ∈ vs) (hne : v ≠ w) : rkN vs v ≠ rkN vs w := by
  rcases Ver.ord_v.rng v.data.toList w.data.toList with e | e | e
  · have := rk_less h2 (v := v) (by omega); omega
  · exact absurd (bytes_ext (Ver.v_eq (hv.2 v h1) (hv.2 w h2) e)) hne
  · have a := Ver.ord_v.anti v.data.toList w.data.toList
    have := rk_less h1 (v := w) (by omega); omega
theorem bytes_beq (a b : ByteArray) : (a.toList == b.toList) = decide (a = b) := by
  by_cases h : a = b
  · subst h; simp
  · rw [decide_eq_false h]
    cases hb : (a.toList == b.toList)
    · rfl
    · exact absurd ((eqB_iff a b).1 hb) h
theorem rank_pkg {vs : List ByteArray} {v : ByteArray} (h : v ∈ vs) : rankF (pkgOf vs) v = ((rkN vs v : Nat) : Int) := by
  have h1 : (pkgOf vs).rels.any (hasV v) = true := by
    rw [List.any_eq_true]
    exact ⟨relOf v, List.mem_map.2 ⟨v, h, rfl⟩, by simp [hasV, eqB, relOf]⟩
  have h2 : (pkgOf vs).rels.countP (newB v) = rkN vs v := by
    show (vs.map relOf).countP (newB v) = _
    rw [List.countP_map]; rfl
  unfold rankF
  rw [if_pos h1, h2]
/-- nothing of the first i has the rank of the next. -/
theorem seen_no {vs : List ByteArray} (hv : Vs vs) {i : Nat} {v : ByteArray} (h : vs[i]? = some v) : (vs.take i).any (fun u => rkN vs u == rkN vs v) = false := by
  rw [List.any_eq_false]
  intro u hu
  have hm := List.mem_of_mem_take hu
  have hne : u ≠ v := by
    rintro rfl
    have hn := hv.1
    rw [← List.take_append_drop i vs] at hn
    have hd : u ∈ vs.drop i := by
      have hl : i < vs.length := by
        rcases Nat.lt_or_ge i vs.length with h' | h'
        · exact h'
        · rw [List.getElem?_eq_none h'] at h; cases h
      rw [List.drop_eq_getElem_cons hl]
      rw [List.getElem?_eq_getElem hl] at h
      rw [Option.some.inj h]
      exact List.mem_cons_self ..
    exact (List.nodup_append.1 hn).2.2 u hu u hd rfl
  simpa using rk_ne hv hm (List.mem_of_getElem? h) hne
/-! ### memory -/
def relsV : List ByteArray → List Value
  | [] => []
  | v :: l => .string v :: .bool false :: relsV l
theorem rels_app (a b : List ByteArray) : relsV (a ++ b) = relsV a ++ relsV b := by
  induction a with
  | nil => rfl
  | cons v a ih => simp [relsV, ih]
theorem rels_at : ∀ (l : List ByteArray) (j : Nat) (v : ByteArray), l[j]? = some v → (relsV l)[j * 2]? = some (.string v) ∧ (relsV l)[j * 2 + 1]? = some (.bool false)
  | [], j, v, h => by simp at h
  | x :: l, 0, v, h => by
    obtain rfl := Option.some.inj h
    exact ⟨rfl, rfl⟩
  | x :: l, j + 1, v, h => by
    have h' := rels_at l j v (by simpa using h)
    have e : (j + 1) * 2 = j * 2 + 1 + 1 := by omega
    rw [e]
    exact h'
theorem own_rows {α : Type} {w : World} {D : Dec α} {k n c base : Nat} {e : TypeId} {A : Option Addr} {l : List α} {xs : List Value} (h : w.ownsRow base e k (.slice A n c) n xs) (hn : n = l.length)
    (hx : ∀ j y, l[j]? = some y → ∃ vs : List Value, vs.length = k ∧ (∀ i, i < k → xs[j * k + i]? = vs[i]?) ∧ D w w.heap.size vs y) : Sl α k D w w.heap.size A n c l := by
  rcases h.2 with ⟨hv, h0⟩ | ⟨g, cap, cur, hv, hb, hh, hc, hm, -, -⟩
  · injection hv with hv1 hv2 hv3
    subst hv1 hv3
    exact ⟨hn, by omega, by unfold maxLen; omega, .inl (List.eq_nil_of_length_eq_zero (by omega))⟩
  · injection hv with hv1 hv2 hv3
    subst hv1 hv3
    refine ⟨hn, hc, hm, .inr ⟨g, 0, rfl, lt_of_block hh, fun j y hj => ?_⟩⟩
    obtain ⟨vs, h1, h2, h3⟩ := hx j y hj
    refine ⟨vs, h1, fun i hi => ?_, h3⟩
    have hjn : j < n := by
      rcases Nat.lt_or_ge j l.length with h' | h'
      · omega
      · rw [List.getElem?_eq_none h'] at hj; cases hj
    have hle : (j + 1) * k ≤ n * k := Nat.mul_le_mul_right k hjn
    rw [Nat.add_mul, Nat.one_mul] at hle
    rw [Nat.zero_add, h.cellAt (j * k + i) (by omega), h2 i hi]
def textsV (l : List ByteArray) : List Value := l.map Value.string
theorem own_rels {w : World} {base n c : Nat} {e : TypeId} {A : Option Addr} {vs : List ByteArray} (h : w.ownsRow base e 2 (.slice A n c) n (relsV vs)) (hn : n = vs.length) (hs : ∀ v ∈ vs, v.size ≤ maxLen) : Sl Rel 2 relD w w.heap.size A n c (vs.map relOf) := by
  refine own_rows h (by rw [List.length_map]; exact hn) fun j y hj => ?_
  rw [List.getElem?_map] at hj
  cases e0 : vs[j]? with
  | none => rw [e0] at hj; cases hj
  | some v =>
    rw [e0] at hj
    obtain rfl := Option.some.inj hj
    obtain ⟨h1, h2⟩ := rels_at vs j v e0
    refine ⟨[.string v, .bool false], rfl, fun i hi => ?_, rfl, ⟨rfl, hs v (List.mem_of_getElem? e0)⟩, rfl⟩
    match i, hi with
    | 0, _ => exact h1
    | 1, _ => exact h2
abbrev pkCells (A : Option Addr) (n c : Nat) : Array Value := #[.string ⟨#[]⟩, .int .i64 0, .slice A n c, .slice none 0 0, .slice none 0 0, .slice none 0 0, .slice none 0 0, .slice none 0 0]
theorem sl_nil {α : Type} {k : Nat} {D : Dec α} {w : World} {B : Nat} : Sl α k D w B none 0 0 [] := ⟨rfl, Nat.le_refl _, by unfold maxLen; omega, .inl rfl⟩
theorem pk_own {w : World} {base n c : Nat} {e : TypeId} {A : Option Addr} {vs : List ByteArray} (h : w.ownsRow base e 2 (.slice A n c) n (relsV vs)) (hn : n = vs.length) (hs : ∀ v ∈ vs, v.size ≤ maxLen) : pkD w w.heap.size (pkCells A n c).toList (pkgOf vs) := by
  have s := own_rels h hn hs
  have hz : ∀ {α : Type} {k : Nat} {D : Dec α}, sliceD k D w w.heap.size [.slice none 0 0] [] := ⟨none, 0, 0, rfl, rfl, Nat.le_refl _, by unfold maxLen; omega, .inl rfl⟩
  exact ⟨rfl, ⟨rfl, by show 0 ≤ maxLen; unfold maxLen; omega⟩, ⟨rfl, by show (-9223372036854775808 : Int) ≤ 0; omega, by show (0 : Int) ≤ 9223372036854775807; omega⟩, ⟨A, n, c, rfl, s.len, s.cap, s.max, s.row⟩, hz, hz, hz, hz, hz⟩
/-- the package, with the first releases. -/
structure NS (w : World) (l : List ByteArray) (A : Option Addr) (n c : Nat) (W : World) : Prop where
  box : W.heap[w.heap.size]? = some (.cells (pkCells A n c) 45 (0, 0))
  own : W.ownsRow (w.heap.size + 1) 55 2 (.slice A n c) n (relsV l)
  len : n = l.length
  below : Below w.heap.size w W
theorem NS.step {w W W' : World} {l : List ByteArray} {A : Option Addr} {n c : Nat} (h : NS w l A n c W) (hb : Below W.heap.size W W') : NS w l A n c W' :=
  ⟨(hb.block _ (lt_of_block h.box)).trans h.box, keep2 h.own hb, h.len, h.below.trans (hb.mono h.below.size)⟩
theorem NS.grow {w W w2 : World} {l : List ByteArray} {A : Option Addr} {n c g cap : Nat} {v : ByteArray} (h : NS w l A n c W) {o : Obj}
    (h2 : w2.ownsRow (w.heap.size + 1) 55 2 (.slice (some ⟨g, 0, none⟩) (n + 1) cap) (n + 1) (relsV l ++ [.string v, .bool false])) (hg : (W.alloc o).grownBy w2 (Value.slice A n c).ownBlock) :
    w2.heap[w.heap.size]? = some (.cells (pkCells A n c) 45 (0, 0)) ∧ NS w (l ++ [v]) (some ⟨g, 0, none⟩) (n + 1) cap (w2.setCell ⟨w.heap.size, 2, none⟩ (.slice (some ⟨g, 0, none⟩) (n + 1) cap)) := by
  have hb := lt_of_block h.box
  have h0 : w2.heap[w.heap.size]? = some (.cells (pkCells A n c) 45 (0, 0)) := by
    rw [hg.block _ (by simp; omega) (fun e => by have := (h.own.lt _ e.symm).1; omega), Below.heap_alloc _ _ _ hb]
    exact h.box
  refine ⟨h0, blk_set 2 _ h0, ?_, by rw [List.length_append, h.len]; rfl, ?_⟩
  · rw [rels_app]
    exact own_farN h2 _ _ _ (fun e => by have := (h2.lt _ e).1; omega)
  · have b2 := h.below.alloc h.below.size o
    exact (b2.grown hg b2.size (fun k hk => by have := (h.own.lt k hk).1; omega)).setCell (p := ⟨w.heap.size, 2, none⟩) (Nat.le_refl _) _
theorem own_none (w : World) (b : Nat) (e : TypeId) : w.ownsRow b e 2 (.slice none 0 0) 0 (relsV []) := ⟨rfl, .inl ⟨rfl, rfl⟩⟩
/-! ### contracts -/
theorem great_row {w : World} {B n c : Nat} {A : Option Addr} {l : List ByteArray} (h : Sl ByteArray 1 strD w B A n c l) :
    Calls Try.prog 20 #[.slice A n c] w fun e w' => e = .returned (.bool (Ver.greatB (l.map (fun s => s.data.toList)))) ∧ w = w' := by
  refine (Ver.great_any w (B := B) (A := A) (l := l.map (fun s => s.data.toList)) (fun i hi => ?_) n c (by rw [List.length_map]; exact h.len) (Nat.le_trans h.cap h.max) (fun i => ?_)).mono ?_
  · rw [List.length_map] at hi
    obtain ⟨s, b, o, t1, t2, t3, t4, t5⟩ := text_at h (show i < n by rw [h.len]; exact hi)
    refine ⟨⟨b, o, none⟩, t2, t3, ?_⟩
    rw [List.getD_eq_getElem?_getD, List.getElem?_map, t1, add_at]
    exact t4
  · rcases Nat.lt_or_ge i l.length with hi | hi
    · obtain ⟨s, b, o, t1, t2, t3, t4, t5⟩ := text_at h (show i < n by rw [h.len]; exact hi)
      rw [List.getD_eq_getElem?_getD, List.getElem?_map, t1]
      simpa using t5
    · rw [List.getD_eq_getElem?_getD, List.getElem?_eq_none (by rw [List.length_map]; exact hi)]
      simp
  · exact fun e w' h => h
theorem info_bool : (Try.prog.info? 4).map (fun i => (i.zero, i.size, i.bytes)) = some (some (.bool false), 1, 1) := by kernel_rfl
theorem info_rel : (Try.prog.info? 55).map (fun i => (i.zero, i.size, i.bytes)) = some (some (.agg #[.string ⟨#[]⟩, .bool false]), 2, 24) := by kernel_rfl
theorem make_flags (n : Nat) (hn : n ≤ 100000) (w : World) : (Instr.makeSlice 56 (.int .i64 n) (.int .i64 n)).run Try.prog w =
    .ok (.slice (some ⟨w.heap.size, 0, none⟩) n n) (w.alloc (.cells (madeCells #[.bool false] n) 4)) := by
  obtain ⟨i, hi, hz⟩ := Option.map_eq_some_iff.1 info_bool
  simp only [Prod.mk.injEq] at hz
  obtain ⟨h1, h2, h3⟩ := hz
  have h := run_make w 56 4 i _ Try.underlying56 hi h1 .i64 .i64 (n : Int) (n : Int) (by omega) (by omega) (by rw [h3]; omega) (by omega)
  rw [h2, Nat.mul_one] at h
  exact h

end Go.Proofs.Ytccmgaibikiedaa.Dc
