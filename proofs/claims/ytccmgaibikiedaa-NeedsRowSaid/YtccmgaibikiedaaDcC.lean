/- Recipes as arguments: the cells of each thing; what stands at a place of a row. -/
import Derived.Test.YtccmgaibikiedaaDcB
import Derived.Test.YtccmgaibikiedaaAppend1
namespace Go.Proofs.Ytccmgaibikiedaa.Dc
open Go.RowKit
set_option linter.unusedVariables false
set_option linter.unusedSimpArgs false
section
variable {w w' : World} {B B' : Nat} {cs : List Value}
/-- a slice's value, and its row. -/
structure Sl (α : Type) (k : Nat) (D : Dec α) (w : World) (B : Nat) (A : Option Addr) (n c : Nat) (l : List α) : Prop where
  len : n = l.length
  cap : n ≤ c
  max : c ≤ maxLen
  row : rowD k D w B A l
theorem Sl.below {α : Type} {k : Nat} {D : Dec α} {A : Option Addr} {n c : Nat} {l : List α} (h : Sl α k D w B A n c l) (hD : Stays D) (hB : B ≤ B') (hb : Below B w w') : Sl α k D w' B' A n c l := ⟨h.len, h.cap, h.max, rowD_below hD h.row hB hb⟩
theorem Sl.le {α : Type} {k : Nat} {D : Dec α} {A : Option Addr} {n c : Nat} {l : List α} (h : Sl α k D w B A n c l) : (n : Int) ≤ 9223372036854775807 := by
  have h1 := h.cap
  have h2 := h.max
  unfold maxLen at h2
  omega
theorem Sl.at {α : Type} {k : Nat} {D : Dec α} {A : Option Addr} {n c i : Nat} {l : List α} (h : Sl α k D w B A n c l) (hi : i < n) :
    ∃ y b o vs, l[i]? = some y ∧ A = some ⟨b, o, none⟩ ∧ b < B ∧ vs.length = k ∧ (∀ t, t < k → w.cell? ⟨b, o + i * k + t, none⟩ = vs[t]?) ∧ D w B vs y := by
  have hl : i < l.length := by rw [← h.len]; exact hi
  rcases h.row with h' | ⟨b, o, e, hb, hc⟩
  · rw [h'] at hl; simp at hl
  · obtain ⟨vs, h1, h2, h3⟩ := hc i _ (List.getElem?_eq_getElem hl)
    exact ⟨_, b, o, vs, List.getElem?_eq_getElem hl, e, hb, h1, h2, h3⟩
theorem slice_cells {α : Type} {k : Nat} {D : Dec α} {l : List α} (h : sliceD k D w B cs l) : ∃ A n c, cs = [.slice A n c] ∧ Sl α k D w B A n c l := by
  obtain ⟨A, n, c, h1, h2, h3, h4, h5⟩ := h
  exact ⟨A, n, c, h1, h2, h3, h4, h5⟩
theorem len2 (h : cs.length = 2) : ∃ a b, cs = [a, b] := by
  match cs, h with
  | [a, b], _ => exact ⟨a, b, rfl⟩
theorem len3 (h : cs.length = 3) : ∃ a b c, cs = [a, b, c] := by
  match cs, h with
  | [a, b, c], _ => exact ⟨a, b, c, rfl⟩
theorem len7 (h : cs.length = 7) : ∃ a b c d e f g, cs = [a, b, c, d, e, f, g] := by
  match cs, h with
  | [a, b, c, d, e, f, g], _ => exact ⟨a, b, c, d, e, f, g, rfl⟩
theorem len8 (h : cs.length = 8) : ∃ a b c d e f g k, cs = [a, b, c, d, e, f, g, k] := by
  match cs, h with
  | [a, b, c, d, e, f, g, k], _ => exact ⟨a, b, c, d, e, f, g, k, rfl⟩
theorem pr2_cells {x : Pr2} (h : pr2D w B cs x) : cs = [.string x.1, .string x.2] ∧ x.1.size ≤ maxLen ∧ x.2.size ≤ maxLen := by
  obtain ⟨h0, h1, h2⟩ := h
  obtain ⟨a, b, rfl⟩ := len2 h0
  simp only [fld, strD, List.drop_zero, List.drop_succ_cons, List.take_succ_cons, List.take_zero, List.cons.injEq, and_true] at h1 h2
  obtain ⟨rfl, h1⟩ := h1
  obtain ⟨rfl, h2⟩ := h2
  exact ⟨rfl, h1, h2⟩
theorem rel_cells {x : Rel} (h : relD w B cs x) : cs = [.string x.1, .bool x.2] ∧ x.1.size ≤ maxLen := by
  obtain ⟨h0, h1, h2⟩ := h
  obtain ⟨a, b, rfl⟩ := len2 h0
  simp only [fld, strD, boolD, List.drop_zero, List.drop_succ_cons, List.take_succ_cons, List.take_zero, List.cons.injEq, and_true] at h1 h2
  obtain ⟨rfl, h1⟩ := h1
  subst h2
  exact ⟨rfl, h1⟩
theorem vr_cells {x : Vr} (h : vrD w B cs x) : ∃ A n c, cs = [.string x.1, .slice A n c] ∧ x.1.size ≤ maxLen ∧ Sl ByteArray 1 strD w B A n c x.2 := by
  obtain ⟨h0, h1, h2⟩ := h
  obtain ⟨a, b, rfl⟩ := len2 h0
  obtain ⟨A, n, c, e, hs⟩ := slice_cells h2
  simp only [fld, strD, List.drop_zero, List.drop_succ_cons, List.take_succ_cons, List.take_zero, List.cons.injEq, and_true] at h1 e
  obtain ⟨rfl, h1⟩ := h1
  subst e
  exact ⟨A, n, c, rfl, h1, hs⟩
theorem sp_cells {x : Sp} (h : spD w B cs x) : ∃ A1 n1 c1 A2 n2 c2, cs = [.string x.name, .slice A1 n1 c1, .slice A2 n2 c2] ∧ x.name.size ≤ maxLen ∧ Sl Pr2 2 pr2D w B A1 n1 c1 x.spans ∧ Sl Pr2 2 pr2D w B A2 n2 c2 x.sets := by
  obtain ⟨h0, h1, h2, h3⟩ := h
  obtain ⟨a, b, c, rfl⟩ := len3 h0
  obtain ⟨A1, n1, c1, e1, hs1⟩ := slice_cells h2
  obtain ⟨A2, n2, c2, e2, hs2⟩ := slice_cells h3
  simp only [fld, strD, List.drop_zero, List.drop_succ_cons, List.take_succ_cons, List.take_zero, List.cons.injEq, and_true] at h1 e1 e2
  obtain ⟨rfl, h1⟩ := h1
  subst e1 e2
  exact ⟨A1, n1, c1, A2, n2, c2, rfl, h1, hs1, hs2⟩
theorem pf_cells {x : Pf} (h : pfD w B cs x) : ∃ A n c, cs = [.string x.virt, .slice A n c, .int .i64 x.line] ∧ x.virt.size ≤ maxLen ∧ Sl ByteArray 1 strD w B A n c x.names := by
  obtain ⟨h0, h1, h2, h3⟩ := h
  obtain ⟨a, b, c, rfl⟩ := len3 h0
  obtain ⟨A1, n1, c1, e1, hs1⟩ := slice_cells h2
  simp only [fld, strD, intD, List.drop_zero, List.drop_succ_cons, List.take_succ_cons, List.take_zero, List.cons.injEq, and_true] at h1 e1 h3
  obtain ⟨rfl, h1⟩ := h1
  obtain ⟨rfl, _⟩ := h3
  subst e1
  exact ⟨A1, n1, c1, rfl, h1, hs1⟩
theorem dep_cells {x : Dep} (h : depD w B cs x) : ∃ c1 c2, cs = c1 ++ (c2 ++ [.int .i64 x.line]) ∧ spD w B c1 x.on ∧ spD w B c2 x.cond := by
  obtain ⟨h0, h1, h2, h3⟩ := h
  obtain ⟨a, b, c, d, e, f, g, rfl⟩ := len7 h0
  simp only [fld, intD, List.drop_zero, List.drop_succ_cons, List.take_succ_cons, List.take_zero, List.cons.injEq, and_true] at h1 h2 h3
  obtain ⟨rfl, _⟩ := h3
  exact ⟨_, _, rfl, h1, h2⟩
theorem rc_cells {x : Rc} (h : rcD w B cs x) : ∃ A1 n1 c1 A2 n2 c2, cs = [.slice A1 n1 c1, .slice A2 n2 c2] ∧ Sl Pk 8 pkD w B A1 n1 c1 x.packs ∧ Sl Pf 3 pfD w B A2 n2 c2 x.prefs := by
  obtain ⟨h0, h1, h2⟩ := h
  obtain ⟨a, b, rfl⟩ := len2 h0
  obtain ⟨A1, n1, c1, e1, hs1⟩ := slice_cells h1
  obtain ⟨A2, n2, c2, e2, hs2⟩ := slice_cells h2
  simp only [List.drop_zero, List.drop_succ_cons, List.take_succ_cons, List.take_zero, List.cons.injEq, and_true] at e1 e2
  subst e1 e2
  exact ⟨A1, n1, c1, A2, n2, c2, rfl, hs1, hs2⟩
/-- a package's cells. -/
structure PkC (w : World) (B : Nat) (x : Pk) (Ar : Option Addr) (nr cr : Nat) (Av : Option Addr) (nv cv : Nat) (Ap : Option Addr) (np cp : Nat) (Ad : Option Addr) (nd cd : Nat) (Ac : Option Addr) (nc cc : Nat) (Af : Option Addr) (nf cf : Nat) : Prop where
  name : x.name.size ≤ maxLen
  rels : Sl Rel 2 relD w B Ar nr cr x.rels
  vars : Sl Vr 2 vrD w B Av nv cv x.vars
  provs : Sl ByteArray 1 strD w B Ap np cp x.provs
  deps : Sl Dep 7 depD w B Ad nd cd x.deps
  confs : Sl Dep 7 depD w B Ac nc cc x.confs
  files : Sl ByteArray 1 strD w B Af nf cf x.files
theorem pk_cells {x : Pk} (h : pkD w B cs x) : ∃ Ar nr cr Av nv cv Ap np cp Ad nd cd Ac nc cc Af nf cf,
    cs = [.string x.name, .int .i64 x.line, .slice Ar nr cr, .slice Av nv cv, .slice Ap np cp, .slice Ad nd cd, .slice Ac nc cc, .slice Af nf cf] ∧ PkC w B x Ar nr cr Av nv cv Ap np cp Ad nd cd Ac nc cc Af nf cf := by
  obtain ⟨h0, h1, h2, h3, h4, h5, h6, h7, h8⟩ := h
  obtain ⟨a, b, c, d, e, f, g, k, rfl⟩ := len8 h0
  obtain ⟨A3, n3, c3, e3, hs3⟩ := slice_cells h3
  obtain ⟨A4, n4, c4, e4, hs4⟩ := slice_cells h4
  obtain ⟨A5, n5, c5, e5, hs5⟩ := slice_cells h5
  obtain ⟨A6, n6, c6, e6, hs6⟩ := slice_cells h6
  obtain ⟨A7, n7, c7, e7, hs7⟩ := slice_cells h7
  obtain ⟨A8, n8, c8, e8, hs8⟩ := slice_cells h8
  simp only [fld, strD, intD, List.drop_zero, List.drop_succ_cons, List.take_succ_cons, List.take_zero, List.cons.injEq, and_true] at h1 h2 e3 e4 e5 e6 e7 e8
  obtain ⟨rfl, h1⟩ := h1
  obtain ⟨rfl, _⟩ := h2
  subst e3 e4 e5 e6 e7 e8
  exact ⟨A3, n3, c3, A4, n4, c4, A5, n5, c5, A6, n6, c6, A7, n7, c7, A8, n8, c8, rfl, h1, hs3, hs4, hs5, hs6, hs7, hs8⟩
/-- a text at a place. -/
theorem text_at {A : Option Addr} {n c i : Nat} {l : List ByteArray} (h : Sl ByteArray 1 strD w B A n c l) (hi : i < n) : ∃ s b o, l[i]? = some s ∧ A = some ⟨b, o, none⟩ ∧ b < B ∧ w.cell? ⟨b, o + i, none⟩ = some (.string s) ∧ s.size ≤ maxLen := by
  obtain ⟨y, b, o, vs, h1, h2, h3, h4, h5, rfl, h7⟩ := h.at hi
  refine ⟨y, b, o, h1, h2, h3, ?_, h7⟩
  have := h5 0 (by decide)
  rw [Nat.mul_one] at this
  exact this
theorem pr2_at {A : Option Addr} {n c i : Nat} {l : List Pr2} (h : Sl Pr2 2 pr2D w B A n c l) (hi : i < n) : ∃ s b o, l[i]? = some s ∧ A = some ⟨b, o, none⟩ ∧ b < B ∧ w.cell? ⟨b, o + i * 2, none⟩ = some (.string s.1) ∧ w.cell? ⟨b, o + i * 2 + 1, none⟩ = some (.string s.2) ∧ s.1.size ≤ maxLen ∧ s.2.size ≤ maxLen := by
  obtain ⟨y, b, o, vs, h1, h2, h3, h4, h5, h6⟩ := h.at hi
  obtain ⟨rfl, z1, z2⟩ := pr2_cells h6
  exact ⟨y, b, o, h1, h2, h3, h5 0 (by decide), h5 1 (by decide), z1, z2⟩
theorem rel_at {A : Option Addr} {n c i : Nat} {l : List Rel} (h : Sl Rel 2 relD w B A n c l) (hi : i < n) : ∃ s b o, l[i]? = some s ∧ A = some ⟨b, o, none⟩ ∧ b < B ∧ w.cell? ⟨b, o + i * 2, none⟩ = some (.string s.1) ∧ w.cell? ⟨b, o + i * 2 + 1, none⟩ = some (.bool s.2) ∧ s.1.size ≤ maxLen := by
  obtain ⟨y, b, o, vs, h1, h2, h3, h4, h5, h6⟩ := h.at hi
  obtain ⟨rfl, z1⟩ := rel_cells h6
  exact ⟨y, b, o, h1, h2, h3, h5 0 (by decide), h5 1 (by decide), z1⟩
theorem vr_at {A : Option Addr} {n c i : Nat} {l : List Vr} (h : Sl Vr 2 vrD w B A n c l) (hi : i < n) : ∃ s b o A' n' c', l[i]? = some s ∧ A = some ⟨b, o, none⟩ ∧ b < B ∧ w.cell? ⟨b, o + i * 2, none⟩ = some (.string s.1) ∧ w.cell? ⟨b, o + i * 2 + 1, none⟩ = some (.slice A' n' c') ∧ s.1.size ≤ maxLen ∧ Sl ByteArray 1 strD w B A' n' c' s.2 := by
  obtain ⟨y, b, o, vs, h1, h2, h3, h4, h5, h6⟩ := h.at hi
  obtain ⟨A', n', c', rfl, z1, z2⟩ := vr_cells h6
  exact ⟨y, b, o, A', n', c', h1, h2, h3, h5 0 (by decide), h5 1 (by decide), z1, z2⟩
theorem pf_at {A : Option Addr} {n c i : Nat} {l : List Pf} (h : Sl Pf 3 pfD w B A n c l) (hi : i < n) : ∃ s b o A' n' c', l[i]? = some s ∧ A = some ⟨b, o, none⟩ ∧ b < B ∧ w.cell? ⟨b, o + i * 3, none⟩ = some (.string s.virt) ∧ w.cell? ⟨b, o + i * 3 + 1, none⟩ = some (.slice A' n' c') ∧ w.cell? ⟨b, o + i * 3 + 2, none⟩ = some (.int .i64 s.line) ∧ s.virt.size ≤ maxLen ∧ Sl ByteArray 1 strD w B A' n' c' s.names := by
  obtain ⟨y, b, o, vs, h1, h2, h3, h4, h5, h6⟩ := h.at hi
  obtain ⟨A', n', c', rfl, z1, z2⟩ := pf_cells h6
  exact ⟨y, b, o, A', n', c', h1, h2, h3, h5 0 (by decide), h5 1 (by decide), h5 2 (by decide), z1, z2⟩
end
/-! ### rows gone through till one is met -/
section
variable {α : Type} {l : List α} {f : α → Bool} {i n : Nat} {y : α}
theorem any_hit (h : l[i]? = some y) (hy : f y = true) : l.any f = true := List.any_eq_true.2 ⟨y, List.mem_of_getElem? h, hy⟩
theorem take_next (h : l[i]? = some y) : l.take (i + 1) = l.take i ++ [y] := by
  rw [List.take_add_one, h]; rfl
theorem any_next (h : l[i]? = some y) (hp : (l.take i).any f = false) (hy : f y = false) : (l.take (i + 1)).any f = false := by
  rw [take_next h, List.any_append, hp]
  simp [hy]
theorem take_all (hn : n = l.length) : l.take n = l := List.take_of_length_le (by omega)
end

end Go.Proofs.Ytccmgaibikiedaa.Dc
