/- The law on parts of recipes and requests: the copy in memory. -/
import Derived.Test.YtccmgaibikiedaaDfD
namespace Go.Proofs.Ytccmgaibikiedaa.Dc
open Go.RowKit
set_option linter.unusedVariables false
set_option linter.unusedSimpArgs false
theorem heap_far (w : World) (q j k : Nat) (u : Value) (h : k ≠ q) : (w.setCell ⟨q, j, none⟩ u).heap[k]? = w.heap[k]? := Below.heap_setCell w ⟨q, j, none⟩ u k h
theorem own_far {w : World} {base : Nat} {e : TypeId} {size n : Nat} {v : Value} {xs : List Value} (h : w.ownsRow base e size v n xs) (q j : Nat) (u : Value) (hne : v.ownBlock ≠ some q) : (w.setCell ⟨q, j, none⟩ u).ownsRow base e size v n xs :=
  h.kept (row := some q) ⟨rfl, rfl, rfl, by simp, fun k _ hk => heap_far w q j k u (fun e => hk (by rw [e]))⟩ (.inr hne)
/-- the copy: its box, and its row. -/
structure Yst (v W : World) (yb g n cap : Nat) (a0 a1 : Value) (xs : List Value) : Prop where
  box : W.heap[yb]? = some (.cells #[a0, a1] 25 (0, 0))
  own : W.ownsRow (yb + 1) 45 8 (.slice (some ⟨g, 0, none⟩) n cap) n xs
  bel : Below yb v W
section
variable {v W : World} {yb g n cap : Nat} {a0 a1 u : Value} {xs : List Value}
theorem Yst.ne (h : Yst v W yb g n cap a0 a1 xs) : g ≠ yb := fun e => by
  have := (h.own.lt g rfl).1
  omega
theorem Yst.put0 (h : Yst v W yb g n cap a0 a1 xs) (u : Value) : Yst v (W.setCell ⟨yb, 0, none⟩ u) yb g n cap u a1 xs :=
  ⟨blk_set 0 _ h.box, own_far h.own _ _ _ (fun e => h.ne (Option.some.inj e)), h.bel.setCell (p := ⟨yb, 0, none⟩) (Nat.le_refl _) _⟩
theorem Yst.put1 (h : Yst v W yb g n cap a0 a1 xs) (u : Value) : Yst v (W.setCell ⟨yb, 1, none⟩ u) yb g n cap a0 u xs :=
  ⟨blk_set 1 _ h.box, own_far h.own _ _ _ (fun e => h.ne (Option.some.inj e)), h.bel.setCell (p := ⟨yb, 1, none⟩) (Nat.le_refl _) _⟩
theorem Yst.row (h : Yst v W yb g n cap a0 a1 xs) (j : Nat) (u : Value) : Yst v (W.setCell ⟨g, j, none⟩ u) yb g n cap a0 a1 (xs.set j u) :=
  ⟨(heap_far W g j yb u (fun e => h.ne e.symm)).trans h.box, (h.own.stored j u).1, h.bel.setCell (p := ⟨g, j, none⟩) (by have := (h.own.lt g rfl).1; show yb ≤ g; omega) _⟩
theorem Yst.drew (h : Yst v W yb g n cap a0 a1 xs) : Yst v W.drew yb g n cap a0 a1 xs := ⟨h.box, keep2 h.own (Below.refl _ _).drew, h.bel.drew⟩
theorem Yst.cells (h : Yst v W yb g n cap a0 a1 xs) : W.cell? ⟨yb, 0, none⟩ = some a0 ∧ W.cell? ⟨yb, 1, none⟩ = some a1 ∧ W.frozen? ⟨yb, 0, none⟩ = false ∧ W.frozen? ⟨yb, 1, none⟩ = false :=
  ⟨blk_cell (j := 0) h.box rfl, blk_cell (j := 1) h.box rfl, blk_free 0 h.box, blk_free 1 h.box⟩
theorem Yst.at (h : Yst v W yb g n cap a0 a1 xs) (hl : xs.length = n * 8) (j : Nat) (hj : j < n * 8) : (∃ z, W.cell? ⟨g, j, none⟩ = some z) ∧ W.frozen? ⟨g, j, none⟩ = false :=
  ⟨⟨xs[j]'(by omega), by rw [h.own.cellAt j hj, List.getElem?_eq_getElem (by omega)]⟩, h.own.frozenAt j⟩
end
theorem info_pk : (Try.prog.info? 45).map (fun i => (i.zero, i.size, i.bytes)) = some (some (.agg #[.string ⟨#[]⟩, .int .i64 0, .slice none 0 0, .slice none 0 0, .slice none 0 0, .slice none 0 0, .slice none 0 0, .slice none 0 0]), 8, 168) := by kernel_rfl
theorem info_rt : (Try.prog.info? 72).map (fun i => (i.zero, i.size, i.bytes)) = some (some (.agg #[.string ⟨#[]⟩, .slice none 0 0, .slice none 0 0, .int .i64 0]), 4, 72) := by kernel_rfl
theorem rc_of {w : World} {B : Nat} {x : Rc} {A1 A2 : Option Addr} {n1 c1 n2 c2 : Nat} (h1 : Sl Pk 8 pkD w B A1 n1 c1 x.packs) (h2 : Sl Pf 3 pfD w B A2 n2 c2 x.prefs) : rcD w B [.slice A1 n1 c1, .slice A2 n2 c2] x :=
  ⟨rfl, ⟨A1, n1, c1, rfl, h1.len, h1.cap, h1.max, h1.row⟩, ⟨A2, n2, c2, rfl, h2.len, h2.cap, h2.max, h2.row⟩⟩
set_option maxRecDepth 100000 in
theorem ne_prob (z z' : Nat) (l l' : Int) (w : World) : (binOp .neq 29 (probV z l) (probV z' l')).run Try.prog w = .ok (.bool (!((z : Int) == (z' : Int) && l == l'))) w := by
  have u3 := Try.underlying3
  have u8 := Try.underlying5
  have hS : Try.prog.underlying 29 = some (.struct (Try.prog.fieldsOf 29)) := by kernel_rfl
  have hp : Try.prog.stoodInHeld 29 = false := by kernel_rfl
  rw [run_neq_struct, show (10000 : Nat) = 9999 + 1 from rfl, run_equalIn_agg w 9999 29 _ _ hS hp]
  simp only [Program.fieldsOf, Try.underlying29]
  go_simp
  by_cases h0 : (z : Int) = (z' : Int) <;> by_cases h1 : l = l' <;> simp [h0, h1]
theorem ne_zero (w : World) : (binOp .neq 29 (.agg #[.int .u8 0, .int .i64 0]) (.agg #[.int .u8 0, .int .i64 0])).run Try.prog w = .ok (.bool false) w := ne_prob 0 0 0 0 w
theorem ne_some {z : Nat} {l : Int} (h : ¬ (z = 0 ∧ l = 0)) (w : World) : (binOp .neq 29 (probV z l) (.agg #[.int .u8 0, .int .i64 0])).run Try.prog w = .ok (.bool true) w := by
  refine (ne_prob z 0 l 0 w).trans ?_
  have e : ((z : Int) == ((0 : Nat) : Int) && l == 0) = false := by
    cases hb : ((z : Int) == ((0 : Nat) : Int) && l == 0) with
    | false => rfl
    | true =>
      simp only [Bool.and_eq_true, beq_iff_eq] at hb
      exact absurd ⟨by omega, hb.2⟩ h
  rw [e]
  rfl
theorem eq_zero (w : World) : (binOp .eql 29 (.agg #[.int .u8 0, .int .i64 0]) (.agg #[.int .u8 0, .int .i64 0])).run Try.prog w = .ok (.bool true) w := eq_prob_self 0 0 w

end Go.Proofs.Ytccmgaibikiedaa.Dc
