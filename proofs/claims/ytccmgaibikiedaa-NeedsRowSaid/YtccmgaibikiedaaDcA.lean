/- What is read of a call's arguments, whatever they hold: rows of rows of structs: what lies in cells, opened once for every shape. -/
import Derived.Test.YtccmgaibikiedaaProg
import Derived.WalkKit
import Derived.Lib.SmallJoins
import Derived.ProofKit
import Derived.OpenShut
import Derived.Deep.Slices
import Derived.Deep.Strs
import Derived.ChangeMaps5
namespace Go.Proofs.Ytccmgaibikiedaa.Dc
open Go.ChangeShapes Go.WideShapes Go.ChangeAt Go.RowKit Go.ChangeMaps
set_option linter.unusedVariables false
set_option linter.unusedSimpArgs false

theorem add_at (b o k : Nat) : (⟨b, o, none⟩ : Addr).add k = ⟨b, o + k, none⟩ := by
  unfold Addr.add
  split
  · rename_i e; subst e; rfl
  · rfl
/-- cells that say a datum, in a world, what they lead to lying below a number. -/
abbrev Dec (α : Type) := World → Nat → List Value → α → Prop
section
variable {α β : Type}
def strD : Dec ByteArray := fun _ _ cs s => cs = [.string s] ∧ s.size ≤ maxLen
def intD : Dec Int := fun _ _ cs n => cs = [.int .i64 n] ∧ -9223372036854775808 ≤ n ∧ n ≤ 9223372036854775807
def boolD : Dec Bool := fun _ _ cs b => cs = [.bool b]
/-- a row of elements of k cells. -/
def rowD (k : Nat) (D : Dec α) (w : World) (B : Nat) (A : Option Addr) (l : List α) : Prop :=
  l = [] ∨ ∃ b o, A = some ⟨b, o, none⟩ ∧ b < B ∧ ∀ j y, l[j]? = some y → ∃ vs : List Value, vs.length = k ∧ (∀ i, i < k → w.cell? ⟨b, o + j * k + i, none⟩ = vs[i]?) ∧ D w B vs y
def sliceD (k : Nat) (D : Dec α) : Dec (List α) := fun w B cs l => ∃ A n c, cs = [.slice A n c] ∧ n = l.length ∧ n ≤ c ∧ c ≤ maxLen ∧ rowD k D w B A l
/-- a field: k cells from a place on. -/
def fld (o k : Nat) (D : Dec β) : Dec β := fun w B cs y => D w B ((cs.drop o).take k) y
def Stays (D : Dec α) : Prop := ∀ (w w' : World) (B B' : Nat) cs y, D w B cs y → B ≤ B' → Below B w w' → D w' B' cs y
theorem strD_stays : Stays strD := fun _ _ _ _ _ _ h _ _ => h
theorem intD_stays : Stays intD := fun _ _ _ _ _ _ h _ _ => h
theorem boolD_stays : Stays boolD := fun _ _ _ _ _ _ h _ _ => h
theorem rowD_below {k : Nat} {D : Dec α} (hD : Stays D) {w w' : World} {B B' : Nat} {A : Option Addr} {l : List α} (h : rowD k D w B A l) (hB : B ≤ B') (hb : Below B w w') : rowD k D w' B' A l := by
  rcases h with h | ⟨b, o, e, hlt, hc⟩
  · exact .inl h
  · refine .inr ⟨b, o, e, by omega, fun j y hj => ?_⟩
    obtain ⟨vs, h1, h2, h3⟩ := hc j y hj
    exact ⟨vs, h1, fun i hi => (hb.cell (p := ⟨b, o + j * k + i, none⟩) hlt).trans (h2 i hi), hD _ _ _ _ _ _ h3 hB hb⟩
theorem sliceD_stays {k : Nat} {D : Dec α} (hD : Stays D) : Stays (sliceD k D) := fun w w' B B' cs l ⟨A, n, c, h1, h2, h3, h4, h5⟩ hB hb => ⟨A, n, c, h1, h2, h3, h4, rowD_below hD h5 hB hb⟩
theorem fld_stays {o k : Nat} {D : Dec α} (hD : Stays D) : Stays (fld o k D) := fun w w' B B' cs y h hB hb => hD _ _ _ _ _ _ h hB hb
theorem one_at {cs : List Value} {o : Nat} {v : Value} (h : (cs.drop o).take 1 = [v]) : cs[o]? = some v := by
  have h1 : ((cs.drop o).take 1)[0]? = some v := by rw [h]; rfl
  rw [List.getElem?_take_of_lt (by decide), List.getElem?_drop] at h1
  exact h1
end

section
variable {α β H : Type} {enc : TypeId × Value → H} {W : World}
def Opens (enc : TypeId × Value → H) (W : World) (t : TypeId) (D : Dec α) : Prop := ∀ (fuel : Nat) (cs : List Value) (x : DataW H × List MemPlace), DataW.trod enc Try.prog W 0 (fun _ => true) true fuel t cs = some x → ∃ y, D W W.heap.size cs y
theorem opens_string {t : TypeId} (ht : Try.prog.underlying t = some .string) : Opens enc W t strD := fun fuel cs x h => by
  obtain ⟨s, e, _, z⟩ := DataW.trod_string ht h
  exact ⟨s, e, z⟩
theorem opens_int {t : TypeId} (ht : Try.prog.underlying t = some (.int .i64)) : Opens enc W t intD := fun fuel cs x h => by
  obtain ⟨n, e, _, z⟩ := DataW.trod_int ht h
  simp [Lit.wf, IntKind.min, IntKind.max, IntKind.signed, IntKind.bits] at z
  exact ⟨n, e, by omega, by omega⟩
theorem opens_bool {t : TypeId} (ht : Try.prog.underlying t = some .bool) : Opens enc W t boolD := fun fuel cs x h => by
  obtain ⟨b, e, _⟩ := DataW.trod_bool ht h
  exact ⟨b, e⟩
theorem opens_slice {t e : TypeId} {k : Nat} {D : Dec α} (ht : Try.prog.underlying t = some (.slice e)) (hk : Try.prog.cellsOf e = k) (hk0 : 0 < k) (hD : Opens enc W e D) : Opens enc W t (sliceD k D) := fun fuel cs x h => by
  rcases Go.Deep.open_slice ht h with ⟨hcs, _⟩ | ⟨a, len, cap, m, n, DD, Pl, hcs, _, hl, hm, hmm, _, hi⟩
  · exact ⟨[], none, 0, 0, hcs, rfl, Nat.le_refl _, Nat.zero_le _, .inl rfl⟩
  · have hlm : len ≤ m := by rw [hmm]; split <;> omega
    rw [hk] at hi
    rcases Nat.eq_zero_or_pos len with h0 | h0
    · exact ⟨[], some a, len, cap, hcs, by simpa using h0, hl, hm, .inl rfl⟩
    · have hx : ∀ i, i < len → ∃ y : α × List Value, y.2.length = k ∧ (∀ j, j < k → W.cell? ((a.add (i * k)).add j) = y.2[j]?) ∧ D W W.heap.size y.2 y.1 := fun i hil => by
        obtain ⟨ds, hc, ht⟩ := hi i (by omega)
        obtain ⟨y, hy⟩ := hD _ _ _ ht
        obtain ⟨_, hlen, hat⟩ := World.cells?_some hc
        exact ⟨(y, ds), hlen, fun j hj => hat j hj, hy⟩
      obtain ⟨y0, -, c00, -⟩ := hx 0 h0
      haveI : Inhabited (α × List Value) := ⟨y0⟩
      obtain ⟨f, hf⟩ := Go.Deep.choose_lt hx
      obtain ⟨b, o, s⟩ := a
      obtain ⟨v, hv⟩ : ∃ v, W.cell? (((⟨b, o, s⟩ : Addr).add (0 * k)).add 0) = some v := ⟨_, ((hf 0 h0).2.1 0 hk0).trans (List.getElem?_eq_getElem (by rw [(hf 0 h0).1]; exact hk0))⟩
      have spot : s = none := by simpa [Addr.add] using World.cell?_spot hv
      subst spot
      refine ⟨(List.range len).map fun i => (f i).1, some ⟨b, o, none⟩, len, cap, hcs, by simp, hl, hm, .inr ⟨b, o, rfl, ?_, fun j y hj => ?_⟩⟩
      · rw [add_at, add_at] at hv
        exact World.block_lt_of_cell? W ⟨b, _, none⟩ hv
      · have hjl : j < len := by
          rcases Nat.lt_or_ge j len with h | h
          · exact h
          · rw [List.getElem?_eq_none (by simpa using h)] at hj; cases hj
        rw [List.getElem?_map, List.getElem?_range hjl] at hj
        simp only [Option.map_some, Option.some.injEq] at hj
        obtain ⟨h1, h2, h3⟩ := hf j hjl
        refine ⟨(f j).2, h1, fun i hi => ?_, by rw [← hj]; exact h3⟩
        rw [← h2 i hi, add_at, add_at]
/-- a struct's field. -/
theorem opens_field {t : TypeId} {fs : Array Field} {fuel : Nat} {cs : List Value} {x : DataW H × List MemPlace} (ht : Try.prog.underlying t = some (.struct fs)) (h : DataW.trod enc Try.prog W 0 (fun _ => true) true fuel t cs = some x) (i : Nat) {f : Field} (hf : fs[i]? = some f) {o k : Nat} {D : Dec α} (ho : f.offset = o) (hk : Try.prog.cellsOf f.type = k) (hD : Opens enc W f.type D) :
    ∃ y, fld o k D W W.heap.size cs y := by
  obtain ⟨xs, n, _, _, hl, hlen, hx⟩ := DataW.trod_struct ht h
  have h1 := hx i f hf
  have hi : i < fs.size := by
    rcases Nat.lt_or_ge i fs.size with h | h
    · exact h
    · rw [Array.getElem?_eq_none h] at hf; cases hf
  rw [List.getElem?_eq_getElem (by rw [hlen]; exact hi), ho, hk] at h1
  exact hD _ _ _ h1
theorem struct_len {t : TypeId} {fs : Array Field} {fuel : Nat} {cs : List Value} {x : DataW H × List MemPlace} (ht : Try.prog.underlying t = some (.struct fs)) (h : DataW.trod enc Try.prog W 0 (fun _ => true) true fuel t cs = some x) : cs.length = Try.prog.cellsOf t := by
  obtain ⟨xs, n, _, _, hl, _⟩ := DataW.trod_struct ht h
  exact hl
end

end Go.Proofs.Ytccmgaibikiedaa.Dc
