/- What may be needed: the numbers that have been seen. -/
import Derived.Test.YtccmgaibikiedaaNdA
import Derived.Maps.OwnOps
import Derived.Maps.OwnSet
import Derived.Maps.Views
import Derived.Deep.AppendLies
import Derived.Lib.SlKeysI
namespace Go.Proofs.Ytccmgaibikiedaa.Dc
open Go.RowKit Go.Maps
set_option linter.unusedVariables false
set_option linter.unusedSimpArgs false
def addT (L : List Int) (t : Int) : List Int := if t ∈ L then L else L ++ [t]
def addAll (L T : List Int) : List Int := T.foldl addT L
def seeF (x : Rc) (L : List Int) (nm : ByteArray) : List Int := addAll L (tgtF x nm)
theorem addAll_next {L T : List Int} {i : Nat} {t : Int} (h : T[i]? = some t) : addAll L (T.take (i + 1)) = addT (addAll L (T.take i)) t := by
  unfold addAll; rw [take_next h, List.foldl_append]; rfl
/-- numbers of a recipe's packages, each once. -/
def InR (n : Nat) (L : List Int) : Prop := L.Nodup ∧ ∀ z ∈ L, 0 ≤ z ∧ z < n
theorem nodup_bound : ∀ (n : Nat) (L : List Int), InR n L → L.length ≤ n
  | 0, [], _ => Nat.le_refl _
  | 0, z :: L, h => by have := h.2 z (List.mem_cons_self ..); omega
  | n + 1, L, h => by
    by_cases hm : (n : Int) ∈ L
    · have h1 := nodup_bound n (L.erase n) ⟨h.1.erase _, fun z hz => by
        have h2 := h.2 z (List.mem_of_mem_erase hz)
        have h3 : z ≠ n := fun e => by subst e; exact h.1.not_mem_erase hz
        omega⟩
      rw [List.length_erase_of_mem hm] at h1
      omega
    · have h1 := nodup_bound n L ⟨h.1, fun z hz => by
        have h2 := h.2 z hz
        have h3 : z ≠ n := fun e => hm (e ▸ hz)
        omega⟩
      omega
theorem InR.add {n : Nat} {L : List Int} {t : Int} (h : InR n L) (h0 : 0 ≤ t) (h1 : t < n) : InR n (addT L t) := by
  unfold addT
  by_cases hm : t ∈ L
  · rw [if_pos hm]; exact h
  · rw [if_neg hm]
    refine ⟨List.nodup_append.2 ⟨h.1, by simp, fun a ha b hb => by rw [List.mem_singleton] at hb; rintro rfl; exact hm (hb ▸ ha)⟩, fun z hz => ?_⟩
    rw [List.mem_append, List.mem_singleton] at hz
    rcases hz with hz | rfl
    · exact h.2 z hz
    · exact ⟨h0, h1⟩
theorem InR.all {n : Nat} : ∀ {T L : List Int}, InR n L → (∀ z ∈ T, 0 ≤ z ∧ z < n) → InR n (addAll L T)
  | [], _, h, _ => h
  | t :: T, L, h, ht => InR.all (T := T) (L := addT L t) (h.add (ht t (List.mem_cons_self ..)).1 (ht t (List.mem_cons_self ..)).2) (fun z hz => ht z (List.mem_cons_of_mem _ hz))
theorem InR.see {x : Rc} {L : List Int} (h : InR x.packs.length L) (nm : ByteArray) : InR x.packs.length (seeF x L nm) := h.all fun z hz => tgt_mem hz
def tyI : TypeId := 97
/-- what the call keeps: boxes, the map of what was seen, the row. -/
structure St (w : World) (RC RQ : Array Value) (L : List Int) (A : Option Addr) (n c : Nat) (W : World) : Prop where
  bx : W.heap[w.heap.size]? = some (.cells RC 25 (0, 0))
  bq : W.heap[w.heap.size + 1]? = some (.cells RQ 37 (0, 0))
  bm : W.heap[w.heap.size + 1 + 1 + 1]? = some (.cells #[.map (some (w.heap.size + 1 + 1))] 97 (0, 0))
  mp : ∃ D : DataW Unit, W.ownsMap Try.prog 3 (plainElem Try.prog 3) (w.heap.size + 1 + 1) L.length D ∧ ∀ z : Int, Maps.has D (.int .i64 z) = decide (z ∈ L)
  br : W.heap[w.heap.size + 1 + 1 + 1 + 1]? = some (.cells #[.slice A n c] 31 (0, 0))
  rw : W.ownsRow (w.heap.size + 1 + 1 + 1 + 1 + 1) 3 1 (.slice A n c) n (intsV L)
  len : n = L.length
  below : Below w.heap.size w W
theorem own_below {w w' : World} {P : Program} {k : TypeId} {R : Value → Option (DataW Unit × List MemPlace)} {b n : Nat} {D : DataW Unit} (h : w.ownsMap P k R b n D) (hb : Below w.heap.size w w') : w'.ownsMap P k R b n D :=
  h.kept (row := none) ⟨hb.os, hb.tape, hb.output, hb.size, fun k hk _ => hb.block k (by omega)⟩ (by simp)
theorem St.step {w W W' : World} {RC RQ : Array Value} {L : List Int} {A : Option Addr} {n c : Nat} (h : St w RC RQ L A n c W) (hb : Below W.heap.size W W') : St w RC RQ L A n c W' := by
  obtain ⟨D, h1, h2⟩ := h.mp
  exact ⟨(hb.block _ (lt_of_block h.bx)).trans h.bx, (hb.block _ (lt_of_block h.bq)).trans h.bq, (hb.block _ (lt_of_block h.bm)).trans h.bm, ⟨D, own_below h1 hb, h2⟩,
    (hb.block _ (lt_of_block h.br)).trans h.br, keep2 h.rw hb, h.len, h.below.trans (hb.mono h.below.size)⟩
theorem has_new {D : DataW Unit} {L : List Int} {t : Int} {d : DataW Unit} (hD : IsMap D) (h : ∀ z : Int, Maps.has D (.int .i64 z) = decide (z ∈ L)) : ∀ z : Int, Maps.has (D.put (.int .i64 t) d) (.int .i64 z) = decide (z ∈ L ++ [t]) := fun z => by
  by_cases e : z = t
  · subst e
    rw [has_put_same hD (show WideAt.IsKeyLit (.int .i64 z) from trivial)]
    simp
  · rw [has_put_other (fun e' => e (by injection e')), h z]
    simp [e]

end Go.Proofs.Ytccmgaibikiedaa.Dc
