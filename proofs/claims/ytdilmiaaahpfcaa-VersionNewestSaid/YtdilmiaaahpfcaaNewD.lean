/- Newest: the law for any row; a row of texts as an argument. -/
import Derived.Test.YtdilmiaaahpfcaaNewC
import Derived.Lib.SmallJoins
import Derived.ProofKit
import Derived.OpenShut
import Derived.Deep.Slices
import Derived.Deep.Strs
import Derived.ChangeMaps5
namespace Go.Proofs.Ytdilmiaaahpfcaa.Newest
set_option linter.unusedVariables false
set_option linter.unusedSimpArgs false
open Go.RowKit Go.Shelf
open Go.ChangeShapes Go.WideShapes Go.ChangeAt Go.ChangeMaps
open Go.Proofs.Ytdilmiaaahpfcaa.Ver (cmpV ord_v Ord Bs Row str bstep compare_any less_any fixed_any same_any great_any greatB small_of)
open Go.Proofs.Ytdilmiaaahpfcaa.Stab

set_option maxHeartbeats 2000000 in
theorem law_great (A : Option Addr) (l : List ByteArray) (n c : Nat) (w0 : World) (gb : Bool) (hgb : gb = true ∨ (200 < (n : Int) ∧ (n : Int) ≤ 9223372036854775807))
    (G : Calls Try.prog 12 #[.slice A n c] w0 fun e w' => e = .returned (.bool gb) ∧ w0 = w') :
    Calls Try.prog 5 #[.slice A n c] w0 fun e w' => e = .returned (.bool true) ∧ Below w0.heap.size w0 w' := by
  have GA := Lib.hid G
  have FX := Lib.hid fixed_any
  clear G
  cases gb with
  | true =>
    clear hgb
    go_enter Try.func5, Try.ntmps5
    go_wp2_with fail
    go_at_call 12; refine GA.out.mono ?_; rintro e w' ⟨rfl, rfl⟩
    go_wp2_with fail
    go_at_call 6; refine (FX.out w0).mono ?_; rintro e w1 ⟨rfl, hb⟩
    have HB := Lib.hid hb
    clear hb
    go_wp2_with fail
    go_ret
    exact ⟨rfl, HB.out⟩
  | false =>
    have z1 : 200 < (n : Int) := by rcases hgb with h | h; cases h; exact h.1
    have z2 : (n : Int) ≤ 9223372036854775807 := by rcases hgb with h | h; cases h; exact h.2
    clear hgb
    go_enter Try.func5, Try.ntmps5
    go_wp2_with fail
    go_at_call 12; refine GA.out.mono ?_; rintro e w' ⟨rfl, rfl⟩
    go_wp2_with fail
    go_at_call 6; refine (FX.out w0).mono ?_; rintro e w1 ⟨rfl, hb⟩
    have HB := Lib.hid hb
    clear hb
    go_wp2_with fail
    go_ret
    exact ⟨rfl, HB.out⟩

theorem law_newest (A : Option Addr) (l : List ByteArray) (n c : Nat) (w : World) (h : SRow w w.heap.size A l) (hn : n = l.length) (hc : n ≤ c) (hm : c ≤ maxLen) (hz : ∀ i, (l.getD i ByteArray.empty).size ≤ maxLen) :
    Calls Try.prog 5 #[.slice A n c] w fun e w' => e = .returned (.bool true) ∧ Below w.heap.size w w' := by
  have hz' : ∀ s ∈ l, s.size ≤ maxLen := fun s hs => by
    obtain ⟨i, hi, rfl⟩ := List.getElem_of_mem hs
    have := hz i
    rwa [List.getD_eq_getElem?_getD, List.getElem?_eq_getElem hi] at this
  have G := great_any w h.row n c (by rw [hn]; simp) (by omega) (fun i => by
    rcases Nat.lt_or_ge i l.length with hi | hi
    · have := hz i
      simp [List.getD_eq_getElem?_getD, hi] at this ⊢; exact this
    · simp [List.getD_eq_getElem?_getD, hi])
  unfold maxLen at hm
  cases hg : greatB (bsL l) with
  | true =>
    rw [hg] at G
    exact law_great A l n c w true (.inl rfl) G
  | false =>
    rcases Nat.lt_or_ge 200 n with h2 | h2
    · rw [hg] at G
      exact law_great A l n c w false (.inr (by omega)) G
    · exact law_small A l n c w h hn hc h2 hz' hg

theorem cells_string : Try.prog.cellsOf 9 = 1 := by kernel_rfl
section
variable {H : Type} {enc : TypeId × Value → H} {W : World}

set_option maxRecDepth 100000 in
theorem srow_of {cs : List Value} {fuel : Nat} {x : DataW H × List MemPlace} (hf : DataW.trod enc Try.prog W 0 (fun _ => true) true fuel 23 cs = some x) :
    ∃ (A : Option Addr) (n c : Nat) (l : List ByteArray), cs = [.slice A n c] ∧ n = l.length ∧ n ≤ c ∧ c ≤ maxLen ∧ SRow W W.heap.size A l ∧ ∀ i, (l.getD i ByteArray.empty).size ≤ maxLen := by
  rcases Go.Deep.open_slice1 Try.underlying23 cells_string hf with ⟨hcs, _⟩ | ⟨a, len, cap, m, n, V, D, Pl, hcs, _, hl, hm, hmm, _, hi⟩
  · exact ⟨none, 0, 0, [], hcs, rfl, Nat.le_refl _, Nat.zero_le _, .inl rfl, fun i => by simp⟩
  · simp at hmm
    obtain ⟨f, hfs⟩ := Go.Deep.choose_lt (α := ByteArray) (n := len) (p := fun i s => W.cell? (a.add i) = some (.string s) ∧ s.size ≤ maxLen) (fun i him => by
      obtain ⟨h1, h2⟩ := hi i (by omega)
      obtain ⟨s, e, _, z⟩ := DataW.trod_string Try.underlying9 h2
      simp only [List.cons.injEq, and_true] at e
      exact ⟨s, by rw [h1, e], z⟩)
    refine ⟨some a, len, cap, (List.range len).map f, hcs, by simp, hl, hm, ?_, fun i => ?_⟩
    · rcases Nat.eq_zero_or_pos len with h0 | h0
      · exact .inl (by rw [h0]; rfl)
      · have spot : a.spot = none := by
          have c0 := (hfs 0 h0).1
          simpa [Addr.add] using World.cell?_spot c0
        obtain ⟨b, o, s⟩ := a
        simp at spot
        subst spot
        refine .inr ⟨b, o, rfl, ?_, fun j hj => ?_⟩
        · have c0 := (hfs 0 h0).1
          rw [add_at] at c0
          exact World.block_lt_of_cell? W ⟨b, o + 0, none⟩ c0
        · have hj' : j < len := by simpa using hj
          have c0 := (hfs j hj').1
          rw [add_at] at c0
          rw [c0, List.getD_eq_getElem?_getD, List.getElem?_map, List.getElem?_range hj']; rfl
    · rcases Nat.lt_or_ge i len with h | h
      · rw [List.getD_eq_getElem?_getD, List.getElem?_map, List.getElem?_range h]; exact (hfs i h).2
      · rw [List.getD_eq_getElem?_getD, List.getElem?_eq_none (by simpa using h)]; simp

end

end Go.Proofs.Ytdilmiaaahpfcaa.Newest
