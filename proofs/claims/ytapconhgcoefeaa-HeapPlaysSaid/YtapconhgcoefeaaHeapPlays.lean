/- The document's own row of a heap: which ones are in, and their scores, as two slices. -/
import Derived.Test.YtapconhgcoefeaaHeapAll
import Derived.RegionTactic
import Derived.Deep.OwnRows
namespace Go.Proofs.Ytapconhgcoefeaa.Heap
set_option linter.unusedVariables false
open Go.RowKit Go.Deep

theorem info_bool : (Try.prog.info? 4).map (fun i => (i.zero, i.size, i.bytes)) = some (some (.bool false), 1, 1) := by kernel_rfl

set_option maxHeartbeats 8000000 in
set_option maxRecDepth 100000 in
theorem new_neg (a : Int) (hneg : a < 0) (w : World) :
    Calls Try.prog 41 #[.int .i64 a] w fun e w' => ∃ I, e = .returned (.pointer (some ⟨I.hb, 0, none⟩)) ∧ Is w' I 0 (zeros 0) (fun _ => true) ∧ (∀ k, I.has k → w.heap.size ≤ k) ∧ Below w.heap.size w w' := by
  have m1 : ∀ wq : World, (Instr.makeSlice 68 (.int .i64 1) (.int .i64 1)).run Try.prog wq = .ok (.slice (some ⟨wq.heap.size, 0, none⟩) 1 1) (wq.alloc (.cells (madeCells #[.int .u64 0] 1) 56)) :=
    fun (wq : World) => run_make_row' 68 56 (.int .u64 0) 8 Try.underlying68 info_u64 rfl .i64 .i64 1 (by omega) (by omega) wq
  have m2 : ∀ wq : World, (Instr.makeSlice 31 (.int .i64 1) (.int .i64 1)).run Try.prog wq = .ok (.slice (some ⟨wq.heap.size, 0, none⟩) 1 1) (wq.alloc (.cells (madeCells #[.int .i64 0] 1) 3)) :=
    fun (wq : World) => run_make_row' 31 3 (.int .i64 0) 8 Try.underlying31 info_int rfl .i64 .i64 1 (by omega) (by omega) wq
  have m3 : ∀ wq : World, (Instr.makeSlice 31 (.int .i64 0) (.int .i64 0)).run Try.prog wq = .ok (.slice (some ⟨wq.heap.size, 0, none⟩) 0 0) (wq.alloc (.cells (madeCells #[.int .i64 0] 0) 3)) :=
    fun (wq : World) => run_make_row' 31 3 (.int .i64 0) 8 Try.underlying31 info_int rfl .i64 .i64 0 (by omega) (by omega) wq
  go_enter Try.func41, Try.ntmps41
  go_wp2_with fail
  go_region
  all_goals
    clear m1 m2 m3
    go_wp2_with fail
    go_loopw [4, 23] (fun _ v wr => NHead 0 w v wr) (fun _ v _ => 0 - (intOf v).toNat)
    case atStart =>
      have B4 : ∀ (a b c d : Obj), Below w.heap.size w ((((w.alloc a).alloc b).alloc c).alloc d).drew := fun a b c d =>
        (((((Below.refl _ w).alloc (Nat.le_refl _) a).alloc (by simp) b).alloc (by simp; omega) c).alloc (by simp; omega) d).drew
      first
        | exact new_start (g1 := w.heap.size) (g2 := w.heap.size + 1) (g3 := w.heap.size + 1 + 1) (by omega) (four w _ _ _ _).2.2.2 (four w _ _ _ _).1 (four w _ _ _ _).2.1 (four w _ _ _ _).2.2.1 (by omega) (B4 _ _ _ _)
        | exact new_start (g1 := w.heap.size) (g3 := w.heap.size + 1) (g2 := w.heap.size + 1 + 1) (by omega) (four w _ _ _ _).2.2.2 (four w _ _ _ _).1 (four w _ _ _ _).2.2.1 (four w _ _ _ _).2.1 (by omega) (B4 _ _ _ _)
        | exact new_start (g2 := w.heap.size) (g1 := w.heap.size + 1) (g3 := w.heap.size + 1 + 1) (by omega) (four w _ _ _ _).2.2.2 (four w _ _ _ _).2.1 (four w _ _ _ _).1 (four w _ _ _ _).2.2.1 (by omega) (B4 _ _ _ _)
        | exact new_start (g2 := w.heap.size) (g3 := w.heap.size + 1) (g1 := w.heap.size + 1 + 1) (by omega) (four w _ _ _ _).2.2.2 (four w _ _ _ _).2.2.1 (four w _ _ _ _).1 (four w _ _ _ _).2.1 (by omega) (B4 _ _ _ _)
        | exact new_start (g3 := w.heap.size) (g1 := w.heap.size + 1) (g2 := w.heap.size + 1 + 1) (by omega) (four w _ _ _ _).2.2.2 (four w _ _ _ _).2.1 (four w _ _ _ _).2.2.1 (four w _ _ _ _).1 (by omega) (B4 _ _ _ _)
        | exact new_start (g3 := w.heap.size) (g2 := w.heap.size + 1) (g1 := w.heap.size + 1 + 1) (by omega) (four w _ _ _ _).2.2.2 (four w _ _ _ _).2.2.1 (four w _ _ _ _).2.1 (four w _ _ _ _).1 (by omega) (B4 _ _ _ _)
    case round =>
      obtain ⟨I, j, rfl, hj, hI, hids, hm, hbel⟩ := hrel
      obtain rfl : j = 0 := by omega
      have HN := Lib.hid (new_is hm)
      have HI := Lib.hid hI
      clear hm hI
      go_wp2_with fail
      go_ret
      exact ⟨I, by rw [HI.out]; rfl, HN.out, hids, hbel⟩

theorem new_all (a : Int) (N : Nat) (hN : max 0 a = (N : Int)) (hN2 : N ≤ 65536) (w : World) :
    Calls Try.prog 41 #[.int .i64 a] w fun e w' => ∃ I, e = .returned (.pointer (some ⟨I.hb, 0, none⟩)) ∧ Is w' I N (zeros N) (fun _ => true) ∧ (∀ k, I.has k → w.heap.size ≤ k) ∧ Below w.heap.size w w' := by
  by_cases h : a < 0
  · obtain rfl : N = 0 := by omega
    exact new_neg a h w
  · obtain rfl : a = (N : Int) := by omega
    exact new_nat N hN2 w

def bools (n : Nat) (inn : Nat → Bool) : List Value := (List.range n).map fun i => Value.bool (inn (i + 1))
def scrs (n : Nat) (sc : List Nat) : List Value := (List.range n).map fun i => Value.int .u64 (sc.getD (i + 1) 0 : Nat)
theorem bools_at (n : Nat) (inn : Nat → Bool) (i : Nat) (hi : i < n) : (bools n inn)[i]? = some (.bool (inn (i + 1))) := by
  simp [bools, List.getElem?_range hi]
theorem scrs_at (n : Nat) (sc : List Nat) (i : Nat) (hi : i < n) : (scrs n sc)[i]? = some (.int .u64 (sc.getD (i + 1) 0 : Nat)) := by
  simp [scrs, List.getElem?_range hi]
theorem bools_set (n : Nat) (inn inn' : Nat → Bool) (i : Nat) (v : Bool) (h1 : i < n → inn' (i + 1) = v) (h2 : ∀ x, 1 ≤ x → x ≤ n → x ≠ i + 1 → inn' x = inn x) : (bools n inn).set i (.bool v) = bools n inn' := by
  apply List.ext_getElem?
  intro k
  rw [List.getElem?_set]
  unfold bools
  rw [List.getElem?_map, List.getElem?_map, List.length_map, List.length_range]
  rcases Nat.lt_or_ge k n with h | h
  · rw [List.getElem?_range h]
    by_cases e : i = k
    · subst e
      rw [if_pos rfl, if_pos h]
      simp [h1 h]
    · rw [if_neg e]
      simp [h2 (k + 1) (by omega) (by omega) (fun x => e (by omega))]
  · rw [List.getElem?_eq_none (by simpa using h)]
    by_cases e : i = k
    · subst e; rw [if_pos rfl, if_neg (by omega)]; rfl
    · rw [if_neg e]; rfl
theorem scrs_set (n : Nat) (sc sc' : List Nat) (i v : Nat) (h1 : i < n → sc'.getD (i + 1) 0 = v) (h2 : ∀ x, 1 ≤ x → x ≤ n → x ≠ i + 1 → sc'.getD x 0 = sc.getD x 0) : (scrs n sc).set i (.int .u64 (v : Nat)) = scrs n sc' := by
  apply List.ext_getElem?
  intro k
  rw [List.getElem?_set]
  unfold scrs
  rw [List.getElem?_map, List.getElem?_map, List.length_map, List.length_range]
  rcases Nat.lt_or_ge k n with h | h
  · rw [List.getElem?_range h]
    by_cases e : i = k
    · subst e
      rw [if_pos rfl, if_pos h]
      simp only [Option.map_some, h1 h]
    · rw [if_neg e]
      simp only [Option.map_some, h2 (k + 1) (by omega) (by omega) (fun x => e (by omega))]
  · rw [List.getElem?_eq_none (by simpa using h)]
    by_cases e : i = k
    · subst e; rw [if_pos rfl, if_neg (by omega)]; rfl
    · rw [if_neg e]; rfl

/-- the place of the first one among the first j atoms that are in; -1. -/
def AtFirst (sc : List Nat) (inn : Nat → Bool) (j : Nat) (v : Value) : Prop :=
  (v = .int .i64 (-1) ∧ ∀ i, i < j → inn (i + 1) = false) ∨
  ∃ a : Nat, v = .int .i64 a ∧ a < j ∧ inn (a + 1) = true ∧ ∀ i, i < j → inn (i + 1) = true → ¬ bt sc (i + 1) (a + 1)

def FHead (w : World) (n : Nat) (sc : List Nat) (inn : Nat → Bool) (at_ iv : Value) (wr : World) : Prop :=
  ∃ j : Nat, iv = .int .i64 j ∧ j ≤ n ∧ AtFirst sc inn j at_ ∧ ∃ m, wr = w.drewN m

/-- what 'first' comes to. -/
def Firsts (n : Nat) (sc : List Nat) (inn : Nat → Bool) (w : World) (e : Ending) (w' : World) : Prop :=
  (∃ m, w' = w.drewN m) ∧ ((cin inn n = 0 ∧ e = .returned (.int .i64 0)) ∨ ∃ a, Best n sc inn a ∧ e = .returned (.int .i64 (a : Nat)))

theorem cin_zero {inn : Nat → Bool} {n : Nat} (h : ∀ i, i < n → inn (i + 1) = false) : cin inn n = 0 := by
  induction n with
  | zero => rfl
  | succ n ih => unfold cin; rw [ih (fun i hi => h i (by omega)), h n (by omega)]; rfl

end Go.Proofs.Ytapconhgcoefeaa.Heap
