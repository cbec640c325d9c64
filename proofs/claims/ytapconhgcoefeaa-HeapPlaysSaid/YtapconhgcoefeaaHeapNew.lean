/- A new heap: all atoms are in, without a score. -/
import Derived.Test.YtapconhgcoefeaaHeapBump
import Derived.RegionTactic
import Derived.Deep.OwnRows
namespace Go.Proofs.Ytapconhgcoefeaa.Heap
set_option linter.unusedVariables false
open Go.RowKit Go.Deep

theorem info_u64 : (Try.prog.info? 56).map (fun i => (i.zero, i.size, i.bytes)) = some (some (.int .u64 0), 1, 8) := by kernel_rfl

theorem four (w : World) (a b c d : Obj) :
    ((((w.alloc a).alloc b).alloc c).alloc d).heap[w.heap.size]? = some a ∧ ((((w.alloc a).alloc b).alloc c).alloc d).heap[w.heap.size + 1]? = some b ∧
    ((((w.alloc a).alloc b).alloc c).alloc d).heap[w.heap.size + 1 + 1]? = some c ∧ ((((w.alloc a).alloc b).alloc c).alloc d).heap[w.heap.size + 1 + 1 + 1]? = some d := by
  refine ⟨?_, ?_, ?_, ?_⟩
  · rw [Below.heap_alloc _ _ _ (by simp <;> omega), Below.heap_alloc _ _ _ (by simp <;> omega), Below.heap_alloc _ _ _ (by simp), heap_alloc_new]
  · rw [Below.heap_alloc _ _ _ (by simp), Below.heap_alloc _ _ _ (by simp)]
    have := heap_alloc_new (w.alloc a) b
    rw [show (w.alloc a).heap.size = w.heap.size + 1 from by simp] at this
    exact this
  · rw [Below.heap_alloc _ _ _ (by simp)]
    have := heap_alloc_new ((w.alloc a).alloc b) c
    rw [show ((w.alloc a).alloc b).heap.size = w.heap.size + 1 + 1 from by simp] at this
    exact this
  · have := heap_alloc_new (((w.alloc a).alloc b).alloc c) d
    rw [show (((w.alloc a).alloc b).alloc c).heap.size = w.heap.size + 1 + 1 + 1 from by simp] at this
    exact this

/-- the places and the row, when j atoms are put. -/
def plTo (n j : Nat) : List Int := (List.range (n + 1)).map fun a => if 1 ≤ a ∧ a ≤ j then (a : Int) - 1 else 0
def rwTo (n j : Nat) : List Nat := (List.range n).map fun i => if i < j then i + 1 else 0
theorem plTo_len (n j : Nat) : (plTo n j).length = n + 1 := by simp [plTo]
theorem rwTo_len (n j : Nat) : (rwTo n j).length = n := by simp [rwTo]
theorem plTo_set (n j : Nat) (hj : j < n) : (plTo n j).set (j + 1) (j : Int) = plTo n (j + 1) := by
  apply List.ext_getElem?
  intro i
  rw [List.getElem?_set, plTo_len]
  unfold plTo
  rw [List.getElem?_map, List.getElem?_map]
  by_cases e : j + 1 = i
  · subst e
    rw [if_pos rfl, if_pos (by omega), List.getElem?_range (by omega)]
    simp
  · rw [if_neg e]
    rcases Nat.lt_or_ge i (n + 1) with h | h
    · rw [List.getElem?_range h]
      simp only [Option.map_some, Option.some.injEq]
      by_cases h1 : 1 ≤ i ∧ i ≤ j
      · rw [if_pos h1, if_pos (by omega)]
      · rw [if_neg h1, if_neg (by omega)]
    · rw [List.getElem?_eq_none (by simpa using h)]
      rfl
theorem rwTo_set (n j : Nat) (hj : j < n) : (rwTo n j).set j (j + 1) = rwTo n (j + 1) := by
  apply List.ext_getElem?
  intro i
  rw [List.getElem?_set, rwTo_len]
  unfold rwTo
  rw [List.getElem?_map, List.getElem?_map]
  by_cases e : j = i
  · subst e
    rw [if_pos rfl, if_pos (by omega), List.getElem?_range (by omega)]
    simp
  · rw [if_neg e]
    rcases Nat.lt_or_ge i n with h | h
    · rw [List.getElem?_range h]
      simp only [Option.map_some, Option.some.injEq]
      by_cases h1 : i < j
      · rw [if_pos h1, if_pos (by omega)]
      · rw [if_neg h1, if_neg (by omega)]
    · rw [List.getElem?_eq_none (by simpa using h)]
      rfl
theorem plTo_at (n j a : Nat) (ha : a ≤ n) : (plTo n j).getD a (-1) = if 1 ≤ a ∧ a ≤ j then (a : Int) - 1 else 0 := by
  simp [plTo, List.getD_eq_getElem?_getD, List.getElem?_range (show a < n + 1 by omega)]
theorem rwTo_at (n j i : Nat) (hi : i < n) : (rwTo n j).getD i 0 = if i < j then i + 1 else 0 := by
  simp [rwTo, List.getD_eq_getElem?_getD, List.getElem?_range hi]

def zeros (n : Nat) : List Nat := List.replicate (n + 1) 0
theorem zeros_at (n a : Nat) : (zeros n).getD a 0 = 0 := by
  simp only [zeros, List.getD_eq_getElem?_getD, List.getElem?_replicate]
  split <;> rfl

/-- of a new heap. -/
theorem new_is {w : World} {I : Ids} {n : Nat} (h : HM w I (zeros n) (plTo n n) (rwTo n n)) : Is w I n (zeros n) (fun _ => true) := by
  refine ⟨plTo n n, rwTo n n, h, ⟨plTo_len _ _, ?_, ?_⟩, ?_, ?_, ?_, ?_⟩
  · intro i hi
    rw [rwTo_len] at hi
    rw [rwTo_at n n i hi, if_pos hi, plTo_at n n (i + 1) (by omega), if_pos (by omega)]
    exact ⟨by omega, by omega, by omega⟩
  · intro a h1 h2
    right
    refine ⟨a - 1, by rw [rwTo_len]; omega, ?_, ?_⟩
    · rw [plTo_at n n a h2, if_pos ⟨h1, h2⟩]; omega
    · rw [rwTo_at n n _ (by omega), if_pos (by omega)]; omega
  · intro j h1 h2 h3
    rw [rwTo_len] at h2
    unfold ok bt
    rw [rwTo_at n n j h2, rwTo_at n n _ (by omega), if_pos h2, if_pos (by omega), zeros_at, zeros_at]
    omega
  · intro a h1 h2
    simp only [true_iff]
    rw [plTo_at n n a h2, if_pos ⟨h1, h2⟩]
    omega
  · rw [rwTo_len, cin_all]
  · intro a; rw [zeros_at]; exact Nat.zero_le _

def NHead (n : Nat) (w : World) (v : Value) (wr : World) : Prop :=
  ∃ (I : Ids) (j : Nat), v = .int .i64 j ∧ j ≤ n ∧ I.hb = w.heap.size + 1 + 1 + 1 ∧ (∀ k, I.has k → w.heap.size ≤ k) ∧ HM wr I (zeros n) (plTo n j) (rwTo n j) ∧ Below w.heap.size w wr

theorem new_start {w wr : World} {n g1 g2 g3 : Nat} (hn : n ≤ 65536)
    (hh : wr.heap[w.heap.size + 1 + 1 + 1]? = some (.cells #[.slice (some ⟨g1, 0, none⟩) (n + 1) (n + 1), .slice (some ⟨g2, 0, none⟩) (n + 1) (n + 1), .slice (some ⟨g3, 0, none⟩) n n] 92 (0, 0)))
    (h1 : wr.heap[g1]? = some (.cells (madeCells #[.int .u64 0] (n + 1)) 56 (0, 0)))
    (h2 : wr.heap[g2]? = some (.cells (madeCells #[.int .i64 0] (n + 1)) 3 (0, 0)))
    (h3 : wr.heap[g3]? = some (.cells (madeCells #[.int .i64 0] n) 3 (0, 0)))
    (ha : w.heap.size ≤ g1 ∧ w.heap.size ≤ g2 ∧ w.heap.size ≤ g3 ∧ g1 < w.heap.size + 1 + 1 + 1 ∧ g2 < w.heap.size + 1 + 1 + 1 ∧ g3 < w.heap.size + 1 + 1 + 1 ∧ g1 ≠ g2 ∧ g1 ≠ g3 ∧ g2 ≠ g3) (hb : Below w.heap.size w wr) :
    NHead n w (.int .i64 0) wr := by
  have made : ∀ (z : Value) (m : Nat), madeCells #[z] m = (List.replicate m z).toArray := fun z m => by rw [← toList_madeCells_one, Array.toArray_toList]
  have p0 : ints (plTo n 0) = List.replicate (n + 1) (.int .i64 0) := by
    apply List.ext_getElem?
    intro i
    unfold ints plTo
    rw [List.getElem?_map, List.getElem?_map, List.getElem?_replicate]
    rcases Nat.lt_or_ge i (n + 1) with h | h
    · rw [List.getElem?_range h, if_pos h]
      have : ¬ (1 ≤ i ∧ i ≤ 0) := by omega
      simp only [Option.map_some, if_neg this]
    · rw [List.getElem?_eq_none (by simpa using h), if_neg (by omega)]; rfl
  have r0 : nats (rwTo n 0) = List.replicate n (.int .i64 0) := by
    apply List.ext_getElem?
    intro i
    unfold nats rwTo
    rw [List.getElem?_map, List.getElem?_map, List.getElem?_replicate]
    rcases Nat.lt_or_ge i n with h | h
    · rw [List.getElem?_range h, if_pos h]
      simp
    · rw [List.getElem?_eq_none (by simpa using h), if_neg (by omega)]; rfl
  refine ⟨⟨w.heap.size + 1 + 1 + 1, g1, g2, g3, n⟩, 0, rfl, Nat.zero_le _, rfl, ?_, ⟨?_, ?_, ?_, ?_, ?_, ?_, ?_, ?_, ?_⟩, hb⟩
  · intro k hk
    rcases hk with e | e | e | e <;> simp only at e <;> omega
  · have z1 : (zeros n).length = n + 1 := by simp [zeros]
    simp only [z1, plTo_len, rwTo_len]
    exact hh
  · rw [h1, made]
    simp [u64s, zeros]
  · rw [h2, made, p0]
  · exact ⟨[], by rw [h3, made, r0]; simp, by simp [rwTo_len]⟩
  · simp only; omega
  · simp [zeros, plTo_len]
  · simp [zeros]; omega
  · simp [zeros, rwTo_len]
  · simp [zeros]

set_option maxHeartbeats 8000000 in
set_option maxRecDepth 100000 in
theorem new_nat (n : Nat) (hn2 : n ≤ 65536) (w : World) :
    Calls Try.prog 41 #[.int .i64 n] w fun e w' => ∃ I, e = .returned (.pointer (some ⟨I.hb, 0, none⟩)) ∧ Is w' I n (zeros n) (fun _ => true) ∧ (∀ k, I.has k → w.heap.size ≤ k) ∧ Below w.heap.size w w' := by
  have m1 := fun (wq : World) => run_make_row' 68 56 (.int .u64 0) 8 Try.underlying68 info_u64 rfl .i64 .i64 (n + 1) (by omega) (by omega) wq
  have m2 := fun (wq : World) => run_make_row' 31 3 (.int .i64 0) 8 Try.underlying31 info_int rfl .i64 .i64 (n + 1) (by omega) (by omega) wq
  have m3 := fun (wq : World) => run_make_row' 31 3 (.int .i64 0) 8 Try.underlying31 info_int rfl .i64 .i64 n (by omega) (by omega) wq
  have e1 : ((n + 1 : Nat) : Int) = (n : Int) + 1 := by omega
  rw [e1] at m1 m2
  have e2 : IntKind.i64.wrap ((n : Int) + 1) = (n : Int) + 1 := IntWalk.i64_in _ (by omega)
  clear e1
  go_enter Try.func41, Try.ntmps41
  go_wp2_with fail
  go_region
  all_goals
    clear m1 m2 m3 e2
    go_wp2_with fail
    go_loopw [4, 23] (fun _ v wr => NHead n w v wr) (fun _ v _ => n - (intOf v).toNat)
    case atStart =>
      have B4 : ∀ (a b c d : Obj), Below w.heap.size w ((((w.alloc a).alloc b).alloc c).alloc d).drew := fun a b c d =>
        (((((Below.refl _ w).alloc (Nat.le_refl _) a).alloc (by simp) b).alloc (by simp; omega) c).alloc (by simp; omega) d).drew
      first
        | exact new_start (g1 := w.heap.size) (g2 := w.heap.size + 1) (g3 := w.heap.size + 1 + 1) hn2 (four w _ _ _ _).2.2.2 (four w _ _ _ _).1 (four w _ _ _ _).2.1 (four w _ _ _ _).2.2.1 (by omega) (B4 _ _ _ _)
        | exact new_start (g1 := w.heap.size) (g3 := w.heap.size + 1) (g2 := w.heap.size + 1 + 1) hn2 (four w _ _ _ _).2.2.2 (four w _ _ _ _).1 (four w _ _ _ _).2.2.1 (four w _ _ _ _).2.1 (by omega) (B4 _ _ _ _)
        | exact new_start (g2 := w.heap.size) (g1 := w.heap.size + 1) (g3 := w.heap.size + 1 + 1) hn2 (four w _ _ _ _).2.2.2 (four w _ _ _ _).2.1 (four w _ _ _ _).1 (four w _ _ _ _).2.2.1 (by omega) (B4 _ _ _ _)
        | exact new_start (g2 := w.heap.size) (g3 := w.heap.size + 1) (g1 := w.heap.size + 1 + 1) hn2 (four w _ _ _ _).2.2.2 (four w _ _ _ _).2.2.1 (four w _ _ _ _).1 (four w _ _ _ _).2.1 (by omega) (B4 _ _ _ _)
        | exact new_start (g3 := w.heap.size) (g1 := w.heap.size + 1) (g2 := w.heap.size + 1 + 1) hn2 (four w _ _ _ _).2.2.2 (four w _ _ _ _).2.1 (four w _ _ _ _).2.2.1 (four w _ _ _ _).1 (by omega) (B4 _ _ _ _)
        | exact new_start (g3 := w.heap.size) (g2 := w.heap.size + 1) (g1 := w.heap.size + 1 + 1) hn2 (four w _ _ _ _).2.2.2 (four w _ _ _ _).2.2.1 (four w _ _ _ _).2.1 (four w _ _ _ _).1 (by omega) (B4 _ _ _ _)
    case round =>
      obtain ⟨I, j, rfl, hj, hI, hids, hm, hbel⟩ := hrel
      by_cases hlt : j < n
      · have hput := put_any hm j (j + 1) (by rw [rwTo_len]; exact hlt) (by rw [plTo_len]; omega)
        rw [plTo_set n j hlt, rwTo_set n j hlt, hI] at hput
        have HPUT := Lib.hid hput
        have HI := Lib.hid hI
        clear hput hm hI
        go_wp2_with fail
        refine HPUT.out.mono ?_
        rintro e w2 ⟨rfl, h3, s3⟩
        have hend : NHead n w (.int .i64 ((j : Int) + 1)) w2 := ⟨I, j + 1, by go_num, by omega, HI.out, hids, h3, hbel.trans (s3.below hbel.size hids)⟩
        have HEND := Lib.hid hend
        clear hend h3 s3
        go_wp2_with fail
        go_roundw
        case rel => exact HEND.out
        case measure => simp [intOf]; omega
      · obtain rfl : j = n := by omega
        have HN := Lib.hid (new_is hm)
        have HI := Lib.hid hI
        clear hm hI
        go_wp2_with fail
        go_ret
        exact ⟨I, by rw [HI.out]; rfl, HN.out, hids, hbel⟩

end Go.Proofs.Ytapconhgcoefeaa.Heap
