/- The library's Repeat of one number, up to a thousand times. -/
import Derived.Test.YtcjcnhnpjcgcmaaOrderA
import Derived.Test.YtcjcnhnpjcgcmaaShelf
import Derived.Laws.CopyOwn
import Derived.Deep.RegionLaw
import Derived.RegionTactic
import Derived.WalkLawsBesides
namespace Go.Proofs.Ytcjcnhnpjcgcmaa.Order
set_option linter.unusedVariables false
set_option linter.unusedSimpArgs false
open Go.RowKit

/-- block g holds these numbers. -/
def GI (w : World) (g : Nat) (l : List Int) : Prop := w.heap[g]? = some (.cells (l.map (Value.int .i64)).toArray 3 (0, 0))
theorem GI.cell {w : World} {g : Nat} {l : List Int} (h : GI w g l) (i : Nat) (hi : i < l.length) : w.cell? ⟨g, i, none⟩ = some (.int .i64 (l.getD i 0)) := by
  refine blk_cell h ?_
  simp [List.getD_eq_getElem?_getD, hi]
theorem GI.free {w : World} {g : Nat} {l : List Int} (h : GI w g l) (i : Nat) : w.frozen? ⟨g, i, none⟩ = false := blk_free i h
theorem GI.set {w : World} {g : Nat} {l : List Int} (h : GI w g l) (i : Nat) (b : Int) : GI (w.setCell ⟨g, i, none⟩ (.int .i64 b)) g (l.set i b) := by
  have := blk_set i (.int .i64 b) h
  unfold GI
  rw [this]
  simp [List.map_set]
theorem GI.below {w w' : World} {B g : Nat} {l : List Int} (h : GI w g l) (hb : Below B w w') (hg : g < B) : GI w' g l := (hb.block g hg).trans h

theorem info_int : (Try.prog.info? 3).map (fun i => (i.zero, i.size, i.bytes)) = some (some (.int .i64 0), 1, 8) := by kernel_rfl
theorem size_int : (Try.prog.info? 3).map (·.size) = some 1 := by kernel_rfl
theorem make_ints (n : Nat) (hn : n ≤ 100000) (w : World) : (Instr.makeSlice 22 (.int .i64 n) (.int .i64 n)).run Try.prog w =
    .ok (.slice (some ⟨w.heap.size, 0, none⟩) n n) (w.alloc (.cells (madeCells #[.int .i64 0] n) 3)) := by
  obtain ⟨i, hi, hz⟩ := Option.map_eq_some_iff.1 info_int
  simp only [Prod.mk.injEq] at hz
  obtain ⟨h1, h2, h3⟩ := hz
  have h := run_make w 22 3 i _ Try.underlying22 hi h1 .i64 .i64 (n : Int) (n : Int) (by omega) (by omega) (by rw [h3]; omega) (by omega)
  rw [h2] at h
  simp only [Int.toNat_natCast, Nat.mul_one] at h
  exact h
/-- the first m are x, the others 0. -/
def part (x : Int) (n m : Nat) : List Value := List.replicate m (.int .i64 x) ++ List.replicate (n - m) (.int .i64 0)
theorem part_zero (x : Int) (n : Nat) : (part x n 0).toArray = madeCells #[.int .i64 0] n := by
  apply Array.ext'
  rw [toList_madeCells_one]; simp [part]
theorem part_len (x : Int) (n m : Nat) (h : m ≤ n) : (part x n m).length = n := by simp [part]; omega
theorem part_splice (x : Int) (n m k : Nat) (h : m + k ≤ n) : splice (part x n m) m (List.replicate k (.int .i64 x)) = part x n (m + k) := by
  unfold splice part
  rw [List.take_append_of_le_length (by simp), List.length_replicate]
  rw [List.take_of_length_le (by simp), ← List.append_assoc, List.replicate_append_replicate, List.drop_append, List.drop_of_length_le (by simp)]
  simp
  omega
theorem part_all (x : Int) (n : Nat) : (part x n n).toArray = ((List.replicate n x).map (Value.int .i64)).toArray := by simp [part]

set_option maxHeartbeats 4000000 in
set_option maxRecDepth 100000 in
theorem repeat_any (x : Int) (g0 n : Nat) (w : World) (hg : w.cell? ⟨g0, 0, none⟩ = some (.int .i64 x)) (h0 : 0 < n) (hn : n ≤ 1000) (hlt : g0 < w.heap.size) :
    Calls Try.prog 39 #[.slice (some ⟨g0, 0, none⟩) 1 1, .int .i64 (n : Nat)] w fun e w' => e = .returned (.slice (some ⟨w.heap.size, 0, none⟩) n n) ∧ GI w' w.heap.size (List.replicate n x) ∧ Below w.heap.size w w' := by
  have z0 : (0 : Int) < (n : Int) := by omega
  have z1 : (n : Int) ≤ 1000 := by omega
  have MU : Hid (Calls Try.prog 50 #[.int .u64 1, .int .u64 (n : Nat)] w fun e w' => e = .returned (.tuple #[.int .u64 0, .int .u64 (n : Nat)]) ∧ w = w') := Lib.hid (by
    have t := Try.bits_Mul 1 n (by omega) (by omega) w
    rw [Nat.one_mul, Nat.div_eq_of_lt (by omega), Nat.mod_eq_of_lt (by omega)] at t
    exact t.mono fun e w' h => ⟨h.1, h.2.symm⟩)
  have hmk := make_ints n (by omega) w
  obtain ⟨g, hgg⟩ : ∃ g, g = w.heap.size := ⟨_, rfl⟩
  obtain ⟨W0, hW0⟩ : ∃ W0, W0 = w.alloc (.cells (madeCells #[.int .i64 0] n) 3) := ⟨_, rfl⟩
  have B0 : Hid (Below g w W0) := Lib.hid (by rw [hW0, hgg]; exact (Below.refl w.heap.size w).alloc (Nat.le_refl _) _)
  have G0 : Hid (W0.heap[g]? = some (.cells (part x n 0).toArray 3 (0, 0))) := Lib.hid (by rw [hW0, hgg, part_zero]; exact heap_alloc_new w _)
  have C0 : Hid (W0.cell? ⟨g0, 0, none⟩ = some (.int .i64 x)) := Lib.hid ((B0.out.cell (p := ⟨g0, 0, none⟩) (by rw [hgg]; exact hlt)).trans hg)
  rw [← hgg, ← hW0] at hmk
  have GW := Lib.hid hgg
  rw [← hgg]
  have H0 := Lib.hid h0
  have SI := Lib.hid size_int
  clear hgg hW0 hg hlt h0 hn
  have hn1 : (List.replicate 1 (Value.int .i64 x)).length = Nat.min 1 n := by have := H0.out; simp [Nat.min_def]; omega
  have hp1 : ∀ j v, (List.replicate 1 (Value.int .i64 x))[j]? = some v → W0.cell? ((⟨g0, 0, none⟩ : Addr).add j) = some v := fun j v hj => by
    match j, hj with
    | 0, hj => simp at hj; subst hj; exact C0.out
  have hf1 : 0 + (List.replicate 1 (Value.int .i64 x)).length ≤ (part x n 0).length := by rw [part_len x n 0 (by omega)]; have := H0.out; simp; omega
  have ho1 : ∀ v ∈ List.replicate 1 (Value.int .i64 x), v.oneCell' = true := by
    intro v hv
    rw [List.mem_replicate] at hv
    rw [hv.2]; rfl
  have HN1 := Lib.hid hn1
  have HP1 := Lib.hid hp1
  have HF1 := Lib.hid hf1
  have HO1 := Lib.hid ho1
  clear hn1 hp1 hf1 ho1
  go_enter Try.func39, Try.ntmps39
  go_wp2_with (first
    | (go_at_call 50; refine MU.out.mono ?_; rintro e w' ⟨rfl, rfl⟩)
    | ((with_reducible show wpList _ _ _ _ _ _); refine wpList_copy_splice (o := ⟨some 33, _, _, _, _, _⟩) (by rfl) (.tmp 31) (.tmp 32) 22 22 (by rfl) 3 Try.underlying22 SI.out (some ⟨g, 0, none⟩) (some ⟨g0, 0, none⟩) n n 1 1 (by rfl) (by rfl) g 0 (part x n 0) 3 G0.out _ HN1.out (fun _ => ⟨rfl, _, rfl, HP1.out⟩) HF1.out HO1.out g w B0.out (Nat.le_refl _) ?_; intro w1 hg1 hb1; have G1 : Hid (w1.heap[g]? = some (.cells (part x n 1).toArray 3 (0, 0))) := Lib.hid (by have h := hg1.out; rwa [part_splice x n 0 1 (by have := H0.out; omega)] at h); have B1 := Lib.hid hb1; clear hg1 hb1))
  clear hmk
  go_loopw [8] (fun v wr => ∃ m : Nat, v = .int .i64 m ∧ 0 < m ∧ m ≤ n ∧ Below g w wr ∧ wr.heap[g]? = some (.cells (part x n m).toArray 3 (0, 0))) (fun v _ => n - (intOf v).toNat)
  case atStart => exact ⟨1, rfl, by omega, H0.out, B1.out, G1.out⟩
  case round =>
    obtain ⟨m, rfl, hm0, hm, hbel, hgm⟩ := hrel
    have J := Lib.hid hbel
    have GM := Lib.hid hgm
    clear hbel hgm B1 G1
    by_cases hlt : m < n
    · have hlt' : (m : Int) < (n : Int) := by omega
      have hm1 : 0 < (m : Int) := by omega
      have hne : ¬ m = n := by omega
      have hne2 : ¬ n = m := by omega
      obtain ⟨k, hk⟩ : ∃ k, k = Nat.min m (n - m) := ⟨_, rfl⟩
      have hk1 : 0 < k ∧ m + k ≤ n ∧ k ≤ m := by rw [hk, show Nat.min m (n - m) = min m (n - m) from rfl]; omega
      have HN2 : Hid ((List.replicate k (Value.int .i64 x)).length = Nat.min m (n - m)) := Lib.hid (by rw [← hk]; simp)
      have HP2 : Hid (∀ j v, (List.replicate k (Value.int .i64 x))[j]? = some v → wr.cell? ((⟨g, 0, none⟩ : Addr).add j) = some v) := Lib.hid (fun j v hj => by
        rw [List.getElem?_replicate] at hj
        split at hj
        · injection hj with hj
          subst hj
          have hadd : (⟨g, 0, none⟩ : Addr).add j = ⟨g, j, none⟩ := by unfold Addr.add; split <;> simp_all
          rw [hadd]
          refine blk_cell GM.out ?_
          have hjm : j < m := by omega
          rw [List.getElem?_toArray, part, List.getElem?_append_left (by simpa using hjm), List.getElem?_replicate, if_pos hjm]
        · cases hj)
      have HF2 : Hid (m + (List.replicate k (Value.int .i64 x)).length ≤ (part x n m).length) := Lib.hid (by rw [part_len x n m hm]; simp; omega)
      have HO2 : Hid (∀ v ∈ List.replicate k (Value.int .i64 x), v.oneCell' = true) := Lib.hid (by
        intro v hv
        rw [List.mem_replicate] at hv
        rw [hv.2]; rfl)
      have HK := Lib.hid hk1
      clear hk1 hk
      go_wp2_with fail
      go_region_law (refine step_copy_splice rfl (.tmp 41) (.tmp 44) 22 22 (by rfl) 3 Try.underlying22 SI.out (some ⟨g, m, none⟩) (some ⟨g, 0, none⟩) (n - m) (n - m) m n (by rfl) (by rfl) g m (part x n m) 3 GM.out _ HN2.out (fun _ => ⟨rfl, _, rfl, HP2.out⟩) HF2.out HO2.out g w J.out.drew (Nat.le_refl _) ?_; intro w1 hg1 hb1; rw [show goInt ((List.replicate k (Value.int .i64 x)).length : Int) = .int .i64 (k : Int) from by rw [List.length_replicate]; rfl])
      all_goals
        have G2 : Hid (w1.heap[g]? = some (.cells (part x n (m + k)).toArray 3 (0, 0))) := Lib.hid (by have h := hg1.out; rwa [part_splice x n m k HK.out.2.1] at h)
        have B2 := Lib.hid hb1
        have hk9 : ((m : Int) + (k : Int)) ≤ 1000 := by have := HK.out.2.1; omega
        clear hg1 hb1
        go_wp2_with fail
        have hw : IntKind.i64.wrap ((m : Int) + (k : Int)) = ((m + k : Nat) : Int) := by rw [IntWalk.i64_in _ (by omega)]; push_cast; rfl
        simp only [List.getElem_toArray, List.getElem_cons_succ, List.getElem_cons_zero, Act.put, List.setIfInBounds_toArray, List.set_cons_succ, List.set_cons_zero, hw]
        go_roundw
        case rel => exact ⟨m + k, rfl, by omega, HK.out.2.1, B2.out, G2.out⟩
        case measure => have := HK.out; simp only [intOf]; omega
    · obtain rfl : m = n := by omega
      have F : Hid (GI wr g (List.replicate m x)) := Lib.hid (by unfold GI; rw [← part_all]; exact GM.out)
      go_wp2_with fail
      go_ret
      exact ⟨rfl, F.out, J.out⟩

end Go.Proofs.Ytcjcnhnpjcgcmaa.Order
