/- A pace: how it is made, and what a conflict does to it. -/
import Derived.Test.YtapconhgcoefeaaLubyRefWalk
import Derived.OpenShut
import Derived.Deep.RegionWith
import Derived.Deep.QuietTactic
import Derived.BigQuiet
namespace Go.Proofs.Ytapconhgcoefeaa.Luby
set_option linter.unusedVariables false
open Go.RowKit

/-- at most the greatest int. -/
def sat (n : Int) : Int := if 9223372036854775807 < n then 9223372036854775807 else n
theorem sat_le (n : Int) : sat n ≤ 9223372036854775807 := by unfold sat; split <;> omega
theorem sat_pos (n : Int) (h : 1 ≤ n) : 1 ≤ sat n := by unfold sat; split <;> omega
theorem sat_id (n : Int) (h : n ≤ 9223372036854775807) : sat n = n := by unfold sat; rw [if_neg (by omega)]
theorem sat_big (n : Int) (h : 9223372036854775807 < n) : sat n = 9223372036854775807 := by unfold sat; rw [if_pos h]

set_option maxHeartbeats 400000 in
theorem sum_any (a b : Int) (w : World) (ha : 0 ≤ a) (hb : 0 ≤ b) (ha2 : a ≤ 9223372036854775807) (hb2 : b ≤ 9223372036854775807) :
    Calls Try.prog 49 #[.int .i64 a, .int .i64 b] w fun e w' => e = .returned (.int .i64 (sat (a + b))) ∧ w' = w := by
  by_cases h : 9223372036854775807 < a + b
  · have hs := Lib.hid (sat_big _ h)
    have h2 : 9223372036854775807 - b < a := by omega
    clear h
    go_enter Try.func49, Try.ntmps49
    go_wp2
    go_ret
    exact ⟨ret_i64 hs.out.symm, rfl⟩
  · have hs := Lib.hid (sat_id (a + b) (by omega))
    have h2 : ¬ 9223372036854775807 - b < a := by omega
    go_enter Try.func49, Try.ntmps49
    go_wp2
    go_ret
    exact ⟨ret_i64 hs.out.symm, rfl⟩

theorem div_lt (M a b : Nat) (hb : 1 ≤ b) : M / b < a ↔ M < a * b := Nat.div_lt_iff_lt_mul hb

set_option maxHeartbeats 400000 in
theorem product_any (a b : Nat) (w : World) (hb : 1 ≤ b) (ha2 : a ≤ 9223372036854775807) (hb2 : b ≤ 9223372036854775807) :
    Calls Try.prog 48 #[.int .i64 a, .int .i64 b] w fun e w' => e = .returned (.int .i64 (sat ((a * b : Nat) : Int))) ∧ w' = w := by
  obtain ⟨q, hq⟩ : ∃ q : Nat, q = 9223372036854775807 / b := ⟨_, rfl⟩
  have hd := div_lt 9223372036854775807 a b hb
  rw [← hq] at hd
  have hq2 : ((9223372036854775807 : Int) / (b : Int)) = (q : Int) := by rw [hq]; rfl
  have HQ := Lib.hid hq; clear hq
  by_cases h : q < a
  · have hs := Lib.hid (sat_big ((a * b : Nat) : Int) (by have := hd.1 h; omega))
    clear hd
    go_enter Try.func48, Try.ntmps48
    go_wp2
    go_ret
    exact ⟨ret_i64 hs.out.symm, rfl⟩
  · have hle : ¬ 9223372036854775807 < a * b := fun h2 => h (hd.2 h2)
    have hs := Lib.hid (sat_id ((a * b : Nat) : Int) (by omega))
    have hm : wrap64 ((a : Int) * (b : Int)) = ((a * b : Nat) : Int) := by
      have e : (a : Int) * (b : Int) = ((a * b : Nat) : Int) := by simp
      rw [e]
      exact IntWalk.wrap64_in _ (by omega)
    have HM := Lib.hid hm
    clear hd hle hm
    go_enter Try.func48, Try.ntmps48
    go_wp2
    go_ret
    exact ⟨ret_i64 (by first | (rw [hs.out]; exact HM.out) | (rw [hs.out]; simp)), rfl⟩

def blk (u k r l : Int) : Obj := .cells #[.int .i64 u, .int .i64 k, .int .i64 r, .int .i64 l] 75 (0, 0)

set_option maxHeartbeats 400000 in
theorem new_any (a b : Int) (w : World) :
    Calls Try.prog 20 #[.int .i64 a, .int .i64 b] w fun e w' => e = .returned (.pointer (some ⟨w.heap.size, 0, none⟩)) ∧ w' = w.alloc (blk (max a 1) (max b 1) 0 (max a 1)) := by
  go_enter Try.func20, Try.ntmps20
  go_wp2
  go_ret
  exact ⟨rfl, rfl⟩

/-- the four fields' cells, and that they may be written. -/
theorem blk_open {w : World} {b : Nat} {u k r l : Int} (h : w.heap[b]? = some (blk u k r l)) :
    w.cell? ⟨b, 0, none⟩ = some (.int .i64 u) ∧ w.cell? ⟨b, 1, none⟩ = some (.int .i64 k) ∧ w.cell? ⟨b, 2, none⟩ = some (.int .i64 r) ∧ w.cell? ⟨b, 3, none⟩ = some (.int .i64 l) ∧
    w.frozen? ⟨b, 1, none⟩ = false ∧ w.frozen? ⟨b, 2, none⟩ = false ∧ w.frozen? ⟨b, 3, none⟩ = false :=
  ⟨blk_cell h rfl, blk_cell h rfl, blk_cell h rfl, blk_cell h rfl, blk_free _ h, blk_free _ h, blk_free _ h⟩

def After (b : Nat) (u k r l : Int) (x y : Bool) (w : World) (e : Ending) (w' : World) : Prop :=
  e = .returned (.tuple #[.bool x, .bool y]) ∧ w'.heap[b]? = some (blk u k r l) ∧ w.grownBy w' (some b)

set_option maxHeartbeats 1000000 in
set_option maxRecDepth 100000 in
theorem conflict_00 (b : Nat) (u k r l n : Int) (w : World) (h : w.heap[b]? = some (blk u k r l)) (hl : 2 ≤ l) (hl2 : l ≤ 9223372036854775807) (hk : n ≤ k) :
    Calls Try.prog 15 #[.pointer (some ⟨b, 0, none⟩), .int .i64 n] w (After b u k r (l - 1) false false w) := by
  obtain ⟨c0, c1, c2, c3, f1, f2, f3⟩ := blk_open h
  have h0 : (l - 1 == 0) = false := by simp; omega
  have hd : decide (k < n) = false := by simp; omega
  have hB := Lib.hid h; clear h
  go_enter Try.func15, Try.ntmps15
  go_wp2_with fail
  go_ret2
  exact ⟨rfl, blk_set 3 _ hB.out, grown_set _ _ _⟩

set_option maxHeartbeats 1000000 in
set_option maxRecDepth 100000 in
theorem conflict_01 (b : Nat) (u k r l n : Int) (w : World) (h : w.heap[b]? = some (blk u k r l)) (hl : 2 ≤ l) (hl2 : l ≤ 9223372036854775807) (hk : k < n) (hk2 : 1 ≤ k) (hk3 : k ≤ 9223372036854775807) :
    Calls Try.prog 15 #[.pointer (some ⟨b, 0, none⟩), .int .i64 n] w (After b u (sat (k + (k / 2 + 1))) r (l - 1) false true w) := by
  obtain ⟨c0, c1, c2, c3, f1, f2, f3⟩ := blk_open h
  have h0 : (l - 1 == 0) = false := by simp; omega
  have hd : decide (k < n) = true := by simp; omega
  obtain ⟨q, hq⟩ : ∃ q : Int, q = k / 2 := ⟨_, rfl⟩
  have hq2 : 0 ≤ q ∧ q ≤ 4611686018427387904 := by omega
  have e1 : IntKind.i64.wrap (k.tdiv 2) = q := by
    rw [Int.tdiv_eq_ediv_of_nonneg (by omega), ← hq]
    exact IntWalk.i64_in _ (by omega)
  have e2 : IntKind.i64.wrap (q + 1) = q + 1 := IntWalk.i64_in _ (by omega)
  have hB := Lib.hid h; clear h
  have hQ := Lib.hid hq; clear hq
  go_enter Try.func15, Try.ntmps15
  go_wp2_with fail
  go_region_with (go_at_call 49; refine (sum_any _ _ _ (by omega) (by omega) (by omega) (by omega)).mono ?_; rintro e w' ⟨rfl, rfl⟩)
  all_goals go_wp2_with fail
  all_goals go_ret2
  all_goals exact ⟨rfl, by rw [← hQ.out]; exact blk_set 1 _ (blk_set 3 _ hB.out), by repeat (first | exact grown_set _ _ _ | exact grown_trans (grown_set _ _ _) (grown_set _ _ _) | refine grown_drew1 ?_)⟩

set_option maxHeartbeats 2000000 in
set_option maxRecDepth 100000 in
theorem conflict_10 (b u r : Nat) (k n : Int) (w : World) (h : w.heap[b]? = some (blk u k r 1)) (hk : n ≤ k) (hr : r ≤ 100000) (hu : u ≤ 9223372036854775807) :
    Calls Try.prog 15 #[.pointer (some ⟨b, 0, none⟩), .int .i64 n] w (After b u k ((r : Int) + 1) (sat ((u * lub (r + 2) : Nat) : Int)) true false w) := by
  obtain ⟨c0, c1, c2, c3, f1, f2, f3⟩ := blk_open h
  have hd : decide (k < n) = false := by simp; omega
  have e1 : IntKind.i64.wrap ((r : Int) + 1 + 1) = ((r + 2 : Nat) : Int) := by rw [IntWalk.i64_in _ (by omega)]; simp; omega
  have hp := lub_pos (r + 2) (by omega) (by omega)
  have hB := Lib.hid h; clear h
  go_enter Try.func15, Try.ntmps15
  go_wp2_with fail
  go_region_with (first | (go_at_call 18; refine (row_nat (r + 2) _ (by omega) (by omega)).mono ?_; rintro e w' ⟨rfl, rfl⟩) | (go_at_call 48; refine (product_any u (lub (r + 2)) _ (by omega) (by omega) (by omega)).mono ?_; rintro e w' ⟨rfl, rfl⟩))
  all_goals go_wp2_with fail
  all_goals go_ret2
  all_goals exact ⟨rfl, blk_set 3 _ (blk_set 2 _ (blk_set 3 _ hB.out)), by repeat (first | exact grown_set _ _ _ | exact grown_trans (grown_trans (grown_set _ _ _) (grown_set _ _ _)) (grown_set _ _ _) | refine grown_drew1 ?_)⟩

set_option maxHeartbeats 4000000 in
set_option maxRecDepth 100000 in
theorem conflict_11 (b u r : Nat) (k n : Int) (w : World) (h : w.heap[b]? = some (blk u k r 1)) (hk : k < n) (hk2 : 1 ≤ k) (hk3 : k ≤ 9223372036854775807) (hr : r ≤ 100000) (hu : u ≤ 9223372036854775807) :
    Calls Try.prog 15 #[.pointer (some ⟨b, 0, none⟩), .int .i64 n] w (After b u (sat (k + (k / 2 + 1))) ((r : Int) + 1) (sat ((u * lub (r + 2) : Nat) : Int)) true true w) := by
  obtain ⟨c0, c1, c2, c3, f1, f2, f3⟩ := blk_open h
  have hd : decide (k < n) = true := by simp; omega
  have e0 : IntKind.i64.wrap ((r : Int) + 1 + 1) = ((r + 2 : Nat) : Int) := by rw [IntWalk.i64_in _ (by omega)]; simp; omega
  have hp := lub_pos (r + 2) (by omega) (by omega)
  obtain ⟨q, hq⟩ : ∃ q : Int, q = k / 2 := ⟨_, rfl⟩
  have hq2 : 0 ≤ q ∧ q ≤ 4611686018427387904 := by omega
  have e1 : IntKind.i64.wrap (k.tdiv 2) = q := by
    rw [Int.tdiv_eq_ediv_of_nonneg (by omega), ← hq]
    exact IntWalk.i64_in _ (by omega)
  have e2 : IntKind.i64.wrap (q + 1) = q + 1 := IntWalk.i64_in _ (by omega)
  have hB := Lib.hid h; clear h
  have hQ := Lib.hid hq; clear hq
  go_enter Try.func15, Try.ntmps15
  go_wp2_with fail
  go_region_with (first | (go_at_call 18; refine (row_nat (r + 2) _ (by omega) (by omega)).mono ?_; rintro e w' ⟨rfl, rfl⟩) | (go_at_call 48; refine (product_any u (lub (r + 2)) _ (by omega) (by omega) (by omega)).mono ?_; rintro e w' ⟨rfl, rfl⟩))
  all_goals go_wp2_with fail
  all_goals (go_region_with (go_at_call 49; refine (sum_any _ _ _ (by omega) (by omega) (by omega) (by omega)).mono ?_; rintro e w' ⟨rfl, rfl⟩))
  all_goals go_wp2_with fail
  all_goals go_ret2
  all_goals exact ⟨rfl, by rw [← hQ.out]; exact blk_set 1 _ (blk_set 3 _ (blk_set 2 _ (blk_set 3 _ hB.out))), by repeat (first | exact grown_set _ _ _ | exact grown_trans (grown_trans (grown_trans (grown_set _ _ _) (grown_set _ _ _)) (grown_set _ _ _)) (grown_set _ _ _) | refine grown_drew1 ?_)⟩

end Go.Proofs.Ytapconhgcoefeaa.Luby
