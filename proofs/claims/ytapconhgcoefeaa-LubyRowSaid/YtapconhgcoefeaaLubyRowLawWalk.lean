/- The row is the document's from any place up to 3000; of great numbers it is a power of two, at most half of the number and one. -/
import Derived.Test.YtapconhgcoefeaaLubyRefWalk
import Derived.OpenShut
import Derived.Deep.QuietTactic
import Derived.BigQuiet
namespace Go.Proofs.Ytapconhgcoefeaa.Luby
set_option linter.unusedVariables false
open Go.RowKit

theorem row_all (n : Nat) (w : World) (h2 : n < 9223372036854775808) :
    Calls Try.prog 18 #[.int .i64 n] w fun e w' => e = .returned (.int .i64 (lub n)) ∧ w' = w := by
  by_cases h : n = 0
  · subst h
    refine (row_none _ w (by omega)).mono ?_
    rintro e w' ⟨rfl, rfl⟩
    rw [lub_zero]
    exact ⟨rfl, rfl⟩
  · refine (row_nat n w (by omega) h2).mono ?_
    rintro e w' ⟨rfl, rfl⟩
    exact ⟨rfl, rfl⟩

/-- a power of two has no bit in common with what is one less. -/
theorem pow_and (p k : Nat) (hp : p = 2 ^ k) (hk : p < 2 ^ 63) : bits .and .i64 (p : Int) ((p : Int) - 1) = 0 := by
  have h1 : 1 ≤ p := by rw [hp]; exact Nat.one_le_two_pow
  have e1 : (BitVec.ofInt 64 (p : Int)).toNat = p := by rw [BitVec.toNat_ofInt]; omega
  have e2 : (BitVec.ofInt 64 ((p : Int) - 1)).toNat = p - 1 := by rw [BitVec.toNat_ofInt]; omega
  have key : (BitVec.ofInt 64 (p : Int) &&& BitVec.ofInt 64 ((p : Int) - 1)).toNat = 0 := by
    rw [BitVec.toNat_and, e1, e2, hp, Nat.and_two_pow_sub_one_eq_mod, Nat.mod_self]
  show IntKind.i64.wrap ((BitVec.ofInt 64 (p : Int) &&& BitVec.ofInt 64 ((p : Int) - 1)).toNat : Nat) = 0
  rw [key]
  rfl
theorem lub_and (m : Nat) (h1 : 1 ≤ m) (h2 : m < 2 ^ 63) : (bits .and .i64 (lub m : Int) ((lub m : Int) - 1) == 0) = true := by
  obtain ⟨k, hk, h⟩ := found 64 m h1 (by omega)
  rw [pow_and (lub m) k hk (by have hk' : lub m = 2 ^ k := hk; omega)]
  rfl

theorem drewN_below {B : Nat} {w w' : World} (h : Below B w w') (n : Nat) : Below B w (w'.drewN n) := ⟨h.os, h.tape, h.output, h.size, h.block⟩
theorem closes {w w' : World} {n : Nat} {c : Array Value} {t : TypeId} (h : Below w.heap.size w w') (hB : w.heap.size ≤ w'.heap.size) :
    Below w.heap.size w ((w'.drewN n).alloc (.cells c t)) := (drewN_below h n).alloc hB _

set_option maxHeartbeats 1000000 in
set_option maxRecDepth 100000 in
theorem law_row (a0 a1 : Int) (w0 : (Lit.int .u16 a0).wf = true) (w1 : (Lit.int .i64 a1).wf = true) (w : World) :
    Calls Try.prog 5 #[.int .u16 a0, .int .i64 a1] w fun e w' => e = .returned (.bool true) ∧ Below w.heap.size w w' := by
  have hb : 0 ≤ a0 ∧ a0 ≤ 65535 := bounds_u16 w0
  have hb1 := bounds_i64 w1
  obtain ⟨b, rfl⟩ := Int.eq_ofNat_of_zero_le hb.1
  have hn0 : ∃ n : Nat, n ≤ 3000 ∧ (b : Int) % 3001 = (n : Int) := ⟨b % 3001, by omega, by omega⟩
  obtain ⟨n, hn, hn1⟩ := hn0
  by_cases hg1 : a1 < 1
  all_goals
    go_enter Try.func5, Try.ntmps5
    go_wp2_with fail
    refine (ref_any n hn _).mono ?_
    rintro e w' ⟨v, rfl, g, cap, rfl, hown, hbel, hB, hg⟩
    have hc : w'.cell? ⟨g, n, none⟩ = some (.int .i64 (lub n)) := by
      rw [hown.cellAt _ (by omega), lst_at _ _ (by omega)]
    go_wp2_with fail
    go_quiet ((go_at_call 18; exact Calls.quiet_of_same (row_all _ _ (by omega))))
    go_wp2_with fail
  · refine (row_none _ _ hg1).mono ?_
    rintro e w' ⟨rfl, rfl⟩
    go_wp2_with (go_at_call 16; refine (fixed_any _).mono ?_; rintro e w' ⟨rfl, c, t, rfl⟩)
    go_ret
    exact ⟨rfl, closes hbel hB⟩
  · obtain ⟨m, rfl⟩ := Int.eq_ofNat_of_zero_le (show 0 ≤ a1 by omega)
    refine (row_nat m _ (by omega) (by omega)).mono ?_
    rintro e w' ⟨rfl, rfl⟩
    have hp := lub_pos m (by omega) (by omega)
    have hand := lub_and m (by omega) (by omega)
    have hle : (lub m : Int) ≤ (m : Int) / 2 + 1 := by omega
    go_wp2_with (go_at_call 16; refine (fixed_any _).mono ?_; rintro e w' ⟨rfl, c, t, rfl⟩)
    go_ret
    exact ⟨rfl, closes hbel hB⟩

end Go.Proofs.Ytapconhgcoefeaa.Luby
