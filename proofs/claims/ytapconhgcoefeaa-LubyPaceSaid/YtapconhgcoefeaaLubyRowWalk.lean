/- luby.Row returns Luby's row at every int. -/
import Derived.Test.YtapconhgcoefeaaRows
import Derived.Test.YtapconhgcoefeaaLubyMath
import Derived.Test.YtapconhgcoefeaaShelf
import Derived.WalkKit
import Derived.WalkSpells
import Derived.WalkLawsBesides
import Derived.Lib.Hide
namespace Go.Proofs.Ytapconhgcoefeaa.Luby
set_option linter.unusedVariables false
open Go.RowKit

theorem bitLen_log (x : Nat) (h1 : 1 ≤ x) (h : x < 2 ^ 64) : Lib.bitLen x = x.log2 + 1 := by
  have a := pow_le x h1
  have b := lt_pow x h1
  rw [Lib.bitLen_shift x.log2 x a h]
  have c : x / 2 ^ x.log2 = 1 := by
    have hp := pow_pos2 x
    apply Nat.div_eq_of_lt_le <;> omega
  rw [c]; rfl

theorem len_k (m k : Nat) (w : World) (hm : m < 9223372036854775808) (hk : Lib.bitLen m = k + 1) :
    Calls Try.prog 50 #[.int .u64 m] w fun e w' => e = .returned (.int .i64 ((k : Int) + 1)) ∧ w = w' := by
  refine (Try.bits_Len _ _ (by omega) (by omega)).mono ?_
  rintro e w' ⟨rfl, rfl⟩
  refine ⟨?_, rfl⟩
  rw [Int.toNat_natCast, hk]
  rfl

/-- what a round needs to know of the power. -/
theorem power (m : Nat) (h1 : 1 ≤ m) (h : m < 9223372036854775808) : ∃ k p : Nat, Lib.bitLen m = k + 1 ∧ k < 63 ∧ 1 ≤ p ∧ p ≤ m ∧ m < 2 * p ∧ p = 2 ^ m.log2 ∧
    IntKind.u64.wrap ((2 : Int) ^ k) = (p : Int) := by
  have hk : m.log2 < 63 := (Nat.log2_lt (by omega)).2 (by omega)
  have a := pow_le m h1
  refine ⟨m.log2, 2 ^ m.log2, bitLen_log m h1 (by omega), hk, pow_pos2 m, a, lt_pow m h1, rfl, ?_⟩
  have e2 : ((2 ^ m.log2 : Nat) : Int) = (2 : Int) ^ m.log2 := by simp
  rw [← e2]
  have key : ∀ q : Nat, q ≤ m → IntKind.u64.wrap (q : Int) = q := fun q hq => IntWalk.u64_in _ (by omega)
  exact key _ a

set_option maxHeartbeats 400000 in
theorem row_none (n : Int) (w : World) (h : n < 1) :
    Calls Try.prog 18 #[.int .i64 n] w fun e w' => e = .returned (.int .i64 0) ∧ w = w' := by
  go_enter Try.func18, Try.ntmps18
  go_wp2
  go_ret
  exact ⟨rfl, rfl⟩

theorem ret_i64 {a b : Int} (h : a = b) : Ending.returned (.int .i64 a) = .returned (.int .i64 b) := by rw [h]

set_option maxHeartbeats 400000 in
theorem row_nat (n : Nat) (w : World) (h1 : 1 ≤ n) (h2 : n < 9223372036854775808) :
    Calls Try.prog 18 #[.int .i64 n] w fun e w' => e = .returned (.int .i64 (lub n)) ∧ w = w' := by
  have hge : ¬ ((n : Int) < 1) := by omega
  go_enter Try.func18, Try.ntmps18
  go_wp2
  go_loop [3] (fun x => ∃ m f : Nat, x = .int .u64 m ∧ 1 ≤ m ∧ m < 9223372036854775808 ∧ m < 2 ^ f ∧ lubF f m = lub n) (fun x => (intOf x).toNat)
  case atStart => exact ⟨n, 64, rfl, h1, h2, by omega, rfl⟩
  case round =>
    obtain ⟨m, f, rfl, hm1, hm2, hf, hl⟩ := hrel
    have HL := Lib.hid hl; clear hl
    have HF := Lib.hid hf; clear hf
    obtain ⟨k, p, hk, hk2, hp1, hp2, hp3, hp4, hsh⟩ := power m hm1 hm2
    have HK := Lib.hid hk; clear hk
    have HP := Lib.hid hp4; clear hp4
    by_cases hc : m = 2 * p - 1
    · have hb : ((m : Int) == 2 * (p : Int) - 1) = true := by simp; omega
      have HC := Lib.hid hc; clear hc
      go_wp2_with (go_at_call 50; refine (len_k _ _ _ (by omega) HK.out).mono ?_; rintro e w' ⟨rfl, rfl⟩)
      go_ret
      refine ⟨ret_i64 ?_, rfl⟩
      have hl := HL.out
      have hf := HF.out
      have hc := HC.out
      have hp := HP.out
      cases f with
      | zero => simp at hf; omega
      | succ f =>
        unfold lubF at hl
        rw [← hp, if_pos hc] at hl
        rw [hl]
    · have hb : ((m : Int) == 2 * (p : Int) - 1) = false := by simp; omega
      have HC := Lib.hid hc; clear hc
      go_wp2_with (go_at_call 50; refine (len_k _ _ _ (by omega) HK.out).mono ?_; rintro e w' ⟨rfl, rfl⟩)
      have hl := HL.out
      have hf := HF.out
      have hc := HC.out
      have hp := HP.out
      go_round
      case rel =>
        cases f with
        | zero => simp at hf; omega
        | succ f =>
          have hst := step_bd f m hm1 hf (by rw [← hp]; exact hc)
          unfold lubF at hl
          rw [← hp] at hst hl
          rw [if_neg hc] at hl
          exact ⟨m - (p - 1), f, by go_num, hst.1, by omega, hst.2.1, hl⟩
      case measure => simp [intOf]; omega

end Go.Proofs.Ytapconhgcoefeaa.Luby
