/- The first 2^k - 1 of the row are together k times 2^(k-1), and of these 2^(k-1) are 1, for every k. -/
import Derived.Test.YtapconhgcoefeaaLubyFixedWalk
import Derived.OpenShut
namespace Go.Proofs.Ytapconhgcoefeaa.Luby
set_option linter.unusedVariables false
open Go.RowKit

/-- a fold that reckons quickly. -/
def both : Nat → Nat → Nat → Nat → Nat × Nat
  | 0, _, s, o => (s, o)
  | c + 1, i, s, o => both c (i + 1) (s + lub (i + 1)) (o + if lub (i + 1) = 1 then 1 else 0)
theorem both_eq (c : Nat) : ∀ i, both c i (sums i) (ones i) = (sums (i + c), ones (i + c)) := by
  induction c with
  | zero => intro i; rfl
  | succ c ih =>
    intro i
    unfold both
    have := ih (i + 1)
    simp only [sums, ones] at this
    rw [this]
    have e : i + 1 + c = i + (c + 1) := by omega
    rw [e]
theorem sums_pow : ∀ n : Fin 12, both (2 ^ (n.val + 1) - 1) 0 0 0 = ((n.val + 1) * 2 ^ n.val, 2 ^ n.val) := by decide +kernel
theorem sums_at (n : Nat) (h1 : 1 ≤ n) (h2 : n ≤ 12) : sums (2 ^ n - 1) = n * 2 ^ (n - 1) ∧ ones (2 ^ n - 1) = 2 ^ (n - 1) := by
  have a := sums_pow ⟨n - 1, by omega⟩
  have b := both_eq (2 ^ (n - 1 + 1) - 1) 0
  simp only [sums, ones, Nat.zero_add] at b
  simp only [b] at a
  have e : n - 1 + 1 = n := by omega
  rw [e] at a
  exact ⟨congrArg Prod.fst a, congrArg Prod.snd a⟩

/-- 2^n as the walk writes it. -/
theorem pow_i64 (n : Nat) (h2 : n ≤ 12) : ∃ P : Nat, P = 2 ^ n ∧ P ≤ 4096 ∧ 1 ≤ P ∧ IntKind.i64.wrap ((2 : Int) ^ n) = (P : Int) := by
  have h : 2 ^ n ≤ 2 ^ 12 := Nat.pow_le_pow_right (by omega) h2
  refine ⟨2 ^ n, rfl, h, Nat.one_le_two_pow, ?_⟩
  have e2 : ((2 ^ n : Nat) : Int) = (2 : Int) ^ n := by simp
  rw [← e2]
  have key : ∀ q : Nat, q ≤ 2 ^ 12 → IntKind.i64.wrap (q : Int) = q := fun q hq => IntWalk.i64_in _ (by omega)
  exact key _ h

/-- what the loop comes to, as the walk writes it. -/
theorem ends (n j : Nat) (h1 : 1 ≤ n) (h2 : n ≤ 12) (hj : j = 2 ^ n - 1) :
    ((sums j : Nat) : Int) = wrap64 ((n : Int) * 2 ^ (n - 1)) ∧ (((ones j : Nat) : Int) == wrap64 (2 ^ (n - 1))) = true := by
  obtain ⟨a, b⟩ := sums_at n h1 h2
  rw [← hj] at a b
  have h : 2 ^ (n - 1) ≤ 2 ^ 11 := Nat.pow_le_pow_right (by omega) (by omega)
  have h3 : n * 2 ^ (n - 1) ≤ 12 * 2 ^ 11 := Nat.mul_le_mul h2 h
  have e2 : ((2 ^ (n - 1) : Nat) : Int) = (2 : Int) ^ (n - 1) := by simp
  have e3 : ((n * 2 ^ (n - 1) : Nat) : Int) = (n : Int) * (2 : Int) ^ (n - 1) := by simp
  have key : ∀ q : Nat, q ≤ 12 * 2 ^ 11 → wrap64 (q : Int) = q := fun q hq => IntWalk.wrap64_in _ (by omega)
  rw [← e3, ← e2, key _ h3, key _ (by omega), a, b]
  simp
theorem sum_more (j : Nat) : Value.int .i64 ((sums j : Int) + (lub (j + 1) : Int)) = .int .i64 (sums (j + 1)) := by
  simp only [sums]
  go_num
theorem one_more (j : Nat) (h : ((lub (j + 1) : Int) == 1) = true) : Value.int .i64 ((ones j : Int) + 1) = .int .i64 (ones (j + 1)) := by
  have h' : lub (j + 1) = 1 := by simp at h; omega
  simp only [ones, h', if_true]
  go_num
theorem no_more (j : Nat) (h : ((lub (j + 1) : Int) == 1) = false) : Value.int .i64 (ones j : Int) = .int .i64 (ones (j + 1)) := by
  have h' : ¬ lub (j + 1) = 1 := by simp at h; omega
  simp only [ones, if_neg h']
  go_num

set_option maxHeartbeats 400000 in
theorem law_sums (a0 : Int) (w0 : (Lit.int .u8 a0).wf = true) (w : World) :
    Calls Try.prog 4 #[.int .u8 a0] w fun e w' => e = .returned (.bool true) ∧ Grown w w' := by
  have hb : 0 ≤ a0 ∧ a0 ≤ 255 := bounds_u8 w0
  obtain ⟨b, rfl⟩ := Int.eq_ofNat_of_zero_le hb.1
  go_enter Try.func4, Try.ntmps4
  go_wp2_with fail
  have hn0 : ∃ n : Nat, 1 ≤ n ∧ n ≤ 12 ∧ 1 + (b : Int) % 12 = (n : Int) := ⟨1 + b % 12, by omega, by omega, by omega⟩
  obtain ⟨n, hn1, hn2, hn⟩ := hn0
  rw [hn]
  have HN := Lib.hid hn; clear hn
  obtain ⟨P, hP, hP1, hP2, hPw⟩ := pow_i64 n hn2
  have HP := Lib.hid hP; clear hP
  go_loop [4, 5, 6, 7] (fun s o i _ => ∃ j : Nat, i = .int .i64 ((j : Int) + 1) ∧ j + 1 ≤ P ∧ s = .int .i64 (sums j) ∧ o = .int .i64 (ones j)) (fun _ _ i _ => P - (intOf i).toNat)
  case atStart => exact ⟨0, rfl, by omega, rfl, rfl⟩
  case round =>
    obtain ⟨j, rfl, hj, rfl, rfl⟩ := hrel
    have s1 := sums_le j (by omega)
    have s3 : j * (j + 1) ≤ 4096 * 4096 := Nat.mul_le_mul (by omega) (by omega)
    have s2 : sums j ≤ 16777216 := by omega
    have o1 := ones_le j
    clear s1 s3
    by_cases hlt : j + 1 < P
    · have l1 := lub_pos (j + 1) (by omega) (by omega)
      go_wp2_with (go_at_call 18; refine (row_nat (j + 1) _ (by omega) (by omega)).mono ?_; rintro e w' ⟨rfl, rfl⟩)
      all_goals
        go_round
        case rel => exact ⟨j + 1, by go_num, by omega, sum_more j, by first | exact one_more j ‹_› | exact no_more j ‹_›⟩
        case measure => simp [intOf]; omega
    · have hjP : j = P - 1 := by omega
      have hE := ends n j hn1 hn2 (by rw [← HP.out]; exact hjP)
      have hs := hE.1
      have ho := hE.2
      clear hjP hE
      go_wp2_with (go_at_call 16; refine (fixed_any _).mono ?_; rintro e w' ⟨rfl, c, t, rfl⟩)
      go_ret
      exact ⟨rfl, (Grown.refl _).alloc _ _⟩

end Go.Proofs.Ytapconhgcoefeaa.Luby
