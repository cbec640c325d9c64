/- Plain mathematics for the row of luby: a function of numbers, and its laws. No condition. -/
namespace Go.Proofs.Ytapconhgcoefeaa.Luby
set_option linter.unusedVariables false

def lubF : Nat → Nat → Nat
  | 0, _ => 0
  | f + 1, n => if n = 2 * 2 ^ n.log2 - 1 then 2 ^ n.log2 else lubF f (n - (2 ^ n.log2 - 1))

theorem pow_le (n : Nat) (h : 1 ≤ n) : 2 ^ n.log2 ≤ n := by have h0 : n ≠ 0 := (by omega); exact Nat.log2_self_le h0
theorem lt_pow (n : Nat) (h : 1 ≤ n) : n < 2 * 2 ^ n.log2 := by
  have := Nat.lt_log2_self (n := n)
  rw [Nat.pow_succ] at this
  omega
theorem pow_pos2 (n : Nat) : 1 ≤ 2 ^ n.log2 := Nat.one_le_two_pow

/-- one step: what is left is at least 1, less than the power, and fits in a bit less. -/
theorem step_bd (f n : Nat) (h1 : 1 ≤ n) (hf : n < 2 ^ (f + 1)) (hne : n ≠ 2 * 2 ^ n.log2 - 1) :
    1 ≤ n - (2 ^ n.log2 - 1) ∧ n - (2 ^ n.log2 - 1) < 2 ^ f ∧ n - (2 ^ n.log2 - 1) < n := by
  have a := pow_le n h1
  have b := lt_pow n h1
  have c := pow_pos2 n
  have d : 2 ^ n.log2 ≤ 2 ^ f := by
    apply Nat.pow_le_pow_right (by omega)
    have : n.log2 < f + 1 := (Nat.log2_lt (by omega)).2 hf
    omega
  have e : 2 ≤ 2 ^ n.log2 := by
    rcases Nat.eq_zero_or_pos n.log2 with h | h
    · rw [h] at a b hne; simp at hne; simp at b; omega
    · have q : 2 ^ 1 ≤ 2 ^ n.log2 := Nat.pow_le_pow_right (by omega) h
      omega
  omega

theorem stable (f : Nat) : ∀ (g n : Nat), 1 ≤ n → n < 2 ^ f → n < 2 ^ g → lubF f n = lubF g n := by
  induction f with
  | zero => intro g n h1 hf; simp at hf; omega
  | succ f ih =>
    intro g n h1 hf hg
    cases g with
    | zero => simp at hg; omega
    | succ g =>
      unfold lubF
      split
      · rfl
      · rename_i hne
        have a := step_bd f n h1 hf hne
        have b := step_bd g n h1 hg hne
        exact ih g _ a.1 a.2.1 b.2.1

/-- what is found is a power of two, and twice of it is at most one more than the number. -/
theorem found (f : Nat) : ∀ (n : Nat), 1 ≤ n → n < 2 ^ f → ∃ k, lubF f n = 2 ^ k ∧ 2 * 2 ^ k ≤ n + 1 := by
  induction f with
  | zero => intro n h1 hf; simp at hf; omega
  | succ f ih =>
    intro n h1 hf
    unfold lubF
    split
    · rename_i h
      exact ⟨n.log2, rfl, by have := pow_pos2 n; omega⟩
    · rename_i hne
      have a := step_bd f n h1 hf hne
      obtain ⟨k, hk, hk2⟩ := ih _ a.1 a.2.1
      exact ⟨k, hk, by omega⟩

def lub (n : Nat) : Nat := lubF 64 n

theorem lub_eq (n : Nat) (h1 : 1 ≤ n) (hn : n < 2 ^ 64) :
    lub n = if n = 2 * 2 ^ n.log2 - 1 then 2 ^ n.log2 else lub (n - (2 ^ n.log2 - 1)) := by
  unfold lub
  conv => lhs; unfold lubF
  split
  · rfl
  · rename_i hne
    have a := step_bd 63 n h1 hn hne
    exact stable 63 64 _ a.1 a.2.1 (by omega)

theorem lub_pos (n : Nat) (h1 : 1 ≤ n) (hn : n < 2 ^ 64) : 1 ≤ lub n ∧ 2 * lub n ≤ n + 1 := by
  obtain ⟨k, hk, h2⟩ := found 64 n h1 hn
  have := Nat.one_le_two_pow (n := k)
  unfold lub
  omega

/-- the sum, and how many are 1, of the row from 1 to n. -/
def sums : Nat → Nat
  | 0 => 0
  | n + 1 => sums n + lub (n + 1)
def ones : Nat → Nat
  | 0 => 0
  | n + 1 => ones n + if lub (n + 1) = 1 then 1 else 0

theorem sums_le (n : Nat) (hn : n < 2 ^ 32) : sums n ≤ n * (n + 1) := by
  induction n with
  | zero => simp [sums]
  | succ n ih =>
    have a := lub_pos (n + 1) (by omega) (by omega)
    have b := ih (by omega)
    unfold sums
    have : (n + 1) * (n + 1 + 1) = n * (n + 1) + 2 * (n + 1) := by
      rw [Nat.add_mul, Nat.mul_add, Nat.mul_add, Nat.mul_add]; omega
    omega
theorem ones_le (n : Nat) : ones n ≤ n := by
  induction n with
  | zero => simp [ones]
  | succ n ih => unfold ones; split <;> omega

end Go.Proofs.Ytapconhgcoefeaa.Luby
