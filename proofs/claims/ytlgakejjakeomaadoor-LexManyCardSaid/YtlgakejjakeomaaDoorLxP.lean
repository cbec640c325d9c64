/- Lines of words: too many words, too many lines: the texts. -/
import Derived.Test.YtlgakejjakeomaaDoorLxC
namespace Go.Proofs.YtlgakejjakeomaaDoor.Lx
set_option linter.unusedVariables false
set_option linter.unusedSimpArgs false
open Go.RowKit
/-- a text so many times. -/
def times (l : Bs) : Nat → Bs
  | 0 => []
  | k + 1 => l ++ times l k
theorem times_snoc (l : Bs) : ∀ k, times l (k + 1) = times l k ++ l
  | 0 => by simp [times]
  | k + 1 => by
    show l ++ times l (k + 1) = (l ++ times l k) ++ l
    rw [times_snoc l k, List.append_assoc]
theorem times_len (l : Bs) : ∀ k, (times l k).length = k * l.length
  | 0 => by simp [times]
  | k + 1 => by rw [times, List.length_append, times_len l k]; rw [Nat.succ_mul]; omega
theorem runW_a : ∀ (n i : Nat) (out : List Wp), out.length ≤ 40 →
    (out.length + n ≤ 40 → (runW 40 (times [97, 32] n) i out false false).1.length = out.length + n ∧ (runW 40 (times [97, 32] n) i out false false).2 = (0, 0)) ∧
    (40 < out.length + n → runW 40 (times [97, 32] n) i out false false = ([], i + 2 * (40 - out.length) + 1, 4))
  | 0, i, out, h => ⟨fun _ => ⟨rfl, rfl⟩, fun h2 => by omega⟩
  | n + 1, i, out, h => by
    have e : times [97, 32] (n + 1) = 97 :: 32 :: times [97, 32] n := rfl
    rw [e]
    by_cases hf : out.length = 40
    · refine ⟨fun h2 => by omega, fun _ => ?_⟩
      rw [runW_full (by decide) (by decide) hf, hf]
    · rw [runW_new (by decide) (by decide) hf, runW_off (by decide) (.inr (.inr (by decide)))]
      have ih := runW_a n (i + 1 + 1) (out ++ [(i, i + 1)]) (by simp; omega)
      have eb : (false || (32 : UInt8).toNat == 35) = false := by decide
      rw [eb]
      simp only [List.length_append, List.length_cons, List.length_nil] at ih
      refine ⟨fun h2 => ?_, fun h2 => ?_⟩
      · obtain ⟨a, b⟩ := ih.1 (by omega)
        exact ⟨by rw [a]; omega, b⟩
      · rw [ih.2 (by omega)]
        congr 2
        omega
theorem wordsF_a (n : Nat) : (n ≤ 40 → (wordsF 40 (times [97, 32] n)).1.length = n ∧ (wordsF 40 (times [97, 32] n)).2 = (0, 0)) ∧ (40 < n → (wordsF 40 (times [97, 32] n)).2 = (81, 4)) := by
  obtain ⟨a, b⟩ := runW_a n 0 [] (by simp)
  simp only [List.length_nil, Nat.zero_add] at a b
  refine ⟨fun h => ?_, fun h => ?_⟩
  · obtain ⟨c, d⟩ := a h
    refine ⟨by simp [wordsF, wordsT, c], ?_⟩
    show ((runW 40 (times [97, 32] n) 0 [] false false).2.1, (runW 40 (times [97, 32] n) 0 [] false false).2.2) = _
    rw [d]
  · show ((runW 40 (times [97, 32] n) 0 [] false false).2.1, (runW 40 (times [97, 32] n) 0 [] false false).2.2) = _
    rw [b h]
theorem no10_a : ∀ n, (10 : UInt8) ∉ times [97, 32] n
  | 0 => by simp [times]
  | n + 1 => by
    have e : times [97, 32] (n + 1) = 97 :: 32 :: times [97, 32] n := rfl
    rw [e]
    simp only [List.mem_cons, not_or]
    exact ⟨by decide, by decide, no10_a n⟩
theorem linesF_a (n : Nat) (hn : n < 50) : (n = 0 → linesF (times [97, 32] n) = ([], (0, 0), 0)) ∧ (0 < n → n ≤ 40 → ∃ ws : List WdT, ws.length = n ∧ linesF (times [97, 32] n) = ([(1, ws)], (0, 0), 0)) ∧ (40 < n → linesF (times [97, 32] n) = ([], (1, 81), 4)) := by
  have hl := times_len [97, 32] n
  have e : linesF (times [97, 32] n) = runL [times [97, 32] n] 0 [] := by
    unfold linesF
    rw [if_neg (by rw [hl]; simp; omega), cut_none 10 _ (no10_a n)]
  obtain ⟨a, b⟩ := wordsF_a n
  rw [e, runL]
  simp only [List.length_nil, Nat.zero_add, if_neg (show ¬ (0 : Nat) = 2000 by decide)]
  refine ⟨fun h => ?_, fun h1 h2 => ?_, fun h => ?_⟩
  · subst h
    rfl
  · obtain ⟨c, d⟩ := a h2
    refine ⟨_, c, ?_⟩
    rw [d, if_pos rfl, if_neg (by intro h; rw [h] at c; simp at c; omega)]
    rfl
  · rw [b h, if_neg (by decide)]
/-- the lines of so many times a free line, a word, a free line. -/
theorem cut_b : ∀ m, cutAt 10 (times [10, 32, 98, 10] (m + 1)) = [] :: [32, 98] :: cutAt 10 (times [10, 32, 98, 10] m) := fun m => by
  have e : times [10, 32, 98, 10] (m + 1) = [] ++ 10 :: ([32, 98] ++ 10 :: times [10, 32, 98, 10] m) := rfl
  rw [e, cut_at 10 _ _ (by simp), cut_at 10 _ _ (by decide)]
theorem run_b : ∀ (m n : Nat) (acc : List LnT), acc.length ≤ 2000 →
    (acc.length + m ≤ 2000 → ∃ ls : List LnT, ls.length = acc.length + m ∧ runL (cutAt 10 (times [10, 32, 98, 10] m)) n acc = (ls, (0, 0), 0)) ∧
    (2000 < acc.length + m → runL (cutAt 10 (times [10, 32, 98, 10] m)) n acc = ([], (n + 2 * (2000 - acc.length) + 2, 2), 4))
  | 0, n, acc, h => by
    refine ⟨fun _ => ⟨acc, by simp, ?_⟩, fun h2 => by omega⟩
    have e : cutAt 10 (times [10, 32, 98, 10] 0) = [[]] := rfl
    rw [e, runL]
    have e2 : ∀ k, wordsF k [] = ([], 0, 0) := fun k => rfl
    rw [e2]
    rfl
  | m + 1, n, acc, h => by
    rw [cut_b, runL]
    have e2 : ∀ k, wordsF k [] = ([], 0, 0) := fun k => rfl
    rw [e2, if_pos rfl, if_pos rfl, runL]
    by_cases hf : acc.length = 2000
    · refine ⟨fun h2 => by omega, fun _ => ?_⟩
      have e3 : wordsF 0 [32, 98] = ([], 2, 4) := by decide
      rw [if_pos hf, e3, if_neg (by decide), hf]
    · have e3 : wordsF 40 [32, 98] = ([(2, [98])], 0, 0) := by decide
      rw [if_neg hf, e3, if_pos rfl, if_neg (by decide)]
      have ih := run_b m (n + 1 + 1) (acc ++ [(n + 1 + 1, [(2, [98])])]) (by simp; omega)
      simp only [List.length_append, List.length_cons, List.length_nil] at ih
      refine ⟨fun h2 => ?_, fun h2 => ?_⟩
      · obtain ⟨ls, a, b⟩ := ih.1 (by omega)
        exact ⟨ls, by omega, b⟩
      · rw [ih.2 (by omega)]
        congr 3
        omega
theorem linesF_b (m : Nat) (hm : m < 2010) : (m ≤ 2000 → ∃ ls : List LnT, ls.length = m ∧ linesF (times [10, 32, 98, 10] m) = (ls, (0, 0), 0)) ∧ (2000 < m → linesF (times [10, 32, 98, 10] m) = ([], (4002, 2), 4)) := by
  have e : linesF (times [10, 32, 98, 10] m) = runL (cutAt 10 (times [10, 32, 98, 10] m)) 0 [] := by
    unfold linesF
    rw [if_neg (by rw [times_len]; simp; omega)]
  have h := run_b m 0 [] (by simp)
  simp only [List.length_nil, Nat.zero_add] at h
  rw [e]
  exact h

end Go.Proofs.YtlgakejjakeomaaDoor.Lx
